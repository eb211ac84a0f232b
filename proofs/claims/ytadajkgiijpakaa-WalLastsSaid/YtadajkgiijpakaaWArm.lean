/-
  OPEN OF AN ARMED DOCK, over this translation: whatever call goes down, the log's file stays, and all that is there is safe.
-/
import Derived.Test.YtadajkgiijpakaaWOpR
namespace Go.Proofs.Ytadajkgiijpakaa
open Go.RowKit
open ByteP
set_option linter.unusedVariables false
set_option maxRecDepth 10000
/-- What an opening of an armed dock leaves. -/
def ArmEnd (w w' : World) (db mb K : Nat) (n : Nm) (F : Int → Option Fi) (k : Int) (f : Fi) (r : Nat) : Prop :=
  ∃ (K' : Nat) (n' : Nm) (F' : Int → Option Fi) (f' : Fi), K' ≤ K + 2 ∧ Dk w' db mb K' n' F' ∧ n'.cap = n.cap ∧ SzOK n'.size F' ∧ n'.size ≤ n.size ∧ 0 ≤ n'.left ∧ F' k = some f' ∧ (f'.bs = f.bs ∨ f'.bs = f.bs.take (atN f.bs r)) ∧
    (∀ x g, F' x = some g → g.s = g.n) ∧ (∀ x, x ≠ k → F' x = none ∨ F' x = F x) ∧ Fr w w' (Mine db mb F) ∧ (∀ b, Mine db mb F' b → Mine db mb F b)
theorem gd_dec (n : Nm) (h : n.left ≠ -1) (h2 : n.left ≠ 0) : gd n = { n with left := n.left - 1 } := by unfold gd; rw [if_neg h, if_neg h2]
theorem gd_left (n : Nm) (h : 0 ≤ n.left) : 0 ≤ (gd n).left := by
  unfold gd
  by_cases h1 : n.left = -1
  · omega
  · by_cases h2 : n.left = 0
    · rw [if_neg h1, if_pos h2]; show 0 ≤ n.left; exact h
    · rw [if_neg h1, if_neg h2]; show 0 ≤ n.left - 1; omega
theorem delF_mem {F : Int → Option Fi} {k : Int} {ns : List Int} (hn : ns.Nodup) (hm : ∀ x, x ∈ ns ↔ (F x).isSome = true) (x : Int) : x ∈ ns.erase k ↔ (delF F k x).isSome = true := by
  rw [hn.mem_erase_iff]
  unfold delF
  by_cases e : x = k
  · rw [if_pos e]; simp [e]
  · rw [if_neg e, ← hm]; simp [e]
theorem szL_congr {F G : Int → Option Fi} : ∀ {l : List Int}, (∀ x, x ∈ l → F x = G x) → szL F l = szL G l
  | [], _ => rfl
  | x :: t, h => by
    show ((fileAt F x).n : Int) + szL F t = ((fileAt G x).n : Int) + szL G t
    rw [szL_congr (l := t) (fun y hy => h y (by simp [hy])), show fileAt F x = fileAt G x by unfold fileAt; rw [h x (by simp)]]
theorem SzOK.del {z : Int} {F : Int → Option Fi} (h : SzOK z F) {k : Int} {f : Fi} (hf : F k = some f) : SzOK (z - (f.n : Int)) (delF F k) := by
  obtain ⟨ns, h1, h2, h3⟩ := h
  have hk : k ∈ ns := (h2 k).2 (by rw [hf]; rfl)
  refine ⟨ns.erase k, h1.erase k, delF_mem h1 h2, ?_⟩
  have hp := szL_perm F (List.perm_cons_erase hk)
  have e : szL (delF F k) (ns.erase k) = szL F (ns.erase k) := szL_congr (fun x hx => by
    have := (h1.mem_erase_iff).1 hx
    unfold delF
    rw [if_neg this.1])
  have e2 : szL F (k :: ns.erase k) = ((fileAt F k).n : Int) + szL F (ns.erase k) := rfl
  have e3 : fileAt F k = f := by unfold fileAt; rw [hf]; rfl
  rw [e3] at e2
  rw [e]
  omega
theorem remF_syn {F : Int → Option Fi} {k : Int} {ns : List Int} {j : Nat} (h : ∀ x g, F x = some g → g.s = g.n) : ∀ x g, remF F k ns j x = some g → g.s = g.n := fun x g hg => by
  unfold remF at hg
  split at hg
  · cases hg
  · exact h x g hg
section
variable {w : World} {B0 db mb K : Nat} {n : Nm} {F : Int → Option Fi}
set_option maxHeartbeats 8000000 in
theorem open_armed (h : Dk w db mb K n F) (hK : K ≤ 999999990) (hd : n.down = false) (hl0 : 0 ≤ n.left) (hl1 : n.left ≤ 9223372036854775807) (hz : SzOK n.size F) (hzc : n.size ≤ 4611686018427387904) (hsy : ∀ x g, F x = some g → g.s = g.n) {k : Int} {f : Fi} {r : Nat} (hh : Holds F k f r) :
    Calls Try.prog 15 #[.pointer (some ⟨db, 0, none⟩)] w fun e w' => (∃ v, e = .returned v) ∧ ArmEnd w w' db mb K n F k f r := by
  have H := Lib.hid h
  have HH := Lib.hid hh
  have HZ := Lib.hid hz
  have hg := h.good k f hh.at_
  have HGD := Lib.hid hg
  have hk0 : 0 ≤ k := hg.1
  have hk1 : k ≤ 999999 := hg.2.1
  have HSY := Lib.hid hsy
  clear h hh hz hg hsy
  go_enter Try.func15, Try.ntmps15
  go_wp2_with fail
  refine (names_up H.out (by omega) hd).mono ?_
  rintro e w1 ⟨A1, c1, ns, rfl, hown, hasc, hmem, hnk, hb1⟩
  have HM := Lib.hid hmem
  have HND := Lib.hid (asc_nodup hasc)
  have hkin : k ∈ ns := (hmem k).2 (by rw [HH.out.at_]; rfl)
  have HKI := Lib.hid hkin
  obtain ⟨g1, c1', hv1, _, hg1⟩ := hown.form (List.length_pos_of_mem hkin)
  injection hv1 with e1 e2 e3
  subst e1
  have HOW := Lib.hid hown
  have H1 := Lib.hid (H.out.below hb1)
  have HB1 := Lib.hid hb1
  have hrd : Rd w1 w1.heap.size (some ⟨g1, 0, none⟩) ns.length ns := ⟨rfl, fun _ => ⟨g1, 0, rfl, hg1, fun i hi => by rw [Nat.zero_add]; exact hown.cell hi⟩⟩
  have hnl : ns.length ≤ 999999990 := by omega
  have HNW := Lib.hid (newest_any (c := c1) H1.out hd hrd (by omega) hasc (fun x hx => (hmem x).1 hx) (fun k f hf => by have := (H1.out.good k f hf).2.2.2.2; omega))
  clear hown hasc hmem hb1 e2 e3 hrd hkin hnk
  go_wp2_with fail
  refine HNW.out.mono ?_
  rintro e w2 ⟨lb2, b2, rfl, hlb2, hb2, hor⟩
  obtain ⟨hz2, hL2, hat2⟩ : b2 = (f.n : Int) - (atN f.bs r : Nat) ∧ (∃ bA bn bc rv, Lg w2 (fun b => b < w1.heap.size) w1.heap.size lb2 ⟨db, k, bA, bn, bc, rv, (atN f.bs r : Nat), false⟩ (bsOf f.bs r) (rsOf f.bs r)) ∧ atN f.bs r ≤ f.n := by
    rcases hor with ⟨hno, _⟩ | ⟨k', hk', hlast, hf⟩
    · exact absurd ⟨f, r, HH.out.at_, HH.out.pos, HH.out.reads⟩ (hno k HKI.out)
    · obtain ⟨f', r', bA, bn, bc, rv, h1, h2, h3, h4, h5, h6⟩ := hf.ex
      obtain rfl : k' = k := by
        rcases Int.lt_trichotomy k' k with h7 | h7 | h7
        · exact absurd ⟨f, r, HH.out.at_, HH.out.pos, HH.out.reads⟩ (hlast k HKI.out h7)
        · exact h7
        · exact absurd ⟨f', r', h1, h2, h3⟩ (HH.out.last k' h7)
      rw [HH.out.at_] at h1
      injection h1 with h1
      subst h1
      obtain rfl := h3.uniq HH.out.reads
      exact ⟨h5, ⟨bA, bn, bc, rv, h6⟩, h4⟩
  obtain ⟨bA, bn, bc, rv, hL2⟩ := hL2
  obtain ⟨q, hq⟩ : ∃ q, atN f.bs r = q := ⟨_, rfl⟩
  have HQ := Lib.hid hq
  rw [hq] at hz2 hL2 hat2
  subst hz2
  have HL2 := Lib.hid hL2
  have H2 := Lib.hid (H1.out.below hb2)
  have HB2 : Hid (Below w.heap.size w w2) := Lib.hid (HB1.out.trans (hb2.mono HB1.out.size))
  have hn1 : (k == -1) = false := by simp; omega
  have HLB : Hid (w1.heap.size ≤ lb2) := Lib.hid hlb2
  have HMB : Hid (∀ b, Mine db mb F b → b < w1.heap.size) := Lib.hid (fun b hb => Nat.lt_of_not_le (fun h => H1.out.notMine h hb))
  have HS12 : Hid (w1.heap.size ≤ w2.heap.size) := Lib.hid hb2.size
  have HOW2 := Lib.hid (HOW.out.kept hb2)
  have hge := HOW.out.ge
  have HGE : Hid (w.heap.size ≤ g1) := Lib.hid (hge g1 rfl)
  have HNM : Hid (¬ Mine db mb F g1) := Lib.hid (fun h => H.out.notMine HGE.out h)
  clear hor hb2 hL2 HNW hq hge hg1 hlb2
  go_wp2_with fail
  go_loopw [33] (fun i wr => ∃ (j : Nat) (L : Int), j ≤ ns.length ∧ i = .int .i64 (j : Int) ∧ 0 ≤ L ∧ L ≤ n.left ∧ Hid (SzOK (n.size - remZ F k ns j) (remF F k ns j)) ∧ Hid (OpG w w2 wr db mb K lb2 { n with left := L } F k ns j)) (fun i _ => ns.length - (intOf i).toNat)
  case atStart => exact ⟨0, n.left, Nat.zero_le _, rfl, hl0, Int.le_refl _, Lib.hid (by rw [remZ_zero, remF_zero, Int.sub_zero]; exact HZ.out), Lib.hid ⟨by rw [remZ_zero, remF_zero]; show Dk w2 db mb K { n with size := n.size - 0, left := n.left } F; rw [Int.sub_zero]; exact H2.out, Fr.refl _ _⟩⟩
  case round =>
    obtain ⟨j, L, hj, rfl, hL0, hL1, HZJ, HG⟩ := hrel
    have x2 : wr.cell? ⟨lb2, 1, none⟩ = some (.int .i64 k) := (World.cell?_of_block (HG.out.fr.block lb2 HL2.out.lt (fun h => HL2.out.nd (HMB.out _ h)))).trans HL2.out.c1
    by_cases hlt : j < ns.length
    · have x3 : wr.cell? ⟨g1, j, none⟩ = some (.int .i64 (ix ns j)) := (World.cell?_of_block (HG.out.fr.block g1 (by have := block_lt_of_cell (HOW2.out.cell hlt); exact this) HNM.out)).trans (HOW2.out.cell hlt)
      have hxm : ix ns j ∈ ns := ix_mem hlt
      by_cases he : ix ns j = k
      · have hG2 := Lib.hid (show OpG w w2 wr db mb K lb2 { n with left := L } F k ns (j + 1) from ⟨by rw [remZ_skip hlt he, remF_skip hlt he]; exact HG.out.dk, HG.out.fr⟩)
        have hnn : (k == k) = true := by simp
        rw [he] at x3
        go_wp2_with fail
        exact ⟨⟨j + 1, L, by omega, rfl, hL0, hL1, Lib.hid (by rw [remZ_skip hlt he, remF_skip hlt he]; exact HZJ.out), hG2⟩, by simp [intOf]; omega⟩
      · obtain ⟨fx, hfx⟩ : ∃ fx, F (ix ns j) = some fx := Option.isSome_iff_exists.1 ((HM.out _).1 hxm)
        have hnn : (ix ns j == k) = false := by simp [he]
        have hzb := remZ_le (F := F) (k := k) (ns := ns) j
        rw [← HZ.out.of HND.out HM.out] at hzb
        have HFX : Hid ((fx.n : Int) = ((fileAt F (ix ns j)).n : Int)) := Lib.hid (by unfold fileAt; rw [hfx]; rfl)
        have hfr : remF F k ns j (ix ns j) = some fx := by rw [remF_at HND.out hlt]; exact hfx
        have HFR := Lib.hid hfr
        by_cases hL : L = 0
        · have HRM := Lib.hid (remove_now (k := ix ns j) (f := fx) HG.out.dk hd (by show L = 0; exact hL) hfr)
          clear hzb hfx hfr
          go_wp2_with fail
          refine HRM.out.mono ?_
          rintro e w3 ⟨rfl, hk3, hf3⟩
          have HK3 := Lib.hid hk3
          have HF3 := Lib.hid hf3
          clear hk3 hf3 HRM
          go_wp2_with fail
          (try simp only [Exit.inBlock, Exit.then])
          go_ret2
          refine ⟨⟨_, rfl⟩, K, _, remF F k ns j, f, by omega, HK3.out, (gd_size _).2, ?_, ?_, (gd_left _ hL0), by rw [remF_keep]; exact HH.out.at_, .inl rfl, ?_, ?_, Fr.of_below_then HB2.out (HG.out.fr.trans HF3.out (fun b hb => .inl (remF_mine hb))), fun b hb => remF_mine hb⟩
          · rw [(gd_size _).1]; exact HZJ.out
          · rw [(gd_size _).1]; show n.size - _ ≤ _; have := remZ_le (F := F) (k := k) (ns := ns) j; omega
          · exact remF_syn HSY.out
          · intro x hx; unfold remF; by_cases e : x ∈ ns.take j ∧ x ≠ k
            · exact .inl (if_pos e)
            · exact .inr (if_neg e)
        · have HRM := Lib.hid (remove_ok (k := ix ns j) (f := fx) HG.out.dk hd (by show -1 ≤ L; omega) (by show L ≤ _; omega) (by show L ≠ 0; exact hL) (by show _ ≤ n.size - _; omega) (by show n.size - _ ≤ _; omega) hfr)
          clear hzb hfx hfr
          go_wp2_with fail
          refine HRM.out.mono ?_
          rintro e w3 ⟨rfl, hk3, hf3⟩
          have HG3 : Hid (OpG w w2 w3 db mb K lb2 { n with left := L - 1 } F k ns (j + 1)) := Lib.hid ⟨by
            rw [remZ_del hlt he, ← remF_del hlt he, ← HFX.out]
            rw [gd_dec _ (by show L ≠ -1; omega) (by show L ≠ 0; exact hL)] at hk3
            have e : n.size - remZ F k ns j - (fx.n : Int) = n.size - (remZ F k ns j + (fx.n : Int)) := by omega
            show Dk w3 db mb K { n with size := n.size - (remZ F k ns j + (fx.n : Int)), left := L - 1 } _
            rw [← e]
            exact hk3, HG.out.fr.trans hf3 (fun b hb => .inl (remF_mine hb))⟩
          have HZ3 : Hid (SzOK (n.size - remZ F k ns (j + 1)) (remF F k ns (j + 1))) := Lib.hid (by
            have h := HZJ.out.del HFR.out
            rw [remZ_del hlt he, ← remF_del hlt he, ← HFX.out]
            have e : n.size - remZ F k ns j - (fx.n : Int) = n.size - (remZ F k ns j + (fx.n : Int)) := by omega
            rw [← e]; exact h)
          clear hk3 hf3 HRM
          go_wp2_with fail
          exact ⟨⟨j + 1, L - 1, by omega, rfl, by omega, by omega, HZ3, HG3⟩, by simp [intOf]; omega⟩
    · obtain rfl : j = ns.length := by omega
      have x4 : wr.cell? ⟨lb2, 4, none⟩ = some (.int .i64 (q : Int)) := (World.cell?_of_block (HG.out.fr.block lb2 HL2.out.lt (fun h => HL2.out.nd (HMB.out _ h)))).trans HL2.out.c4
      have hfk : remF F k ns ns.length k = some f := by rw [remF_keep]; exact HH.out.at_
      have HDK : Hid (Dk wr db mb K { n with size := (f.n : Int), left := L } (remF F k ns ns.length)) := Lib.hid (by
        have h : Dk wr db mb K { n with size := n.size - remZ F k ns ns.length, left := L } (remF F k ns ns.length) := HG.out.dk
        have e : n.size - remZ F k ns ns.length = (f.n : Int) := by
          rw [remZ_all_in HND.out HKI.out, ← HZ.out.of HND.out HM.out]
          have : fileAt F k = f := by unfold fileAt; rw [HH.out.at_]; rfl
          rw [this]
          omega
        rw [e] at h
        exact h)
      have HFR := Lib.hid HG.out.fr
      have HSK : Hid (f.s = f.n) := Lib.hid (HSY.out k f HH.out.at_)
      have HLE : Hid ((f.n : Int) ≤ n.size) := Lib.hid (by
        have h1 := remZ_all_in (F := F) HND.out HKI.out
        have h2 := HZ.out.of HND.out HM.out
        have h3 := remZ_le (F := F) (k := k) (ns := ns) ns.length
        have h4 : fileAt F k = f := by unfold fileAt; rw [HH.out.at_]; rfl
        rw [h4] at h1
        omega)
      have FIN : Hid (∀ (w4 : World) (K4 : Nat) (n4 : Nm) (F4 : Int → Option Fi) (f4 : Fi), K4 ≤ K + 2 → Dk w4 db mb K4 n4 F4 → n4.cap = n.cap → n4.size = (f4.n : Int) → f4.n ≤ f.n → 0 ≤ n4.left → F4 k = some f4 → (∀ x, x ≠ k → F4 x = none) → (f4.bs = f.bs ∨ f4.bs = f.bs.take (atN f.bs r)) → f4.s = f4.n → Fr w2 w4 (Mine db mb F) → (∀ b, Mine db mb F4 b → Mine db mb F b) → ArmEnd w w4 db mb K n F k f r) := Lib.hid (by
        intro w4 K4 n4 F4 f4 h1 h2 h3 h4 h5 hle h6 h7 h8 h9 h10 h11
        refine ⟨K4, n4, F4, f4, h1, h2, h3, by rw [h4]; exact szOK_one h6 h7, by have := HLE.out; omega, hle, h6, h8, fun x g hg => ?_, fun x hx => .inl (h7 x hx), Fr.of_below_then HB2.out h10, h11⟩
        by_cases e : x = k
        · subst e; rw [h6] at hg; injection hg with hg; subst hg; exact h9
        · rw [h7 x e] at hg; cases hg)
      have HOT : Hid (∀ x, x ≠ k → remF F k ns ns.length x = none) := Lib.hid (fun x hx => remF_all HM.out hx)
      by_cases hbeh : (q : Int) < (f.n : Int)
      · have hb1 : decide ((0 : Int) < (f.n : Int) - (q : Int)) = true := by simp; omega
        by_cases hL : L = 0
        · have HCT := Lib.hid (cut_now (k := k) (f := f) (p := q) (HDK.out.drewN 1) hd (by show L = 0; exact hL) hfk hat2)
          go_wp2_with fail
          go_region_held3 (fun W => W.cell? ⟨lb2, 1, none⟩ = some (.int .i64 k) ∧ W.cell? ⟨lb2, 4, none⟩ = some (.int .i64 (q : Int))) ((first | exact ⟨x5, x6⟩ | go_keep)) (first
            | (go_at_call 41; refine HCT.out.mono ?_; rintro e w3 ⟨rfl, hk3, hf3⟩; (have HK3 := Lib.hid hk3); (have HF3 : Hid (Fr wr w3 (Mine db mb (remF F k ns ns.length))) := Lib.hid ((Fr.drewN wr (Mine db mb (remF F k ns ns.length)) 1).trans hf3 (fun b hb => .inl hb))); clear hk3 hf3 HCT; (have hbl5 := World.cell?_of_block (w := wr) (w' := w3) (a := ⟨lb2, 1, none⟩) (HF3.out.block lb2 (by have := HL2.out.lt; have := HFR.out.size; omega) (fun h => HL2.out.nd (HMB.out _ (remF_mine h))))); (have hbl6 := World.cell?_of_block (w := wr) (w' := w3) (a := ⟨lb2, 4, none⟩) (HF3.out.block lb2 (by have := HL2.out.lt; have := HFR.out.size; omega) (fun h => HL2.out.nd (HMB.out _ (remF_mine h))))); (have x5 : w3.cell? ⟨lb2, 1, none⟩ = some (.int .i64 k) := hbl5.trans x2); (have x6 : w3.cell? ⟨lb2, 4, none⟩ = some (.int .i64 (q : Int)) := hbl6.trans x4); clear hbl5 hbl6))
          clear x2 x4 x6
          go_wp2_with fail
          go_ret2
          refine ⟨⟨_, rfl⟩, FIN.out w3 K _ (remF F k ns ns.length) f (by omega) HK3.out (gd_size _).2 (gd_size _).1 (Nat.le_refl _) (gd_left _ hL0) hfk HOT.out (.inl rfl) HSK.out (HFR.out.trans HF3.out (fun b hb => .inl (remF_mine hb))) (fun b hb => remF_mine hb)⟩
        · have HCT := Lib.hid (cut_ok (k := k) (f := f) (p := q) (HDK.out.drewN 1) (by omega) hd (by show -1 ≤ L; omega) (by show L ≤ _; omega) (by show L ≠ 0; exact hL) (by show _ ≤ (f.n : Int); omega) (by have := HGD.out.2.2.2.2; show (f.n : Int) ≤ _; omega) hfk hat2)
          go_wp2_with fail
          go_region_held3 (fun W => W.cell? ⟨lb2, 1, none⟩ = some (.int .i64 k) ∧ W.cell? ⟨lb2, 4, none⟩ = some (.int .i64 (q : Int))) ((first | exact ⟨x5, x6⟩ | go_keep)) (first
            | (go_at_call 41; refine HCT.out.mono ?_; rintro e w3 ⟨rfl, hk3, hf3⟩; rw [gd_dec _ (by show L ≠ -1; omega) (by show L ≠ 0; exact hL)] at hk3; (have HK3 := Lib.hid hk3); (have HF3 : Hid (Fr wr w3 (Mine db mb (remF F k ns ns.length))) := Lib.hid ((Fr.drewN wr (Mine db mb (remF F k ns ns.length)) 1).trans hf3 (fun b hb => .inl hb))); clear hk3 hf3 HCT; (have hbl5 := World.cell?_of_block (w := wr) (w' := w3) (a := ⟨lb2, 1, none⟩) (HF3.out.block lb2 (by have := HL2.out.lt; have := HFR.out.size; omega) (fun h => HL2.out.nd (HMB.out _ (remF_mine h))))); (have hbl6 := World.cell?_of_block (w := wr) (w' := w3) (a := ⟨lb2, 4, none⟩) (HF3.out.block lb2 (by have := HL2.out.lt; have := HFR.out.size; omega) (fun h => HL2.out.nd (HMB.out _ (remF_mine h))))); (have x5 : w3.cell? ⟨lb2, 1, none⟩ = some (.int .i64 k) := hbl5.trans x2); (have x6 : w3.cell? ⟨lb2, 4, none⟩ = some (.int .i64 (q : Int)) := hbl6.trans x4); clear hbl5 hbl6))
          have HC3 : Hid ((cutTo f q (min f.s q)).s = q) := Lib.hid (by show min f.s q = q; rw [HSK.out]; omega)
          by_cases hL2 : L - 1 = 0
          · have HSN := Lib.hid (sync_now (k := k) (f := cutTo f q (min f.s q)) HK3.out hd (by show L - 1 = 0; exact hL2) (by omega) (by omega) (putF_same _ _ _))
            clear x2 x4 x6
            go_wp2_with fail
            refine HSN.out.mono ?_
            rintro e w4 ⟨rfl, hk4, hf4⟩
            have HK4 := Lib.hid hk4
            have HF4 := Lib.hid hf4
            clear hk4 hf4 HSN
            go_wp2_with fail
            go_ret2
            refine ⟨⟨_, rfl⟩, FIN.out w4 (K + 1) _ (putF (remF F k ns ns.length) k (cutTo f q (min f.s q))) (cutTo f q (min f.s q)) (by omega) HK4.out (gd_size _).2 ?_ hat2 (gd_left _ (by show 0 ≤ L - 1; omega)) (putF_same _ _ _) (fun x hx => by rw [putF_other _ _ hx]; exact HOT.out x hx) (.inr (by rw [HQ.out]; rfl)) HC3.out ((HFR.out.trans HF3.out (fun b hb => .inl (remF_mine hb))).trans HF4.out (fun b hb => .inl (remF_mine (mine_cut hfk _ _ b hb)))) (fun b hb => remF_mine (mine_cut hfk _ _ b hb))⟩
            rw [(gd_size _).1]; show (f.n : Int) - ((f.n : Int) - (q : Nat)) = (q : Nat); omega
          · have HSN := Lib.hid (sync_ok (k := k) (f := cutTo f q (min f.s q)) HK3.out (by omega) hd (by show -1 ≤ L - 1; omega) (by show L - 1 ≤ _; omega) (by show L - 1 ≠ 0; exact hL2) (putF_same _ _ _))
            clear x2 x4 x6
            go_wp2_with fail
            refine HSN.out.mono ?_
            rintro e w4 ⟨rfl, hk4, hf4⟩
            have HK4 := Lib.hid hk4
            have HF4 := Lib.hid hf4
            clear hk4 hf4 HSN
            go_wp2_with fail
            go_ret2
            refine ⟨⟨_, rfl⟩, FIN.out w4 (K + 1 + 1) _ (putF (putF (remF F k ns ns.length) k (cutTo f q (min f.s q))) k { cutTo f q (min f.s q) with s := (cutTo f q (min f.s q)).n }) { cutTo f q (min f.s q) with s := (cutTo f q (min f.s q)).n } (by omega) HK4.out (gd_size _).2 ?_ hat2 (gd_left _ (by show 0 ≤ L - 1; omega)) (putF_same _ _ _) (fun x hx => by rw [putF_other _ _ hx, putF_other _ _ hx]; exact HOT.out x hx) (.inr (by rw [HQ.out]; rfl)) rfl ((HFR.out.trans HF3.out (fun b hb => .inl (remF_mine hb))).trans HF4.out (fun b hb => .inl (remF_mine (mine_cut hfk _ _ b hb)))) (fun b hb => remF_mine (mine_cut hfk _ _ b (mine_synced (putF_same _ _ _) b hb)))⟩
            rw [(gd_size _).1]; show (f.n : Int) - ((f.n : Int) - (q : Nat)) = (q : Nat); omega
      · have hqn : q = f.n := by omega
        have hb1 : decide ((0 : Int) < (f.n : Int) - (q : Int)) = false := by simp; omega
        by_cases hL : L = 0
        · have HSN := Lib.hid (sync_now (k := k) (f := f) HDK.out hd (by show L = 0; exact hL) (by omega) (by omega) hfk)
          go_wp2_with fail
          refine HSN.out.mono ?_
          rintro e w4 ⟨rfl, hk4, hf4⟩
          have HK4 := Lib.hid hk4
          have HF4 := Lib.hid hf4
          clear hk4 hf4 HSN
          go_wp2_with fail
          go_ret2
          exact ⟨⟨_, rfl⟩, FIN.out w4 K _ (remF F k ns ns.length) f (by omega) HK4.out (gd_size _).2 (gd_size _).1 (Nat.le_refl _) (gd_left _ hL0) hfk HOT.out (.inl rfl) HSK.out (HFR.out.trans HF4.out (fun b hb => .inl (remF_mine hb))) (fun b hb => remF_mine hb)⟩
        · have HSN := Lib.hid (sync_ok (k := k) (f := f) HDK.out (by omega) hd (by show -1 ≤ L; omega) (by show L ≤ _; omega) (by show L ≠ 0; exact hL) hfk)
          go_wp2_with fail
          refine HSN.out.mono ?_
          rintro e w4 ⟨rfl, hk4, hf4⟩
          have HK4 := Lib.hid hk4
          have HF4 := Lib.hid hf4
          clear hk4 hf4 HSN
          go_wp2_with fail
          go_ret2
          exact ⟨⟨_, rfl⟩, FIN.out w4 (K + 1) _ (putF (remF F k ns ns.length) k { f with s := f.n }) { f with s := f.n } (by omega) HK4.out (gd_size _).2 (gd_size _).1 (Nat.le_refl _) (gd_left _ hL0) (putF_same _ _ _) (fun x hx => by rw [putF_other _ _ hx]; exact HOT.out x hx) (.inl rfl) rfl (HFR.out.trans HF4.out (fun b hb => .inl (remF_mine hb))) (fun b hb => remF_mine (mine_synced hfk b hb))⟩
end
end Go.Proofs.Ytadajkgiijpakaa
