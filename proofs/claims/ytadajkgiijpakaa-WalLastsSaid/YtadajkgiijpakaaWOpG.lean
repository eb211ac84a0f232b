/-
  CONTRACTS of package wal, over this translation: Open of a dock that is up, with any files.
-/
import Derived.Test.YtadajkgiijpakaaWOp1
import Derived.Test.YtadajkgiijpakaaWBeg
import Derived.Test.YtadajkgiijpakaaKMore
import Derived.BigRegion
namespace Go.Proofs.Ytadajkgiijpakaa
open Go.RowKit
open ByteP
set_option linter.unusedVariables false
set_option maxRecDepth 10000
def szL (F : Int → Option Fi) : List Int → Int
  | [] => 0
  | x :: t => ((fileAt F x).n : Int) + szL F t
theorem szL_perm (F : Int → Option Fi) {a b : List Int} (h : a.Perm b) : szL F a = szL F b := by
  induction h with
  | nil => rfl
  | cons x _ ih => show _ + _ = _ + _; rw [ih]
  | swap x y l => show ((fileAt F y).n : Int) + (((fileAt F x).n : Int) + szL F l) = ((fileAt F x).n : Int) + (((fileAt F y).n : Int) + szL F l); omega
  | trans _ _ h1 h2 => exact h1.trans h2
theorem szL_ge (F : Int → Option Fi) : ∀ l : List Int, 0 ≤ szL F l
  | [] => Int.le_refl _
  | x :: t => by show 0 ≤ ((fileAt F x).n : Int) + szL F t; have := szL_ge F t; omega
theorem szL_app (F : Int → Option Fi) : ∀ a b : List Int, szL F (a ++ b) = szL F a + szL F b
  | [], b => by show _ = 0 + _; simp
  | x :: a, b => by show ((fileAt F x).n : Int) + szL F (a ++ b) = ((fileAt F x).n : Int) + szL F a + szL F b; rw [szL_app F a b]; omega
/-- The size z is the files'. -/
def SzOK (z : Int) (F : Int → Option Fi) : Prop := ∃ ns : List Int, ns.Nodup ∧ (∀ x, x ∈ ns ↔ (F x).isSome = true) ∧ z = szL F ns
theorem asc_nodup {ns : List Int} (h : Asc ns) : ns.Nodup := List.Pairwise.imp (fun h => by omega) h
theorem SzOK.of {z : Int} {F : Int → Option Fi} (h : SzOK z F) {ns : List Int} (hn : ns.Nodup) (hm : ∀ x, x ∈ ns ↔ (F x).isSome = true) : z = szL F ns := by
  obtain ⟨ms, h1, h2, h3⟩ := h
  rw [h3]
  exact szL_perm F ((List.perm_ext_iff_of_nodup h1 hn).2 (fun x => by rw [h2, hm]))
theorem szOK_nil : SzOK 0 (fun _ => none) := ⟨[], List.nodup_nil, fun x => by simp, rfl⟩
theorem fileAt_put (F : Int → Option Fi) (k : Int) (f : Fi) : fileAt (putF F k f) k = f := by unfold fileAt; rw [putF_same]; rfl
theorem fileAt_other (F : Int → Option Fi) {k x : Int} (f : Fi) (h : x ≠ k) : fileAt (putF F k f) x = fileAt F x := by unfold fileAt; rw [putF_other _ _ h]
theorem szL_put {F : Int → Option Fi} {k : Int} {f : Fi} : ∀ {l : List Int}, k ∉ l → szL (putF F k f) l = szL F l
  | [], _ => rfl
  | x :: t, h => by
    have h1 : x ≠ k := fun e => h (by rw [e]; simp)
    show ((fileAt (putF F k f) x).n : Int) + _ = _
    rw [fileAt_other F f h1, szL_put (fun h2 => h (by simp [h2]))]
    rfl
theorem putF_isS {F : Int → Option Fi} {k : Int} {f : Fi} {ns : List Int} (hk : k ∈ ns) (hm : ∀ x, x ∈ ns ↔ (F x).isSome = true) {x : Int} : (putF F k f x).isSome = (F x).isSome := by
  by_cases e : x = k
  · subst e; rw [putF_same, (hm x).1 hk]; rfl
  · rw [putF_other _ _ e]
theorem SzOK.put {z : Int} {F : Int → Option Fi} (h : SzOK z F) (k : Int) (f : Fi) : SzOK (z - ((fileAt F k).n : Int) + (f.n : Int)) (putF F k f) := by
  obtain ⟨ns, h1, h2, h3⟩ := h
  by_cases hk : k ∈ ns
  · have hp := List.perm_cons_erase hk
    refine ⟨k :: ns.erase k, (hp.nodup_iff).1 h1, fun x => ?_, ?_⟩
    · rw [← hp.mem_iff, h2, putF_isS hk h2]
    · rw [h3, szL_perm F hp]
      have hn : k ∉ ns.erase k := fun h4 => by
        have := (hp.nodup_iff).1 h1
        exact (List.nodup_cons.1 this).1 h4
      show _ = ((fileAt (putF F k f) k).n : Int) + szL (putF F k f) (ns.erase k)
      rw [fileAt_put, szL_put hn]
      show ((fileAt F k).n : Int) + szL F (ns.erase k) - _ + _ = _
      omega
  · have hF : F k = none := by
      cases e : F k with
      | none => rfl
      | some f => exact absurd ((h2 k).2 (by rw [e]; rfl)) hk
    refine ⟨k :: ns, List.nodup_cons.2 ⟨hk, h1⟩, fun x => ?_, ?_⟩
    · by_cases e : x = k
      · subst e; rw [putF_same]; simp
      · rw [putF_other _ _ e, ← h2]; simp [e]
    · show _ = ((fileAt (putF F k f) k).n : Int) + szL (putF F k f) ns
      rw [fileAt_put, szL_put hk, h3]
      have : fileAt F k = noFi := by unfold fileAt; rw [hF]; rfl
      rw [this]
      simp [noFi]
      omega
/-- The files left when the first j names but k are removed. -/
def remF (F : Int → Option Fi) (k : Int) (ns : List Int) (j : Nat) : Int → Option Fi := fun x => if x ∈ ns.take j ∧ x ≠ k then none else F x
theorem remF_zero (F : Int → Option Fi) (k : Int) (ns : List Int) : remF F k ns 0 = F := by funext x; unfold remF; simp
theorem take_ixs {ns : List Int} {j : Nat} (h : j < ns.length) : ns.take (j + 1) = ns.take j ++ [ix ns j] := take_ix ns j h
theorem remF_skip {F : Int → Option Fi} {k : Int} {ns : List Int} {j : Nat} (h : j < ns.length) (e : ix ns j = k) : remF F k ns (j + 1) = remF F k ns j := by
  funext x
  unfold remF
  rw [take_ixs h, e]
  by_cases hx : x = k
  · simp [hx]
  · simp [hx]
theorem remF_del {F : Int → Option Fi} {k : Int} {ns : List Int} {j : Nat} (h : j < ns.length) (e : ix ns j ≠ k) : delF (remF F k ns j) (ix ns j) = remF F k ns (j + 1) := by
  funext x
  unfold remF delF
  rw [take_ixs h]
  by_cases hx : x = ix ns j
  · subst hx; simp [e]
  · simp [hx]
theorem ix_not_taken {ns : List Int} (hn : ns.Nodup) {j : Nat} (h : j < ns.length) : ix ns j ∉ ns.take j := fun hm => by
  have h1 : (ns.take (j + 1)).Nodup := hn.sublist (List.take_sublist _ _)
  rw [take_ixs h] at h1
  exact (List.nodup_append.1 h1).2.2 (ix ns j) hm (ix ns j) (by simp) rfl
theorem remF_at {F : Int → Option Fi} {k : Int} {ns : List Int} (hn : ns.Nodup) {j : Nat} (h : j < ns.length) : remF F k ns j (ix ns j) = F (ix ns j) := by
  unfold remF
  rw [if_neg (fun h1 => ix_not_taken hn h h1.1)]
theorem remF_keep (F : Int → Option Fi) (k : Int) (ns : List Int) (j : Nat) : remF F k ns j k = F k := by unfold remF; simp
theorem remF_all {F : Int → Option Fi} {k : Int} {ns : List Int} (hm : ∀ x, x ∈ ns ↔ (F x).isSome = true) {x : Int} (hx : x ≠ k) : remF F k ns ns.length x = none := by
  unfold remF
  by_cases h : x ∈ ns
  · rw [if_pos ⟨by rw [List.take_length]; exact h, hx⟩]
  · rw [if_neg (fun h1 => h (by have := h1.1; rw [List.take_length] at this; exact this))]
    cases e : F x with
    | none => rfl
    | some f => exact absurd ((hm x).2 (by rw [e]; rfl)) h
/-- What the first j names but k take away. -/
def remZ (F : Int → Option Fi) (k : Int) (ns : List Int) (j : Nat) : Int := szL F ((ns.take j).filter (fun x => decide (x ≠ k)))
theorem remZ_zero (F : Int → Option Fi) (k : Int) (ns : List Int) : remZ F k ns 0 = 0 := rfl
theorem remZ_skip {F : Int → Option Fi} {k : Int} {ns : List Int} {j : Nat} (h : j < ns.length) (e : ix ns j = k) : remZ F k ns (j + 1) = remZ F k ns j := by
  unfold remZ
  rw [take_ixs h, List.filter_append, e]
  simp
theorem remZ_del {F : Int → Option Fi} {k : Int} {ns : List Int} {j : Nat} (h : j < ns.length) (e : ix ns j ≠ k) : remZ F k ns (j + 1) = remZ F k ns j + ((fileAt F (ix ns j)).n : Int) := by
  unfold remZ
  rw [take_ixs h, List.filter_append, szL_app]
  simp [e, szL]
theorem remZ_le {F : Int → Option Fi} {k : Int} {ns : List Int} (j : Nat) : 0 ≤ remZ F k ns j ∧ remZ F k ns j ≤ szL F ns := by
  refine ⟨szL_ge _ _, ?_⟩
  have key : ∀ l : List Int, szL F (l.filter (fun x => decide (x ≠ k))) ≤ szL F l := fun l => by
    induction l with
    | nil => exact Int.le_refl _
    | cons x t ih =>
      rw [List.filter_cons]
      have e1 : szL F (x :: t) = ((fileAt F x).n : Int) + szL F t := rfl
      split
      · show ((fileAt F x).n : Int) + _ ≤ _; omega
      · omega
  have h1 := key (ns.take j)
  have h2 := congrArg (szL F) (List.take_append_drop j ns)
  rw [szL_app] at h2
  have h3 := szL_ge F (ns.drop j)
  unfold remZ
  omega
theorem remZ_all_in {F : Int → Option Fi} {k : Int} {ns : List Int} (hn : ns.Nodup) (hk : k ∈ ns) : remZ F k ns ns.length = szL F ns - ((fileAt F k).n : Int) := by
  unfold remZ
  rw [List.take_length]
  have hp := List.perm_cons_erase hk
  have e1 := szL_perm F hp
  have e2 : szL F (k :: ns.erase k) = ((fileAt F k).n : Int) + szL F (ns.erase k) := rfl
  have e3 : ns.filter (fun x => decide (x ≠ k)) = ns.erase k := by
    rw [hn.erase_eq_filter]
    congr 1
    funext x
    by_cases h : x = k <;> simp [h]
  rw [e3]
  omega
theorem remZ_all_out {F : Int → Option Fi} {k : Int} {ns : List Int} (hk : k ∉ ns) : remZ F k ns ns.length = szL F ns := by
  unfold remZ
  rw [List.take_length, List.filter_eq_self.2]
  intro x hx
  simp
  rintro rfl
  exact hk hx
set_option maxRecDepth 10000
/-- The log that a dock's files hold: name, base, records. -/
structure Holds (F : Int → Option Fi) (k : Int) (f : Fi) (r : Nat) : Prop where
  at_ : F k = some f
  pos : 0 < r
  reads : Reads f.bs r
  last : ∀ x, k < x → ¬ whole F x
section
variable {w : World} {B0 db mb K : Nat} {n : Nm} {F : Int → Option Fi}
/-- What the first part of Open leaves: names, newest, and the loop. -/
structure OpG (w w1 wr : World) (db mb K lb : Nat) (n : Nm) (F : Int → Option Fi) (k : Int) (ns : List Int) (j : Nat) : Prop where
  dk : Dk wr db mb K { n with size := n.size - remZ F k ns j } (remF F k ns j)
  fr : Fr w1 wr (Mine db mb F)
theorem remF_mine {db mb : Nat} {F : Int → Option Fi} {k : Int} {ns : List Int} {j b : Nat} (h : Mine db mb (remF F k ns j) b) : Mine db mb F b := by
  rcases h with e | e | ⟨k', f, hf, e⟩
  · exact .inl e
  · exact .inr (.inl e)
  · refine .inr (.inr ⟨k', f, ?_, e⟩)
    unfold remF at hf
    by_cases hk : k' ∈ ns.take j ∧ k' ≠ k
    · rw [if_pos hk] at hf; cases hf
    · rw [if_neg hk] at hf; exact hf
theorem mine_cut {db mb : Nat} {F : Int → Option Fi} {k : Int} {f : Fi} (hf : F k = some f) (p s : Nat) (b : Nat) (h : Mine db mb (putF F k (cutTo f p s)) b) : Mine db mb F b := by
  rcases h with e | e | ⟨k', f', hf', e⟩
  · exact .inl e
  · exact .inr (.inl e)
  · unfold putF at hf'
    by_cases hk : k' = k
    · rw [if_pos hk] at hf'
      injection hf' with hf'
      subst hf'
      refine .inr (.inr ⟨k, f, hf, ?_⟩)
      obtain ⟨A, n, c, bs, s'⟩ := f
      cases A with
      | none => cases e
      | some a => exact e
    · rw [if_neg hk] at hf'
      exact .inr (.inr ⟨k', f', hf', e⟩)
set_option maxHeartbeats 8000000 in
theorem open_found (h : Dk w db mb K n F) (hK : K ≤ 999999990) (hd : n.down = false) (hl : n.left = -1) (hz : SzOK n.size F) (hzc : n.size ≤ 4611686018427387904) (hB0 : B0 ≤ w.heap.size) (hB0m : B0 ≤ mb) {k : Int} {f : Fi} {r : Nat} (hh : Holds F k f r) :
    Calls Try.prog 15 #[.pointer (some ⟨db, 0, none⟩)] w fun e w' => ∃ (lb K' : Nat) (f' : Fi) (v' : LgV) (F' : Int → Option Fi), e = .returned (.tuple #[.pointer (some ⟨lb, 0, none⟩), .int .i64 0]) ∧ w.heap.size ≤ lb ∧ K' ≤ K + 2 ∧
      Dk w' db mb K' { n with size := (atN f.bs r : Nat) } F' ∧ F' k = some f' ∧ (∀ x, x ≠ k → F' x = none) ∧ f'.bs = f.bs.take (atN f.bs r) ∧ f'.n = atN f.bs r ∧ f'.s = f'.n ∧
      Lg w' (Mine db mb F') B0 lb v' (bsOf f.bs r) (rsOf f.bs r) ∧ v'.db = db ∧ v'.nm = k ∧ v'.cl = false ∧ v'.sz = (atN f.bs r : Nat) ∧ Fr w w' (Mine db mb F) ∧ (∀ b, Mine db mb F' b → Mine db mb F b) ∧ Lg w' (fun b => b < w.heap.size) B0 lb v' (bsOf f.bs r) (rsOf f.bs r) := by
  have H := Lib.hid h
  have HH := Lib.hid hh
  have HZ := Lib.hid hz
  have hg := h.good k f hh.at_
  have HGD := Lib.hid hg
  have hk0 : 0 ≤ k := hg.1
  have hk1 : k ≤ 999999 := hg.2.1
  clear h hh hz hg
  go_enter Try.func15, Try.ntmps15
  go_wp2_with fail
  refine (names_up H.out (by omega) hd).mono ?_
  rintro e w1 ⟨A1, c1, ns, rfl, hown, hasc, hmem, hnk, hb1⟩
  have HM := Lib.hid hmem
  have HND := Lib.hid (asc_nodup hasc)
  have hkin : k ∈ ns := (hmem k).2 (by rw [HH.out.at_]; rfl)
  have HKI := Lib.hid hkin
  obtain ⟨g1, c1', hv1, _, hg1⟩ := hown.form (List.length_pos_of_mem hkin)
  injection hv1 with e1 e2 e3
  subst e1
  have HOW := Lib.hid hown
  have H1 := Lib.hid (H.out.below hb1)
  have HB1 := Lib.hid hb1
  have hrd : Rd w1 w1.heap.size (some ⟨g1, 0, none⟩) ns.length ns := ⟨rfl, fun _ => ⟨g1, 0, rfl, hg1, fun i hi => by rw [Nat.zero_add]; exact hown.cell hi⟩⟩
  have hnl : ns.length ≤ 999999990 := by omega
  have HNW := Lib.hid (newest_any (c := c1) H1.out hd hrd (by omega) hasc (fun x hx => (hmem x).1 hx) (fun k f hf => by have := (H1.out.good k f hf).2.2.2.2; omega))
  clear hown hasc hmem hb1 e2 e3 hrd hkin hnk
  go_wp2_with fail
  refine HNW.out.mono ?_
  rintro e w2 ⟨lb2, b2, rfl, hlb2, hb2, hor⟩
  obtain ⟨hz2, hL2, hat2⟩ : b2 = (f.n : Int) - (atN f.bs r : Nat) ∧ (∃ bA bn bc rv, Lg w2 (fun b => b < w1.heap.size) w1.heap.size lb2 ⟨db, k, bA, bn, bc, rv, (atN f.bs r : Nat), false⟩ (bsOf f.bs r) (rsOf f.bs r)) ∧ atN f.bs r ≤ f.n := by
    rcases hor with ⟨hno, _⟩ | ⟨k', hk', hlast, hf⟩
    · exact absurd ⟨f, r, HH.out.at_, HH.out.pos, HH.out.reads⟩ (hno k HKI.out)
    · obtain ⟨f', r', bA, bn, bc, rv, h1, h2, h3, h4, h5, h6⟩ := hf.ex
      obtain rfl : k' = k := by
        rcases Int.lt_trichotomy k' k with h7 | h7 | h7
        · exact absurd ⟨f, r, HH.out.at_, HH.out.pos, HH.out.reads⟩ (hlast k HKI.out h7)
        · exact h7
        · exact absurd ⟨f', r', h1, h2, h3⟩ (HH.out.last k' h7)
      rw [HH.out.at_] at h1
      injection h1 with h1
      subst h1
      obtain rfl := h3.uniq HH.out.reads
      exact ⟨h5, ⟨bA, bn, bc, rv, h6⟩, h4⟩
  obtain ⟨bA, bn, bc, rv, hL2⟩ := hL2
  obtain ⟨q, hq⟩ : ∃ q, atN f.bs r = q := ⟨_, rfl⟩
  have HQ := Lib.hid hq
  rw [hq] at hz2 hL2 hat2
  subst hz2
  have HL2 := Lib.hid hL2
  have H2 := Lib.hid (H1.out.below hb2)
  have HB2 : Hid (Below w.heap.size w w2) := Lib.hid (HB1.out.trans (hb2.mono HB1.out.size))
  have hn1 : (k == -1) = false := by simp; omega
  have HLB : Hid (w1.heap.size ≤ lb2) := Lib.hid hlb2
  have HMB : Hid (∀ b, Mine db mb F b → b < w1.heap.size) := Lib.hid (fun b hb => Nat.lt_of_not_le (fun h => H1.out.notMine h hb))
  have HS12 : Hid (w1.heap.size ≤ w2.heap.size) := Lib.hid hb2.size
  have HOW2 := Lib.hid (HOW.out.kept hb2)
  have hge := HOW.out.ge
  have HGE : Hid (w.heap.size ≤ g1) := Lib.hid (hge g1 rfl)
  have HNM : Hid (¬ Mine db mb F g1) := Lib.hid (fun h => H.out.notMine HGE.out h)
  clear hor hb2 hL2 HNW hq hge hg1 hlb2
  go_wp2_with fail
  go_loopw [33] (fun i wr => ∃ j : Nat, j ≤ ns.length ∧ i = .int .i64 (j : Int) ∧ Hid (OpG w w2 wr db mb K lb2 n F k ns j)) (fun i _ => ns.length - (intOf i).toNat)
  case atStart => exact ⟨0, Nat.zero_le _, rfl, Lib.hid ⟨by rw [remZ_zero, remF_zero, Int.sub_zero]; exact H2.out, Fr.refl _ _⟩⟩
  case round =>
    obtain ⟨j, hj, rfl, HG⟩ := hrel
    have x2 : wr.cell? ⟨lb2, 1, none⟩ = some (.int .i64 k) := (World.cell?_of_block (HG.out.fr.block lb2 HL2.out.lt (fun h => HL2.out.nd (HMB.out _ h)))).trans HL2.out.c1
    by_cases hlt : j < ns.length
    · have x3 : wr.cell? ⟨g1, j, none⟩ = some (.int .i64 (ix ns j)) := (World.cell?_of_block (HG.out.fr.block g1 (by have := block_lt_of_cell (HOW2.out.cell hlt); exact this) HNM.out)).trans (HOW2.out.cell hlt)
      have hxm : ix ns j ∈ ns := ix_mem hlt
      by_cases he : ix ns j = k
      · have hG2 := Lib.hid (show OpG w w2 wr db mb K lb2 n F k ns (j + 1) from ⟨by rw [remZ_skip hlt he, remF_skip hlt he]; exact HG.out.dk, HG.out.fr⟩)
        have hnn : (k == k) = true := by simp
        rw [he] at x3
        go_wp2_with fail
        exact ⟨⟨j + 1, by omega, rfl, hG2⟩, by simp [intOf]; omega⟩
      · obtain ⟨fx, hfx⟩ : ∃ fx, F (ix ns j) = some fx := Option.isSome_iff_exists.1 ((HM.out _).1 hxm)
        have hnn : (ix ns j == k) = false := by simp [he]
        have hzb := remZ_le (F := F) (k := k) (ns := ns) j
        rw [← HZ.out.of HND.out HM.out] at hzb
        have HRM := Lib.hid (remove_ok (k := ix ns j) (f := fx) HG.out.dk hd (by show -1 ≤ n.left; omega) (by show n.left ≤ _; omega) (by show n.left ≠ 0; omega) (by show _ ≤ n.size - _; omega) (by show n.size - _ ≤ _; omega) (by rw [remF_at HND.out hlt]; exact hfx))
        have HFX : Hid ((fx.n : Int) = ((fileAt F (ix ns j)).n : Int)) := Lib.hid (by unfold fileAt; rw [hfx]; rfl)
        clear hzb hfx
        go_wp2_with fail
        refine HRM.out.mono ?_
        rintro e w3 ⟨rfl, hk3, hf3⟩
        have HG3 : Hid (OpG w w2 w3 db mb K lb2 n F k ns (j + 1)) := Lib.hid ⟨by
          rw [remZ_del hlt he, ← remF_del hlt he, ← HFX.out]
          rw [gd_off _ (by show n.left = -1; exact hl)] at hk3
          have e : n.size - remZ F k ns j - (fx.n : Int) = n.size - (remZ F k ns j + (fx.n : Int)) := by omega
          rw [← e]
          exact hk3, HG.out.fr.trans hf3 (fun b hb => .inl (remF_mine hb))⟩
        clear hk3 hf3 HRM
        go_wp2_with fail
        exact ⟨⟨j + 1, by omega, rfl, HG3⟩, by simp [intOf]; omega⟩
    · obtain rfl : j = ns.length := by omega
      have x4 : wr.cell? ⟨lb2, 4, none⟩ = some (.int .i64 (q : Int)) := (World.cell?_of_block (HG.out.fr.block lb2 HL2.out.lt (fun h => HL2.out.nd (HMB.out _ h)))).trans HL2.out.c4
      have hfk : remF F k ns ns.length k = some f := by rw [remF_keep]; exact HH.out.at_
      have HDK : Hid (Dk wr db mb K { n with size := (f.n : Int) } (remF F k ns ns.length)) := Lib.hid (by
        have h := HG.out.dk
        have e : n.size - remZ F k ns ns.length = (f.n : Int) := by
          rw [remZ_all_in HND.out HKI.out, ← HZ.out.of HND.out HM.out]
          have : fileAt F k = f := by unfold fileAt; rw [HH.out.at_]; rfl
          rw [this]
          omega
        rw [e] at h
        exact h)
      have HFR := Lib.hid HG.out.fr
      have FIN : Hid (∀ (w3 w4 : World) (K3 : Nat) (F3 : Int → Option Fi) (f3 : Fi), F3 k = some f3 → (∀ x, x ≠ k → F3 x = none) → f3.bs = f.bs.take q → f3.n = q → (∀ b, Mine db mb F3 b → Mine db mb F b) → Fr w2 w3 (Mine db mb F) → K3 ≤ K + 1 →
          Dk w4 db mb (K3 + 1) { n with size := (q : Nat) } (putF F3 k { f3 with s := f3.n }) → Fr w3 w4 (Mine db mb F3) →
          ∃ (K' : Nat) (f' : Fi) (v' : LgV) (F' : Int → Option Fi), w.heap.size ≤ lb2 ∧ K' ≤ K + 2 ∧
            Dk w4 db mb K' { n with size := (q : Nat) } F' ∧ F' k = some f' ∧ (∀ x, x ≠ k → F' x = none) ∧ f'.bs = f.bs.take q ∧ f'.n = q ∧ f'.s = f'.n ∧
            Lg w4 (Mine db mb F') B0 lb2 v' (bsOf f.bs r) (rsOf f.bs r) ∧ v'.db = db ∧ v'.nm = k ∧ v'.cl = false ∧ v'.sz = (q : Nat) ∧ Fr w w4 (Mine db mb F) ∧ (∀ b, Mine db mb F' b → Mine db mb F b) ∧ Lg w4 (fun b => b < w.heap.size) B0 lb2 v' (bsOf f.bs r) (rsOf f.bs r)) := Lib.hid (by
        intro w3 w4 K3 F3 f3 h1 h2 h3 h4 h5 h6 h7 h8 h9
        have hf : Fr w2 w4 (Mine db mb F) := h6.trans h9 (fun b hb => .inl (h5 b hb))
        refine ⟨K3 + 1, _, ⟨db, k, bA, bn, bc, rv, (q : Nat), false⟩, _, by have := HLB.out; have := HB1.out.size; omega, by omega, h8, putF_same _ _ _, fun x hx => by rw [putF_other _ _ hx]; exact h2 x hx, h3, h4, rfl, ?_, rfl, rfl, rfl, rfl, Fr.of_below_then HB2.out hf, fun b hb => h5 b (mine_synced h1 b hb), (HL2.out.turn (hf.less (fun b hb => HMB.out b hb)) (D' := fun b => b < w.heap.size) (fun b hb => .inl (Nat.lt_of_lt_of_le hb HB1.out.size))).low (by have := HB1.out.size; omega)⟩
        exact (HL2.out.turn (hf.less (fun b hb => HMB.out b hb)) (fun b hb => .inl (HMB.out b (h5 b (mine_synced h1 b hb))))).low (by have := HB1.out.size; omega))
      by_cases hbeh : (q : Int) < (f.n : Int)
      · have hb1 : decide ((0 : Int) < (f.n : Int) - (q : Int)) = true := by simp; omega
        have HCT := Lib.hid (cut_ok (k := k) (f := f) (p := q) (HDK.out.drewN 1) (by omega) hd (by show -1 ≤ n.left; omega) (by show n.left ≤ _; omega) (by show n.left ≠ 0; omega) (by show _ ≤ (f.n : Int); omega) (by have := HGD.out.2.2.2.2; show (f.n : Int) ≤ _; omega) hfk hat2)
        go_wp2_with fail
        go_region_held3 (fun W => W.cell? ⟨lb2, 1, none⟩ = some (.int .i64 k) ∧ W.cell? ⟨lb2, 4, none⟩ = some (.int .i64 (q : Int))) ((first | exact ⟨x5, x6⟩ | go_keep)) (first
          | (go_at_call 41; refine HCT.out.mono ?_; rintro e w3 ⟨rfl, hk3, hf3⟩; rw [gd_off _ (by show n.left = -1; exact hl)] at hk3; (have HK3 := Lib.hid hk3); (have HF3 : Hid (Fr wr w3 (Mine db mb (remF F k ns ns.length))) := Lib.hid ((Fr.drewN wr (Mine db mb (remF F k ns ns.length)) 1).trans hf3 (fun b hb => .inl hb))); clear hk3 hf3 HCT; (have hbl5 := World.cell?_of_block (w := wr) (w' := w3) (a := ⟨lb2, 1, none⟩) (HF3.out.block lb2 (by have := HL2.out.lt; have := HFR.out.size; omega) (fun h => HL2.out.nd (HMB.out _ (remF_mine h))))); (have hbl6 := World.cell?_of_block (w := wr) (w' := w3) (a := ⟨lb2, 4, none⟩) (HF3.out.block lb2 (by have := HL2.out.lt; have := HFR.out.size; omega) (fun h => HL2.out.nd (HMB.out _ (remF_mine h))))); (have x5 : w3.cell? ⟨lb2, 1, none⟩ = some (.int .i64 k) := hbl5.trans x2); (have x6 : w3.cell? ⟨lb2, 4, none⟩ = some (.int .i64 (q : Int)) := hbl6.trans x4); clear hbl5 hbl6))
        have HSY := Lib.hid (sync_ok (k := k) (f := cutTo f q (min f.s q)) HK3.out (by omega) hd (by show -1 ≤ n.left; omega) (by show n.left ≤ _; omega) (by show n.left ≠ 0; omega) (putF_same _ _ _))
        clear x2 x4 x6
        go_wp2_with fail
        refine HSY.out.mono ?_
        rintro e w4 ⟨rfl, hk4, hf4⟩
        rw [gd_off _ (by show n.left = -1; exact hl)] at hk4
        have HK4 := Lib.hid hk4
        have HF4 := Lib.hid hf4
        clear hk4 hf4 HSY
        go_wp2_with fail
        go_ret2
        obtain ⟨K', f', v', F', h0, h⟩ := FIN.out w3 w4 (K + 1) (putF (remF F k ns ns.length) k (cutTo f q (min f.s q))) (cutTo f q (min f.s q)) (putF_same _ _ _) (fun x hx => by rw [putF_other _ _ hx]; exact remF_all HM.out hx) rfl rfl (fun b hb => remF_mine (mine_cut hfk _ _ b hb)) (HFR.out.trans HF3.out (fun b hb => .inl (remF_mine hb))) (by omega) (by
          have h := HK4.out
          have e : (f.n : Int) - ((f.n : Int) - (q : Nat)) = (q : Nat) := by omega
          rw [e] at h
          exact h) HF4.out
        rw [HQ.out]
        exact ⟨lb2, K', f', v', F', rfl, h0, h⟩
      · have hqn : q = f.n := by omega
        have hb1 : decide ((0 : Int) < (f.n : Int) - (q : Int)) = false := by simp; omega
        have HSY := Lib.hid (sync_ok (k := k) (f := f) HDK.out (by omega) hd (by show -1 ≤ n.left; omega) (by show n.left ≤ _; omega) (by show n.left ≠ 0; omega) hfk)
        have HTK : Hid (f.bs = f.bs.take q) := Lib.hid (by rw [hqn, ← (H.out.own k f HH.out.at_).len, List.take_length])
        go_wp2_with fail
        refine HSY.out.mono ?_
        rintro e w4 ⟨rfl, hk4, hf4⟩
        rw [gd_off _ (by show n.left = -1; exact hl)] at hk4
        have HK4 := Lib.hid hk4
        have HF4 := Lib.hid hf4
        clear hk4 hf4 HSY
        go_wp2_with fail
        go_ret2
        obtain ⟨K', f', v', F', h0, h⟩ := FIN.out wr w4 K (remF F k ns ns.length) f hfk (fun x hx => remF_all HM.out hx) HTK.out hqn.symm (fun b hb => remF_mine hb) HFR.out (by omega) (by rw [show ((q : Nat) : Int) = (f.n : Int) by omega]; exact HK4.out) HF4.out
        rw [HQ.out]
        exact ⟨lb2, K', f', v', F', rfl, h0, h⟩
set_option maxHeartbeats 8000000 in
theorem open_none (h : Dk w db mb K n F) (hK : K ≤ 999999990) (hd : n.down = false) (hl : n.left = -1) (hz : SzOK n.size F) (hzc : n.size ≤ 4611686018427387904) (hc : n.cap ≤ 16777216) (hc9 : 9 ≤ n.cap) (hB0 : B0 ≤ w.heap.size) (hno : ∀ x, ¬ whole F x) :
    Calls Try.prog 15 #[.pointer (some ⟨db, 0, none⟩)] w fun e w' => ∃ (lb : Nat) (f' : Fi), e = .returned (.tuple #[.pointer (some ⟨lb, 0, none⟩), .int .i64 0]) ∧ w.heap.size ≤ lb ∧
      f'.bs = frmP 0 [] ∧ f'.n = 9 ∧ f'.s = 9 ∧ Dk w' db mb (K + 2) { n with size := 9 } (putF (fun _ => none) 0 f') ∧ Lg w' (Mine db mb (putF (fun _ => none) 0 f')) B0 lb (lgNew db 9) [] [] ∧ Fr w w' (Mine db mb F) ∧ (∀ b, Mine db mb (putF (fun _ => none) 0 f') b → Mine db mb F b ∨ w.heap.size ≤ b) := by
  have H := Lib.hid h
  have HNO := Lib.hid hno
  have HZ := Lib.hid hz
  clear h hno hz
  go_enter Try.func15, Try.ntmps15
  go_wp2_with fail
  refine (names_up H.out (by omega) hd).mono ?_
  rintro e w1 ⟨A1, c1, ns, rfl, hown, hasc, hmem, hnk, hb1⟩
  have HM := Lib.hid hmem
  have HND := Lib.hid (asc_nodup hasc)
  have HOW := Lib.hid hown
  have H1 := Lib.hid (H.out.below hb1)
  have HB1 := Lib.hid hb1
  have hrd : Rd w1 w1.heap.size A1 ns.length ns := ⟨rfl, fun hn => by
    obtain ⟨g1, c1', hv1, _, hg1⟩ := hown.form hn
    injection hv1 with e1 e2 e3
    subst e1
    exact ⟨g1, 0, rfl, hg1, fun i hi => by rw [Nat.zero_add]; exact hown.cell hi⟩⟩
  have hnl : ns.length ≤ 999999990 := by omega
  have HNW := Lib.hid (newest_any (c := c1) H1.out hd hrd (by omega) hasc (fun x hx => (hmem x).1 hx) (fun k f hf => by have := (H1.out.good k f hf).2.2.2.2; omega))
  clear hown hasc hmem hb1 hrd hnk
  go_wp2_with fail
  refine HNW.out.mono ?_
  rintro e w2 ⟨lb2, b2, rfl, hlb2, hb2, hor⟩
  obtain ⟨hz2, hL2⟩ : b2 = 0 ∧ NoLog w2 lb2 := by
    rcases hor with ⟨_, h1, h2⟩ | ⟨k', hk', _, hf⟩
    · exact ⟨h1, h2⟩
    · obtain ⟨f', r', bA, bn, bc, rv, h1, h2, h3, h4, h5, h6⟩ := hf.ex
      exact absurd ⟨f', r', h1, h2, h3⟩ (HNO.out k')
  subst hz2
  have HL2 := Lib.hid hL2
  have H2 := Lib.hid (H1.out.below hb2)
  have HB2 : Hid (Below w.heap.size w w2) := Lib.hid (HB1.out.trans (hb2.mono HB1.out.size))
  have HMB : Hid (∀ b, Mine db mb F b → b < w1.heap.size) := Lib.hid (fun b hb => Nat.lt_of_not_le (fun h => H1.out.notMine h hb))
  have HNL : Hid (¬ Mine db mb F lb2) := Lib.hid (fun h => by have := HMB.out _ h; omega)
  have HOW2 := Lib.hid (HOW.out.kept hb2)
  have HF1 : Hid (F (-1) = none) := Lib.hid (by
    cases e : F (-1) with
    | none => rfl
    | some f => have := (H2.out.good _ f e).1; omega)
  have HS2 := Lib.hid HB2.out.size
  clear hor hb2 hL2 HNW hlb2
  go_wp2_with fail
  go_loopw [33] (fun i wr => ∃ j : Nat, j ≤ ns.length ∧ i = .int .i64 (j : Int) ∧ Hid (OpG w w2 wr db mb K lb2 n F (-1) ns j)) (fun i _ => ns.length - (intOf i).toNat)
  case atStart => exact ⟨0, Nat.zero_le _, rfl, Lib.hid ⟨by rw [remZ_zero, remF_zero, Int.sub_zero]; exact H2.out, Fr.refl _ _⟩⟩
  case round =>
    obtain ⟨j, hj, rfl, HG⟩ := hrel
    have x2 : wr.cell? ⟨lb2, 1, none⟩ = some (.int .i64 (-1)) := (World.cell?_of_block (HG.out.fr.block lb2 (heapK_lt HL2.out) HNL.out)).trans (cellK_of_heap HL2.out (i := 1) (x := .int .i64 (-1)) rfl)
    by_cases hlt : j < ns.length
    · obtain ⟨g1, c1', hv1, hge1, hg1⟩ := HOW2.out.form (by omega)
      injection hv1 with e1 e2 e3
      subst e1
      have x3 : wr.cell? ⟨g1, j, none⟩ = some (.int .i64 (ix ns j)) := (World.cell?_of_block (HG.out.fr.block g1 hg1 (fun h => H.out.notMine hge1 h))).trans (HOW2.out.cell hlt)
      have hxm : ix ns j ∈ ns := ix_mem hlt
      obtain ⟨fx, hfx⟩ : ∃ fx, F (ix ns j) = some fx := Option.isSome_iff_exists.1 ((HM.out _).1 hxm)
      have he : ix ns j ≠ -1 := by have := (H2.out.good _ fx hfx).1; omega
      have hnn : (ix ns j == -1) = false := by simp [he]
      have hzb := remZ_le (F := F) (k := -1) (ns := ns) j
      rw [← HZ.out.of HND.out HM.out] at hzb
      have HRM := Lib.hid (remove_ok (k := ix ns j) (f := fx) HG.out.dk hd (by show -1 ≤ n.left; omega) (by show n.left ≤ _; omega) (by show n.left ≠ 0; omega) (by show _ ≤ n.size - _; omega) (by show n.size - _ ≤ _; omega) (by rw [remF_at HND.out hlt]; exact hfx))
      have HFX : Hid ((fx.n : Int) = ((fileAt F (ix ns j)).n : Int)) := Lib.hid (by unfold fileAt; rw [hfx]; rfl)
      clear hzb hfx e2 e3
      go_wp2_with fail
      refine HRM.out.mono ?_
      rintro e w3 ⟨rfl, hk3, hf3⟩
      have HG3 : Hid (OpG w w2 w3 db mb K lb2 n F (-1) ns (j + 1)) := Lib.hid ⟨by
        rw [remZ_del hlt he, ← remF_del hlt he, ← HFX.out]
        rw [gd_off _ (by show n.left = -1; exact hl)] at hk3
        have e : n.size - remZ F (-1) ns j - (fx.n : Int) = n.size - (remZ F (-1) ns j + (fx.n : Int)) := by omega
        rw [← e]
        exact hk3, HG.out.fr.trans hf3 (fun b hb => .inl (remF_mine hb))⟩
      clear hk3 hf3 HRM
      go_wp2_with fail
      exact ⟨⟨j + 1, by omega, rfl, HG3⟩, by simp [intOf]; omega⟩
    · obtain rfl : j = ns.length := by omega
      have hnone : remF F (-1) ns ns.length = fun _ => none := by
        funext x
        by_cases e : x = -1
        · subst e; rw [remF_keep]; exact HF1.out
        · exact remF_all HM.out e
      have HDK : Hid (Dk wr db mb K { n with size := 0 } (fun _ => none)) := Lib.hid (by
        have h := HG.out.dk
        have e : n.size - remZ F (-1) ns ns.length = 0 := by
          rw [remZ_all_out (fun h => by have := (HM.out (-1)).1 h; rw [HF1.out] at this; cases this), ← HZ.out.of HND.out HM.out]
          omega
        rw [e, hnone] at h
        exact h)
      have HFR : Hid (Fr w2 wr (Mine db mb F)) := Lib.hid HG.out.fr
      have HMN : Hid (∀ b, Mine db mb (fun _ => none) b → Mine db mb F b) := Lib.hid (fun b hb => by
        rcases hb with e | e | ⟨k', f, hf, e⟩
        · exact .inl e
        · exact .inr (.inl e)
        · cases hf)
      have HBG := Lib.hid (begin_ok (B0 := B0) HDK.out hK hd (by show n.left = -1; exact hl) (by show (0 : Int) ≤ 0; omega) hc rfl (by show (0 : Int) + 9 ≤ n.cap; omega) (by have := HS2.out; have := HFR.out.size; omega))
      clear hnone
      go_wp2_with fail
      refine HBG.out.mono ?_
      rintro e w4 ⟨lb4, f', rfl, hle, h1, h2, h3, h4, h5, h6, h7⟩
      have HR := Lib.hid (And.intro hle (And.intro h1 (And.intro h2 (And.intro h3 (And.intro h4 (And.intro h5 (And.intro h6 h7)))))))
      clear hle h1 h2 h3 h4 h5 h6 h7 HBG
      go_wp2
      go_ret2
      obtain ⟨hle, h1, h2, h3, h4, h5, h6, h7⟩ := HR.out
      have hs2 := HS2.out
      have hsr := HFR.out.size
      exact ⟨lb4, f', rfl, by omega, h1, h2, h3, h4, h5, Fr.of_below_then HB2.out (HFR.out.trans h6 (fun b hb => .inl (HMN.out b hb))), fun b hb => (h7 b hb).imp (HMN.out b) (fun h => by omega)⟩
end
end Go.Proofs.Ytadajkgiijpakaa
