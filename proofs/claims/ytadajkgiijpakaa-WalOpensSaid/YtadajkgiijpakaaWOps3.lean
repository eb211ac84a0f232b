/-
  THE WALK of the statement WalOpens, over this translation.
-/
import Derived.Test.YtadajkgiijpakaaWOpR
import Derived.Test.YtadajkgiijpakaaWRef
import Derived.Test.YtadajkgiijpakaaWFil
import Derived.Test.YtadajkgiijpakaaWSam
import Derived.Test.YtadajkgiijpakaaWAnc
import Derived.Test.YtadajkgiijpakaaKAll
namespace Go.Proofs.Ytadajkgiijpakaa
open Go.RowKit
open ByteP
set_option linter.unusedVariables false
set_option maxRecDepth 10000
theorem u8_not_box {w : World} {h2 off n c m d : Nat} {A D : Option Addr} {z x : Int} (h : w.heap[h2]? = some (.cells #[.slice A n c, .slice D m d, .int .i64 z] 36 (0, 0))) : w.cell? ⟨h2, off, none⟩ ≠ some (.int .u8 x) := fun h3 => by
  match off with
  | 0 => rw [cellK_of_heap h (i := 0) (x := .slice A n c) rfl] at h3; cases h3
  | 1 => rw [cellK_of_heap h (i := 1) (x := .slice D m d) rfl] at h3; cases h3
  | 2 => rw [cellK_of_heap h (i := 2) (x := .int .i64 z) rfl] at h3; cases h3
  | k + 3 => simp [World.cell?, h] at h3
theorem RdK.box {w : World} {M : Nat → Prop} {P : Option Addr} {k : Nat} {xs : List Int} (hr : RdK w M P k xs) {h2 n c m d : Nat} {A D : Option Addr} {z : Int} (h : w.heap[h2]? = some (.cells #[.slice A n c, .slice D m d, .int .i64 z] 36 (0, 0))) : RdK w (fun b => M b ∨ b = h2) P k xs := ⟨hr.1, fun hn => by
  obtain ⟨b, off, e, hb, hM, hc⟩ := hr.2 hn
  exact ⟨b, off, e, hb, fun e2 => e2.elim hM (fun e3 => by subst e3; exact u8_not_box h (hc 0 hn)), hc⟩⟩
theorem Row.box {w : World} {M : Nat → Prop} {B0 : Nat} {v : Value} {rs : List (List Int)} (hr : Row w M B0 v rs) {h2 n c m d : Nat} {A D : Option Addr} {z : Int} (h : w.heap[h2]? = some (.cells #[.slice A n c, .slice D m d, .int .i64 z] 36 (0, 0))) (ho : v.ownBlock ≠ some h2) : Row w (fun b => M b ∨ b = h2) B0 v rs := by
  have hnd := hr.nd
  obtain ⟨vals, hown, hj⟩ := hr.ex
  refine ⟨⟨vals, hown, fun j hjk => ?_⟩, fun g hg h4 => h4.elim (hnd g hg) (fun e => ho (by rw [hg, e]))⟩
  obtain ⟨P, k, c', e, h1, h3, h4⟩ := hj j hjk
  refine ⟨P, k, c', e, (h1.box h).weak (fun b hb => ?_), h3, h4⟩
  rcases hb with (h5 | h5) | h5
  · exact .inl (.inl (.inl h5))
  · exact .inl (.inr h5)
  · exact .inl (.inl (.inr h5))
/-- What the law has read of the first q files. -/
def WantC (wr : World) (F : Int → Option Fi) (ns : List Int) (h9 q B : Nat) (v8 : Value) : Prop :=
  ∃ (bA : Option Addr) (bn bc : Nat) (RA : Option Addr) (rn rc : Nat) (z : Int), wr.heap[h9]? = some (.cells #[.slice bA bn bc, .slice RA rn rc, .int .i64 z] 36 (0, 0)) ∧
    ((v8 = .int .i64 (-1) ∧ ∀ x, x ∈ ns.take q → ¬ whole F x) ∨
     ∃ a f r, v8 = .int .i64 a ∧ F a = some f ∧ 0 < r ∧ Reads f.bs r ∧ (∀ x, x ∈ ns.take q → a < x → ¬ whole F x) ∧ z = (atN f.bs r : Nat) ∧ rn = (rsOf f.bs r).length ∧ RdK wr (fun b => b = h9 ∨ b < B) bA bn (bsOf f.bs r) ∧ Row wr (fun b => b = h9 ∨ b < B) B (.slice RA rn rc) (rsOf f.bs r))
theorem WantC.below {wr w' : World} {F : Int → Option Fi} {ns : List Int} {h9 q B : Nat} {v8 : Value} (h : WantC wr F ns h9 q B v8) (hb : Below wr.heap.size wr w') : WantC w' F ns h9 q B v8 := by
  obtain ⟨bA, bn, bc, RA, rn, rc, z, h1, h2⟩ := h
  refine ⟨bA, bn, bc, RA, rn, rc, z, (hb.block h9 (heapK_lt h1)).trans h1, h2.imp id ?_⟩
  rintro ⟨a, f, r, e1, e2, e3, e4, e5, e6, e7, e8, e9⟩
  exact ⟨a, f, r, e1, e2, e3, e4, e5, e6, e7, e8.turn (Fr.of_below hb) (fun b hb => .inl hb), e9.below hb⟩
theorem WantC.not {wr : World} {F : Int → Option Fi} {ns : List Int} {h9 q B : Nat} {v8 : Value} (h : WantC wr F ns h9 q B v8) (hq : q < ns.length) (hn : ¬ whole F (ix ns q)) : WantC wr F ns h9 (q + 1) B v8 := by
  obtain ⟨bA, bn, bc, RA, rn, rc, z, h1, h2⟩ := h
  refine ⟨bA, bn, bc, RA, rn, rc, z, h1, ?_⟩
  have hm : ∀ x, x ∈ ns.take (q + 1) → x ∈ ns.take q ∨ x = ix ns q := fun x hx => by
    rw [take_ixs hq] at hx
    simpa using hx
  rcases h2 with ⟨e1, e2⟩ | ⟨a, f, r, e1, e2, e3, e4, e5, e6⟩
  · exact .inl ⟨e1, fun x hx => (hm x hx).elim (e2 x) (fun e => by rw [e]; exact hn)⟩
  · exact .inr ⟨a, f, r, e1, e2, e3, e4, fun x hx hax => (hm x hx).elim (fun h => e5 x h hax) (fun e => by rw [e]; exact hn), e6⟩
theorem asc_taken {ns : List Int} (h : Asc ns) {q : Nat} (hq : q < ns.length) : ∀ x, x ∈ ns.take (q + 1) → x ≤ ix ns q := fun x hx => by
  have h1 : Asc (ns.take (q + 1)) := h.sublist (List.take_sublist _ _)
  rw [take_ixs hq] at h1 hx
  rcases List.mem_append.1 hx with h2 | h2
  · have := (List.pairwise_append.1 h1).2.2 x h2 (ix ns q) (by simp)
    omega
  · rw [List.mem_singleton.1 h2]; exact Int.le_refl _
set_option maxHeartbeats 16000000 in
theorem law_opens {w : World} {A : Option Addr} {m c : Nat} {o : Nat → FlV} (ho : RdL w w.heap.size A m o) (hm : m ≤ 9223372036854775807) :
    Calls Try.prog 3 #[.slice A m c] w fun e w' => e = .returned (.bool true) ∧ Below w.heap.size w w' := by
  have HO := Lib.hid ho
  clear ho
  go_enter Try.func3, Try.ntmps3
  go_wp2_with fail
  refine (anchor_any w).mono ?_
  rintro e w0 ⟨rfl, hb0⟩
  have HB0 := Lib.hid hb0
  clear hb0
  go_wp2_with fail
  refine (new_any w0 1048576 (by omega) (by omega)).mono ?_
  rintro e w1 ⟨db, mb, rfl, hmb, hk1, hb1⟩
  have H1 := Lib.hid hk1
  have HB1 : Hid (Below w.heap.size w w1) := Lib.hid (HB0.out.trans (hb1.mono HB0.out.size))
  have HMB : Hid (w.heap.size ≤ mb) := Lib.hid (by have := HB0.out.size; omega)
  clear hk1 hb1 hmb
  by_cases hc3 : 8 < m
  · have d3 : decide ((8 : Int) < (m : Int)) = true := by simp; omega
    go_wp2
    go_ret
    exact ⟨rfl, HB1.out⟩
  have d3 : decide ((8 : Int) < (m : Int)) = false := by simp; omega
  go_wp2_with fail
  go_loopw [32] (fun i wr => ∃ (j K z : Nat) (F : Int → Option Fi), j ≤ m ∧ i = .int .i64 (j : Int) ∧ K ≤ j ∧ z ≤ 2000 * j ∧ Hid (SzOK (z : Int) F) ∧ Hid (∀ k f, F k = some f → f.n ≤ 2000 * j) ∧ Hid (Dk wr db mb K ⟨1048576, (z : Int), -1, false⟩ F) ∧ Hid (Below w.heap.size w wr)) (fun i _ => m - (intOf i).toNat)
  case atStart => exact ⟨0, 0, 0, fun _ => none, Nat.zero_le _, rfl, Nat.le_refl _, by omega, Lib.hid szOK_nil, Lib.hid (fun k f h => by cases h), H1, HB1⟩
  case round =>
    obtain ⟨j, K, z, F, hj, rfl, hK, hz, HZ, HN, HD, HB⟩ := hrel
    by_cases hlt : j < m
    · obtain ⟨b, off, hA, hbl, x0w, x1w, hdy, hdb⟩ := HO.out j hlt
      subst hA
      generalize o j = ov at *
      obtain ⟨nm, dA, dn, dc, ds⟩ := ov
      simp only at x0w x1w hdy hdb
      have x0 := (HB.out.cell (p := ⟨b, off + j * 2, none⟩) hbl).trans x0w
      have x1 := (HB.out.cell (p := ⟨b, off + j * 2 + 1, none⟩) hbl).trans x1w
      have HDY := Lib.hid hdy
      have HDB := Lib.hid hdb
      have hji : (j : Int) < (m : Int) := by omega
      clear x0w x1w hdy hdb hbl
      by_cases hdn : 2000 < dn
      · have e1 : decide ((2000 : Int) < (dn : Int)) = true := by simp; omega
        go_wp2
        go_ret
        exact ⟨rfl, HB.out.alloc HB.out.size _⟩
      have e1 : decide ((2000 : Int) < (dn : Int)) = false := by simp; omega
      obtain ⟨W, hW⟩ : ∃ W, wr.alloc (.cells #[.int .i64 nm, .slice dA dn dc] 28) = W := ⟨_, rfl⟩
      have HBW : Hid (Below w.heap.size w W) := Lib.hid (by rw [← hW]; exact HB.out.alloc HB.out.size _)
      have HDW : Hid (Dk W db mb K ⟨1048576, (z : Int), -1, false⟩ F) := Lib.hid (by rw [← hW]; exact HD.out.alloc _)
      have HWE := Lib.hid hW
      clear hW
      by_cases hnm : 0 ≤ nm ∧ nm ≤ 999999
      · obtain ⟨hn0, hn1⟩ := hnm
        have HFA : Hid ((fileAt F nm).n ≤ 2000 * j) := Lib.hid (by
          unfold fileAt
          cases e : F nm with
          | none => exact Nat.zero_le _
          | some f => exact HN.out nm f e)
        have HAP := Lib.hid (append_any (k := nm) (d := dc) HDW.out (by omega) rfl (by show (-1 : Int) ≤ -1; omega) (by show (-1 : Int) ≤ _; omega) (by show _ ≤ (z : Int); omega) (by show (1048576 : Int) ≤ _; omega) hn0 hn1
          (RdK.of_rd (HDY.out.below HBW.out) HBW.out.size (fun b hb => HDW.out.low (by have := HMB.out; omega))) HDB.out (by show (z : Int) + (dn : Int) ≤ 1048576; omega) (by have := HFA.out; omega))
        rw [if_neg (by show ¬ (-1 : Int) = 0; omega), gd_off _ rfl] at HAP
        go_wp2_with fail
        rw [HWE.out]
        refine HAP.out.mono ?_
        rintro e w5 ⟨rfl, f5, hbs5, hn5, hs5, hk5, hf5, hmi5⟩
        have HK5 := Lib.hid hk5
        have HB5 : Hid (Below w.heap.size w w5) := Lib.hid (HBW.out.trans ((hf5.below HDW.out).mono HMB.out))
        have HZ5 : Hid (SzOK ((z + dn : Nat) : Int) (putF F nm f5)) := Lib.hid (by
          have h := HZ.out.put nm f5
          have e : (z : Int) - ((fileAt F nm).n : Int) + (f5.n : Int) = ((z + dn : Nat) : Int) := by rw [hn5]; omega
          rw [e] at h
          exact h)
        have HN5 : Hid (∀ k f, putF F nm f5 k = some f → f.n ≤ 2000 * (j + 1)) := Lib.hid (fun k f h => by
          unfold putF at h
          by_cases e : k = nm
          · rw [if_pos e] at h; injection h with h; subst h; have := HFA.out; omega
          · rw [if_neg e] at h; have := HN.out k f h; omega)
        clear hbs5 hn5 hs5 hk5 hf5 hmi5 HAP
        go_wp2_with fail
        go_roundw
        case rel =>
          have HK6 : Hid (Dk w5 db mb (K + 1) ⟨1048576, ((z + dn : Nat) : Int), -1, false⟩ (putF F nm f5)) := Lib.hid (by
            have e : ((z + dn : Nat) : Int) = (z : Int) + (dn : Int) := by omega
            rw [e]; exact HK5.out)
          exact ⟨j + 1, K + 1, z + dn, _, by omega, by go_num, by omega, by omega, HZ5, HN5, HK6, HB5⟩
        case measure => simp [intOf]; omega
      · have HAP := Lib.hid (append_name (k := nm) HDW.out rfl (by omega) dA dn dc)
        go_wp2_with fail
        rw [HWE.out]
        refine HAP.out.mono ?_
        rintro e w5 ⟨rfl, rfl⟩
        clear HAP
        go_wp2_with fail
        go_roundw
        case rel => exact ⟨j + 1, K, z, F, by omega, by go_num, by omega, by omega, HZ, Lib.hid (fun k f h => by have := HN.out k f h; omega), HDW, HBW⟩
        case measure => simp [intOf]; omega
    · obtain rfl : j = m := by omega
      go_wp2_with fail
      refine (names_up HD.out (by omega) rfl).mono ?_
      rintro e w3 ⟨A3, c3, ns, rfl, hown, hasc, hmem, hnk, hb3⟩
      have HM := Lib.hid hmem
      have HASC := Lib.hid hasc
      have HOW := Lib.hid hown
      have HD3 := Lib.hid (HD.out.below hb3)
      have HB3 : Hid (Below w.heap.size w w3) := Lib.hid (HB.out.trans (hb3.mono HB.out.size))
      have hnl : ns.length ≤ 8 := by omega
      clear hown hasc hmem hb3
      obtain ⟨w4, hw4⟩ : ∃ w4, w3.alloc (.cells #[.slice none 0 0, .slice none 0 0, .int .i64 0] 36) = w4 := ⟨_, rfl⟩
      obtain ⟨h9, hh9⟩ : ∃ h9, w3.heap.size = h9 := ⟨_, rfl⟩
      have HC4 : Hid (w4.heap[h9]? = some (.cells #[.slice none 0 0, .slice none 0 0, .int .i64 0] 36 (0, 0))) := Lib.hid (by rw [← hw4, ← hh9]; exact heap_alloc_new w3 _)
      have hb34 : Below w3.heap.size w3 w4 := by rw [← hw4]; exact (Below.refl _ w3).alloc (Nat.le_refl _) _
      have HB34 := Lib.hid hb34
      have HD4 := Lib.hid (HD3.out.below hb34)
      have HOW4 := Lib.hid (HOW.out.kept hb34)
      have HB4 : Hid (Below w.heap.size w w4) := Lib.hid (HB3.out.trans (hb34.mono HB3.out.size))
      have HW4 : Hid (WantC w4 F ns h9 0 w3.heap.size (.int .i64 (-1))) := Lib.hid ⟨none, 0, 0, none, 0, 0, 0, HC4.out, .inl ⟨rfl, fun x hx => by simp at hx⟩⟩
      have HE4 := Lib.hid hw4
      have HH9 := Lib.hid hh9
      clear hw4 hb34 hh9
      go_wp2_with fail
      rw [HE4.out, HH9.out]
      go_loopw [8, 55] (fun v8 i wr => ∃ q : Nat, q ≤ ns.length ∧ i = .int .i64 (q : Int) ∧ Hid (WantC wr F ns h9 q w3.heap.size v8) ∧ Hid (Below w3.heap.size w3 wr)) (fun _ i _ => ns.length - (intOf i).toNat)
      case atStart => exact ⟨0, Nat.zero_le _, rfl, HW4, HB34⟩
      case round =>
        obtain ⟨q, hq, rfl, HWC, HBQ⟩ := hrel
        by_cases hltq : q < ns.length
        · obtain ⟨g3, c3', hv3, _, hg3⟩ := HOW.out.form (by omega)
          injection hv3 with e1 e2 e3
          subst e1
          have x3 : wr.cell? ⟨g3, q, none⟩ = some (.int .i64 (ix ns q)) := (HBQ.out.cell (p := ⟨g3, q, none⟩) hg3).trans (HOW.out.cell hltq)
          obtain ⟨fx, hfx⟩ : ∃ fx, F (ix ns q) = some fx := Option.isSome_iff_exists.1 ((HM.out _).1 (ix_mem hltq))
          have HDQ := Lib.hid (HD3.out.below HBQ.out)
          have HG := Lib.hid (HDQ.out.good _ fx hfx)
          have HRD := Lib.hid (read_some HDQ.out rfl hfx)
          have HFX := Lib.hid hfx
          have hqi : (q : Int) < (ns.length : Int) := by omega
          clear e2 e3 hfx hg3
          go_wp2_with fail
          refine HRD.out.mono ?_
          rintro e w5 ⟨A5, c5, rfl, hown5, hb5⟩
          have hcap : fx.n ≤ c5 := by
            by_cases h0 : fx.n = 0
            · omega
            · exact hown5.cap (by omega)
          have HRR := Lib.hid (refRead_any (fun b => b < w3.heap.size) (fun a ha h => by have h1 := hown5.ge a.block (by rw [ha]; rfl); have h2 := HBQ.out.size; omega) (fun b hb => by have h1 := HBQ.out.size; have h2 := hb5.size; omega) (c := c5) (hown5.rd (Below.refl _ _)) HG.out.2.2.2.1 hcap (by have := HG.out.2.2.2.2; omega) (Nat.le_refl _))
          have HWC5 := Lib.hid (HWC.out.below hb5)
          have HS5 : Hid (h9 < w5.heap.size) := Lib.hid (by obtain ⟨_, _, _, _, _, _, _, h1, _⟩ := HWC5.out; exact heapK_lt h1)
          have HBQ5 : Hid (Below w3.heap.size w3 w5) := Lib.hid (HBQ.out.trans (hb5.mono HBQ.out.size))
          clear hown5 hb5 HRD hcap x3
          go_wp2_with fail
          refine HRR.out.mono ?_
          rintro e w6 ⟨r, bA, bn, bc, rv, rfl, hrd6, hb6, hrow6, hbel6⟩
          obtain ⟨RA, rc, rfl⟩ := hrow6.shape
          have HWC6 := Lib.hid (HWC5.out.below hbel6)
          have HBQ6 : Hid (Below w3.heap.size w3 w6) := Lib.hid (HBQ5.out.trans (hbel6.mono HBQ5.out.size))
          have HR6 := Lib.hid hrd6
          have HBT6 := Lib.hid hb6
          have HROW6 := Lib.hid hrow6
          clear hrd6 hb6 hrow6 hbel6 HRR HWC5
          by_cases hr0 : 0 < r
          · have dr : decide (0 < r) = true := decide_eq_true hr0
            obtain ⟨pA, pn, pc, qA, qn, qc, pz, hcell, _⟩ := HWC6.out
            have HCB := Lib.hid hcell
            have HROWB := Lib.hid hcell
            have y0 := cellK_of_heap hcell (i := 0) (x := .slice pA pn pc) rfl
            have y1 := cellK_of_heap hcell (i := 1) (x := .slice qA qn qc) rfl
            have y2 := cellK_of_heap hcell (i := 2) (x := .int .i64 pz) rfl
            have f0 := freeK_of_heap (i := 0) hcell
            have f1 := freeK_of_heap (i := 1) hcell
            have f2 := freeK_of_heap (i := 2) hcell
            have hne9 : h9 ≠ w6.heap.size := Nat.ne_of_lt (heapK_lt hcell)
            have hlt9 : h9 < w6.heap.size := heapK_lt hcell
            clear hcell
            go_wp2_with fail
            apply wp_at
            case hr =>
              go_region_held3 (fun W => W.cell? ⟨w6.heap.size, 0, none⟩ = some (.slice bA bn bc) ∧ W.cell? ⟨w6.heap.size, 1, none⟩ = some (.slice RA (rsOf fx.bs r).length rc) ∧ W.cell? ⟨w6.heap.size, 2, none⟩ = some (.int .i64 ((atN fx.bs r : Nat) : Int))) ((first | (refine ⟨?_, ?_, ?_⟩ <;> (rw [World.cell?_drew, World.cell?_alloc_at (hn := by simp)]; rfl)) | go_keep)) (fail)
              all_goals exact ⟨rfl, rfl, rfl⟩
            case h =>
              go_wp2_with fail
              have hfb : Fr w6 (((w6.setCell ⟨h9, 0, none⟩ (.slice bA bn bc)).setCell ⟨h9, 1, none⟩ (.slice RA (rsOf fx.bs r).length rc)).setCell ⟨h9, 2, none⟩ (.int .i64 ((atN fx.bs r : Nat) : Int))) (fun b => b = h9) := ((Fr.setCell w6 (fun b => b = h9) (p := ⟨h9, 0, none⟩) rfl _).trans (Fr.setCell _ (fun b => b = h9) (p := ⟨h9, 1, none⟩) rfl _) (fun b hb => .inl hb)).trans (Fr.setCell _ (fun b => b = h9) (p := ⟨h9, 2, none⟩) rfl _) (fun b hb => .inl hb)
              have hcb := heap_setCell_same _ h9 2 _ _ (.int .i64 ((atN fx.bs r : Nat) : Int)) (heap_setCell_same _ h9 1 _ _ (.slice RA (rsOf fx.bs r).length rc) (heap_setCell_same w6 h9 0 _ _ (.slice bA bn bc) HCB.out))
              obtain ⟨WB, hWB⟩ : ∃ WB, ((w6.setCell ⟨h9, 0, none⟩ (.slice bA bn bc)).setCell ⟨h9, 1, none⟩ (.slice RA (rsOf fx.bs r).length rc)).setCell ⟨h9, 2, none⟩ (.int .i64 ((atN fx.bs r : Nat) : Int)) = WB := ⟨_, rfl⟩
              rw [hWB] at hfb hcb ⊢
              have hown9 : (Value.slice RA (rsOf fx.bs r).length rc).ownBlock ≠ some h9 := fun e => by
                have h1 := HROW6.out.block_ge h9 e
                have h2 := HS5.out
                omega
              have hWC : WantC WB F ns h9 (q + 1) w3.heap.size (.int .i64 (ix ns q)) := ⟨bA, bn, bc, RA, _, rc, _, hcb, .inr ⟨ix ns q, fx, r, rfl, HFX.out, hr0, HR6.out, (fun x hx hax => by have := asc_taken HASC.out hltq x hx; omega), rfl, rfl,
                (show RdK w6 (fun b => b = h9 ∨ b < w3.heap.size) bA bn (bsOf fx.bs r) from (RdK.box HBT6.out HCB.out).weak (fun b hb => .inl hb.symm)).turn (hfb.less (fun b hb => .inl hb)) (fun b hb => .inl hb),
                ((Row.box HROW6.out HCB.out hown9).turn (hfb.less (fun b hb => .inr hb)) (fun b hb => .inl hb.symm)).low (by have := HBQ5.out.size; omega)⟩⟩
              refine ⟨⟨q + 1, by omega, rfl, Lib.hid (hWC.below (((Below.refl _ WB).alloc (Nat.le_refl _) _).drew)), Lib.hid ((HBQ6.out.trans (fr_base hfb (fun b hb => by rw [hb, HH9.out]; exact Nat.le_refl _) HBQ6.out.size)).trans (((Below.refl _ WB).alloc (Nat.le_refl _) _).drew.mono (Nat.le_trans HBQ6.out.size hfb.size)))⟩, by simp [intOf]; omega⟩
          · have dr : decide (0 < r) = false := decide_eq_false hr0
            go_wp2_with fail
            refine ⟨⟨q + 1, by omega, rfl, Lib.hid ((HWC6.out.below ((Below.refl _ w6).alloc (Nat.le_refl _) _)).not hltq (fun h => ?_)), Lib.hid (HBQ6.out.alloc HBQ6.out.size _)⟩, by simp [intOf]; omega⟩
            obtain ⟨f', r', h1, h2, h3⟩ := h
            rw [HFX.out] at h1
            injection h1 with h1
            subst h1
            have := h3.uniq HR6.out
            omega
        · obtain rfl : q = ns.length := by omega
          have HDQ := Lib.hid (HD3.out.below HBQ.out)
          have HMI : Hid (∀ b, Mine db mb F b → b = h9 ∨ b < w3.heap.size) := Lib.hid (fun b hb => .inr (Nat.lt_of_not_le (fun h => HD3.out.notMine h hb)))
          have HNH : Hid (¬ Mine db mb F h9) := Lib.hid (HD3.out.notMine (by rw [← HH9.out]; exact Nat.le_refl _))
          have HIN : Hid (∀ x, whole F x → x ∈ ns.take ns.length) := Lib.hid (fun x hx => by
            obtain ⟨f, r, h1, _⟩ := hx
            rw [List.take_length]
            exact (HM.out x).2 (by rw [h1]; rfl))
          obtain ⟨bA, bn, bc, RA, rn, rc, zc, hcell, hor⟩ := HWC.out
          rcases hor with ⟨rfl, hno⟩ | ⟨a, f, r, rfl, hfa, hr0, hrd, hlast, rfl, rfl, hbk, hrow⟩
          · have HNO : Hid (∀ x, ¬ whole F x) := Lib.hid (fun x hx => hno x (HIN.out x hx) hx)
            have hcb := heap_setCell_same _ h9 2 _ _ (.int .i64 9) (heap_setCell_same _ h9 1 _ _ (.slice none 0 0) (heap_setCell_same wr h9 0 _ _ (.slice none 0 0) hcell))
            have hfb : Fr wr (((wr.setCell ⟨h9, 0, none⟩ (.slice none 0 0)).setCell ⟨h9, 1, none⟩ (.slice none 0 0)).setCell ⟨h9, 2, none⟩ (.int .i64 9)) (fun b => b = h9) := ((Fr.setCell wr (fun b => b = h9) (p := ⟨h9, 0, none⟩) rfl _).trans (Fr.setCell _ (fun b => b = h9) (p := ⟨h9, 1, none⟩) rfl _) (fun b hb => .inl hb)).trans (Fr.setCell _ (fun b => b = h9) (p := ⟨h9, 2, none⟩) rfl _) (fun b hb => .inl hb)
            have HOP : Hid (OpR (((wr.setCell ⟨h9, 0, none⟩ (.slice none 0 0)).setCell ⟨h9, 1, none⟩ (.slice none 0 0)).setCell ⟨h9, 2, none⟩ (.int .i64 9)) w3.heap.size h9 db mb K 1048576 (z : Int) 0 F [] [] 9 0) := Lib.hid
              ⟨HDQ.out.fr hfb (fun b hb h => HNH.out (by rw [← h]; exact hb)), HZ.out, by omega, by omega, by omega, ⟨⟨none, 0, none, 0, hcb, ⟨rfl, fun h => absurd h (Nat.lt_irrefl 0)⟩, Row.nil_ _ _ _⟩, HNH.out⟩, .inr ⟨rfl, rfl, rfl, rfl, rfl, HNO.out⟩⟩
            have HBW : Hid (Below w.heap.size w (((wr.setCell ⟨h9, 0, none⟩ (.slice none 0 0)).setCell ⟨h9, 1, none⟩ (.slice none 0 0)).setCell ⟨h9, 2, none⟩ (.int .i64 9))) := Lib.hid ((HB3.out.trans (HBQ.out.mono HB3.out.size)).trans (fr_base hfb (fun b hb => by rw [hb]; have h1 := HH9.out; have h2 := HB3.out.size; omega) (Nat.le_trans HB3.out.size HBQ.out.size)))
            have y0 := cellK_of_heap hcell (i := 0) (x := .slice bA bn bc) rfl
            have y1 := cellK_of_heap hcell (i := 1) (x := .slice RA rn rc) rfl
            have y2 := cellK_of_heap hcell (i := 2) (x := .int .i64 zc) rfl
            have f0 := freeK_of_heap (i := 0) hcell
            have f1 := freeK_of_heap (i := 1) hcell
            have f2 := freeK_of_heap (i := 2) hcell
            clear hcell hno hcb hfb
            go_wp2_with fail
            clear y0 y1 y2 f0 f1 f2
            generalize ((wr.setCell ⟨h9, 0, none⟩ (.slice none 0 0)).setCell ⟨h9, 1, none⟩ (.slice none 0 0)).setCell ⟨h9, 2, none⟩ (.int .i64 9) = W at HOP HBW ⊢
            go_loopw [77] (fun i wv => ∃ (p K' q : Nat) (s : Int) (F' : Int → Option Fi), p ≤ 2 ∧ i = .int .i64 (p : Int) ∧ K' ≤ 8 + 2 * p ∧ Hid (OpR wv w3.heap.size h9 db mb K' 1048576 s 0 F' ([] : List Int) ([] : List (List Int)) 9 q) ∧ Hid (Below w.heap.size w wv)) (fun i _ => 2 - (intOf i).toNat)
            case atStart => exact ⟨0, K, 0, _, F, by omega, rfl, by omega, HOP, HBW⟩
            case round =>
              obtain ⟨p, K', q', s, F', hp, rfl, hK', HOR, HBR⟩ := hrel
              by_cases hp2 : p < 2
              · have HPO := Lib.hid (opr_open (B0 := w.heap.size) HOR.out (by omega) HMB.out)
                have hpi : (p : Int) < 2 := by omega
                go_wp2_with fail
                refine HPO.out.mono ?_
                rintro e w5 ⟨lb, K5, f5, v5, F5, rfl, hK5, hop5, hfa5, hfo5, hfs5, hL5, hnm5, hsz5, hbn5, hrl5, hbl5, ha0, ha1, hb5⟩
                have hd5 : Below w5.heap.size w5 (w5.drewN 1) := below_drewN (Below.refl _ _) 1
                have hop5 := hop5.below hd5
                have hL5 := hL5.turn (Fr.of_below hd5) (D' := Mine db mb F5) (fun b hb => .inl hb)
                have HB5 : Hid (Below w.heap.size w (w5.drewN 1)) := Lib.hid (below_drewN (HBR.out.trans hb5) 1)
                have HOP5 := Lib.hid hop5
                have HFA5 := Lib.hid hfa5
                have HFO5 := Lib.hid hfo5
                have HFS5 := Lib.hid hfs5
                have HL5 := Lib.hid hL5
                have HNM := Lib.hid (name_any hL5)
                have HSZ := Lib.hid (lsize_any hL5)
                have HBA := Lib.hid (base_any hL5)
                rw [hnm5] at HNM
                rw [hsz5] at HSZ
                rw [hbn5] at HBA
                obtain ⟨bA5, bc5, RA5, rc5, hcell5, hbk5, hrow5⟩ := hop5.wt.box
                have HC5 := Lib.hid hcell5
                have HBK5 := Lib.hid hbk5
                have HRW5 := Lib.hid hrow5
                have HRL := Lib.hid hrl5
                have HBL := Lib.hid hbl5
                have y2 := cellK_of_heap hcell5 (i := 2) (x := .int .i64 ((9 : Nat) : Int)) rfl
                have hja : ((0 : Int) != (0 : Int)) = false := by simp
                have hjz : ((((9 : Nat) : Int)) != (((9 : Nat) : Int))) = false := by simp
                clear hd5 hop5 hfa5 hfo5 hfs5 hL5 hnm5 hsz5 hbn5 hrl5 hbl5 hb5 hcell5 hbk5 hrow5 HPO
                have x0 := cellK_of_heap HC5.out (i := 0) (x := .slice bA5 ([] : List Int).length bc5) rfl
                have x1 := cellK_of_heap HC5.out (i := 1) (x := .slice RA5 ([] : List (List Int)).length rc5) rfl
                have x2 := cellK_of_heap HC5.out (i := 2) (x := .int .i64 ((9 : Nat) : Int)) rfl
                go_wp2_with fail
                go_region_held3 (fun W => W.cell? ⟨h9, 0, none⟩ = some (.slice bA5 ([] : List Int).length bc5) ∧ W.cell? ⟨h9, 1, none⟩ = some (.slice RA5 ([] : List (List Int)).length rc5) ∧ W.cell? ⟨h9, 2, none⟩ = some (.int .i64 ((9 : Nat) : Int))) ((first | exact ⟨x0, x1, x2⟩ | go_keep)) (first
                  | (go_at_call 16; refine HNM.out.mono ?_; rintro e w6 ⟨rfl, hw6⟩; subst hw6; clear HNM)
                  | (go_at_call 17; refine HSZ.out.mono ?_; rintro e w6 ⟨rfl, hw6⟩; subst hw6; clear HSZ)
                  | (go_at_call 19; refine HBA.out.mono ?_; rintro e w6 ⟨A6, c6, rfl, ho6, hb6⟩; (have HB6 : Hid (Below w.heap.size w w6) := Lib.hid (HB5.out.trans (hb6.mono HB5.out.size))); (have HC6 := Lib.hid ((hb6.block _ (heapK_lt HC5.out)).trans HC5.out)); clear x0 x1 x2; (have x0 := cellK_of_heap HC6.out (i := 0) (x := .slice bA5 ([] : List Int).length bc5) rfl); (have x1 := cellK_of_heap HC6.out (i := 1) (x := .slice RA5 ([] : List (List Int)).length rc5) rfl); (have x2 := cellK_of_heap HC6.out (i := 2) (x := .int .i64 ((9 : Nat) : Int)) rfl); (have hr6 : RdY w6 w6.heap.size A6 ([] : List Int).length ([] : List Int) := by obtain ⟨A9, c9, hv, hr⟩ := ho6.shape; injection hv with e1 e2 e3; subst e1; exact hr); (have HOP6 := Lib.hid (HOP5.out.below hb6)); (have HL6 := Lib.hid (HL5.out.turn (Fr.of_below hb6) (fun b hb => .inl hb))); (have HSM := Lib.hid (sameY_any (c := c6) (d := bc5) hr6 (HBK5.out.turn (Fr.of_below hb6) (M' := Mine db mb F5) (fun b hb => .inl hb)).rd (by have := HBL.out; omega) (by have := HBL.out; omega))); (have HR6 := Lib.hid (HRW5.out.below hb6)); rw [sameY_refl] at HSM; clear ho6 hb6 hr6 HBA)
                  | (go_at_call 18; refine HSM.out.mono ?_; rintro e w7 ⟨rfl, q7, hq7⟩; (have hb7 : Below w6.heap.size w6 w7 := by rw [hq7]; exact below_drewN (Below.refl _ _) q7); (have HB7 : Hid (Below w.heap.size w w7) := Lib.hid (HB6.out.trans (hb7.mono HB6.out.size))); (have HC7 := Lib.hid ((hb7.block _ (heapK_lt HC6.out)).trans HC6.out)); clear x0 x1 x2; (have x0 := cellK_of_heap HC7.out (i := 0) (x := .slice bA5 ([] : List Int).length bc5) rfl); (have x1 := cellK_of_heap HC7.out (i := 1) (x := .slice RA5 ([] : List (List Int)).length rc5) rfl); (have x2 := cellK_of_heap HC7.out (i := 2) (x := .int .i64 ((9 : Nat) : Int)) rfl); (have HOP7 := Lib.hid (HOP6.out.below hb7)); (have HR7 := Lib.hid (HR6.out.below hb7)); (have HRC := Lib.hid (records_any (HL6.out.turn (Fr.of_below hb7) (D' := Mine db mb F5) (fun b hb => .inl hb)) (by have := HRL.out; omega))); clear hb7 hq7 HSM)
                  | (go_at_call 21; refine HRC.out.mono ?_; rintro e w8 ⟨A8, c8, rfl, hrow8, hb8⟩; (have HB8 : Hid (Below w.heap.size w w8) := Lib.hid (HB7.out.trans (hb8.mono HB7.out.size))); (have HC8 := Lib.hid ((hb8.block _ (heapK_lt HC7.out)).trans HC7.out)); clear x0 x1 x2; (have x0 := cellK_of_heap HC8.out (i := 0) (x := .slice bA5 ([] : List Int).length bc5) rfl); (have x1 := cellK_of_heap HC8.out (i := 1) (x := .slice RA5 ([] : List (List Int)).length rc5) rfl); (have x2 := cellK_of_heap HC8.out (i := 2) (x := .int .i64 ((9 : Nat) : Int)) rfl); (have HOP8 := Lib.hid (HOP7.out.below hb8)); (have HS14 := Lib.hid (same14_any (c := c8) (d := rc5) hrow8.rdT (HR7.out.below hb8).rdT (by have := HRL.out; omega) (by have := HRL.out; omega))); (have HYES : Hid (sameT ([] : List (List Int)).length (fun j => ([] : List (List Int)).getD j []) ([] : List (List Int)).length (fun j => ([] : List (List Int)).getD j []) = true) := Lib.hid (sameT_yes (fun i hi => rfl))); rw [HYES.out] at HS14; clear hrow8 hb8 HRC)
                  | (go_at_call 20; refine HS14.out.mono ?_; rintro e w9 ⟨rfl, q9, hq9⟩; (have hb9 : Below w8.heap.size w8 w9 := by rw [hq9]; exact below_drewN (Below.refl _ _) q9); (have HB9 : Hid (Below w.heap.size w w9) := Lib.hid (HB8.out.trans (hb9.mono HB8.out.size))); (have HC9 := Lib.hid ((hb9.block _ (heapK_lt HC8.out)).trans HC8.out)); clear x0 x1 x2; (have x0 := cellK_of_heap HC9.out (i := 0) (x := .slice bA5 ([] : List Int).length bc5) rfl); (have x1 := cellK_of_heap HC9.out (i := 1) (x := .slice RA5 ([] : List (List Int)).length rc5) rfl); (have x2 := cellK_of_heap HC9.out (i := 2) (x := .int .i64 ((9 : Nat) : Int)) rfl); (have HOP9 := Lib.hid (HOP8.out.below hb9)); (have HNA := Lib.hid (names_up HOP9.out.dk (by omega) rfl)); clear hb9 hq9 HS14))
                go_wp2_with fail
                refine HNA.out.mono ?_
                rintro e wa ⟨Aa, ca, na, rfl, howna, hasca, hmema, hnka, hba⟩
                obtain rfl := one_nm HFA5.out HFO5.out hasca hmema
                have HBa : Hid (Below w.heap.size w wa) := Lib.hid (HB9.out.trans (hba.mono HB9.out.size))
                have HCa := Lib.hid ((hba.block _ (heapK_lt HC9.out)).trans HC9.out)
                have HOPa := Lib.hid (HOP9.out.below hba)
                obtain ⟨ga, ca', hva, _, _⟩ := howna.form (by simp)
                injection hva with e1 e2 e3
                subst e1
                have ya : wa.cell? ⟨ga, 0, none⟩ = some (.int .i64 0) := howna.cell (j := 0) (by simp)
                have hgl := block_lt_of_cell ya
                have z2 := cellK_of_heap HCa.out (i := 2) (x := .int .i64 ((9 : Nat) : Int)) rfl
                have HSa := Lib.hid (size_any (HOPa.out.dk.drewN 1))
                have HFf := Lib.hid (safe_some (HOPa.out.dk.drewN 1) (k := 0) (by omega) (by omega) HFA5.out)
                rw [HFS5.out] at HFf
                have HLN : Hid (([0] : List Int).length = 1) := Lib.hid rfl
                rw [HLN.out]
                clear x0 x1 x2 howna hasca hmema hnka hba e2 e3
                go_wp2_with fail
                go_region_held3 (fun W => W.cell? ⟨h9, 2, none⟩ = some (.int .i64 ((9 : Nat) : Int)) ∧ W.cell? ⟨ga, 0, none⟩ = some (.int .i64 0)) ((first | exact ⟨z2, ya⟩ | go_keep)) (first
                  | (go_at_call 22; refine HSa.out.mono ?_; rintro e wb ⟨rfl, hwb⟩; subst hwb; clear HSa)
                  | (go_at_call 23; refine HFf.out.mono ?_; rintro e wc ⟨rfl, hbc⟩; (have hbd : Below wa.heap.size wa wc := (below_drewN (Below.refl _ _) 1).trans hbc); (have HBc : Hid (Below w.heap.size w wc) := Lib.hid (HBa.out.trans (hbd.mono HBa.out.size))); (have ybc : wc.cell? ⟨ga, 0, none⟩ = some (.int .i64 0) := (World.cell?_of_block (hbd.block ga hgl)).trans ya); (have zbc : wc.cell? ⟨h9, 2, none⟩ = some (.int .i64 ((9 : Nat) : Int)) := (World.cell?_of_block (hbd.block h9 (heapK_lt HCa.out))).trans z2); (have HOPc := Lib.hid (HOPa.out.below hbd)); clear z2 ya; (have z2 := zbc); (have ya := ybc); clear ybc zbc hbd hbc HFf))
                go_wp2_with fail
                exact ⟨⟨p + 1, K5, 1, _, F5, by omega, by go_num, by omega, HOPc, HBc⟩, by simp [intOf]; omega⟩
              · obtain rfl : p = 2 := by omega
                go_wp2_with fail
                go_ret
                exact ⟨rfl, HBR.out⟩
          · have HHO : Hid (Holds F a f r) := Lib.hid ⟨hfa, hr0, hrd, fun x hx hw => hlast x (HIN.out x hw) hx hw⟩
            have hg := HDQ.out.good a f hfa
            have d8 : decide (a < 0) = false := by simp; omega
            have HWT : Hid (Wants wr (Mine db mb F) w3.heap.size h9 (bsOf f.bs r) (rsOf f.bs r) (atN f.bs r)) := Lib.hid ⟨⟨bA, bc, RA, rc, by rw [hbk.1]; exact hcell, by rw [hbk.1]; exact hbk.weak (fun b hb => .inl (HMI.out b hb)), hrow.turn (Fr.refl _ _) (fun b hb => .inl (HMI.out b hb))⟩, HNH.out⟩
            have HOP : Hid (OpR wr w3.heap.size h9 db mb K 1048576 (z : Int) a F (bsOf f.bs r) (rsOf f.bs r) (atN f.bs r) 0) := Lib.hid ⟨HDQ.out, HZ.out, by omega, by omega, by omega, HWT.out, .inl ⟨f, r, HHO.out, rfl, rfl, rfl⟩⟩
            have HBW : Hid (Below w.heap.size w wr) := Lib.hid (HB3.out.trans (HBQ.out.mono HB3.out.size))
            clear hcell hlast hbk hrow hfa hr0 hrd hg
            go_wp2_with fail
            generalize bsOf f.bs r = bs at HOP ⊢
            generalize rsOf f.bs r = rs at HOP ⊢
            generalize atN f.bs r = zz at HOP ⊢
            obtain ⟨W, hW⟩ : ∃ W, wr = W := ⟨_, rfl⟩
            rw [hW] at HOP HBW ⊢
            clear hW
            go_loopw [77] (fun i wv => ∃ (p K' q : Nat) (s : Int) (F' : Int → Option Fi), p ≤ 2 ∧ i = .int .i64 (p : Int) ∧ K' ≤ 8 + 2 * p ∧ Hid (OpR wv w3.heap.size h9 db mb K' 1048576 s a F' bs rs zz q) ∧ Hid (Below w.heap.size w wv)) (fun i _ => 2 - (intOf i).toNat)
            case atStart => exact ⟨0, K, 0, _, F, by omega, rfl, by omega, HOP, HBW⟩
            case round =>
              obtain ⟨p, K', q', s, F', hp, rfl, hK', HOR, HBR⟩ := hrel
              by_cases hp2 : p < 2
              · have HPO := Lib.hid (opr_open (B0 := w.heap.size) HOR.out (by omega) HMB.out)
                have hpi : (p : Int) < 2 := by omega
                go_wp2_with fail
                refine HPO.out.mono ?_
                rintro e w5 ⟨lb, K5, f5, v5, F5, rfl, hK5, hop5, hfa5, hfo5, hfs5, hL5, hnm5, hsz5, hbn5, hrl5, hbl5, ha0, ha1, hb5⟩
                have hd5 : Below w5.heap.size w5 (w5.drewN 1) := below_drewN (Below.refl _ _) 1
                have hop5 := hop5.below hd5
                have hL5 := hL5.turn (Fr.of_below hd5) (D' := Mine db mb F5) (fun b hb => .inl hb)
                have HB5 : Hid (Below w.heap.size w (w5.drewN 1)) := Lib.hid (below_drewN (HBR.out.trans hb5) 1)
                have HOP5 := Lib.hid hop5
                have HFA5 := Lib.hid hfa5
                have HFO5 := Lib.hid hfo5
                have HFS5 := Lib.hid hfs5
                have HL5 := Lib.hid hL5
                have HNM := Lib.hid (name_any hL5)
                have HSZ := Lib.hid (lsize_any hL5)
                have HBA := Lib.hid (base_any hL5)
                rw [hnm5] at HNM
                rw [hsz5] at HSZ
                rw [hbn5] at HBA
                obtain ⟨bA5, bc5, RA5, rc5, hcell5, hbk5, hrow5⟩ := hop5.wt.box
                have HC5 := Lib.hid hcell5
                have HBK5 := Lib.hid hbk5
                have HRW5 := Lib.hid hrow5
                have HRL := Lib.hid hrl5
                have HBL := Lib.hid hbl5
                have y2 := cellK_of_heap hcell5 (i := 2) (x := .int .i64 ((zz : Nat) : Int)) rfl
                have hja : ((a : Int) != (a : Int)) = false := by simp
                have hjz : ((((zz : Nat) : Int)) != (((zz : Nat) : Int))) = false := by simp
                clear hd5 hop5 hfa5 hfo5 hfs5 hL5 hnm5 hsz5 hbn5 hrl5 hbl5 hb5 hcell5 hbk5 hrow5 HPO
                have x0 := cellK_of_heap HC5.out (i := 0) (x := .slice bA5 bs.length bc5) rfl
                have x1 := cellK_of_heap HC5.out (i := 1) (x := .slice RA5 rs.length rc5) rfl
                have x2 := cellK_of_heap HC5.out (i := 2) (x := .int .i64 ((zz : Nat) : Int)) rfl
                go_wp2_with fail
                go_region_held3 (fun W => W.cell? ⟨h9, 0, none⟩ = some (.slice bA5 bs.length bc5) ∧ W.cell? ⟨h9, 1, none⟩ = some (.slice RA5 rs.length rc5) ∧ W.cell? ⟨h9, 2, none⟩ = some (.int .i64 ((zz : Nat) : Int))) ((first | exact ⟨x0, x1, x2⟩ | go_keep)) (first
                  | (go_at_call 16; refine HNM.out.mono ?_; rintro e w6 ⟨rfl, hw6⟩; subst hw6; clear HNM)
                  | (go_at_call 17; refine HSZ.out.mono ?_; rintro e w6 ⟨rfl, hw6⟩; subst hw6; clear HSZ)
                  | (go_at_call 19; refine HBA.out.mono ?_; rintro e w6 ⟨A6, c6, rfl, ho6, hb6⟩; (have HB6 : Hid (Below w.heap.size w w6) := Lib.hid (HB5.out.trans (hb6.mono HB5.out.size))); (have HC6 := Lib.hid ((hb6.block _ (heapK_lt HC5.out)).trans HC5.out)); clear x0 x1 x2; (have x0 := cellK_of_heap HC6.out (i := 0) (x := .slice bA5 bs.length bc5) rfl); (have x1 := cellK_of_heap HC6.out (i := 1) (x := .slice RA5 rs.length rc5) rfl); (have x2 := cellK_of_heap HC6.out (i := 2) (x := .int .i64 ((zz : Nat) : Int)) rfl); (have hr6 : RdY w6 w6.heap.size A6 bs.length bs := by obtain ⟨A9, c9, hv, hr⟩ := ho6.shape; injection hv with e1 e2 e3; subst e1; exact hr); (have HOP6 := Lib.hid (HOP5.out.below hb6)); (have HL6 := Lib.hid (HL5.out.turn (Fr.of_below hb6) (fun b hb => .inl hb))); (have HSM := Lib.hid (sameY_any (c := c6) (d := bc5) hr6 (HBK5.out.turn (Fr.of_below hb6) (M' := Mine db mb F5) (fun b hb => .inl hb)).rd (by have := HBL.out; omega) (by have := HBL.out; omega))); (have HR6 := Lib.hid (HRW5.out.below hb6)); rw [sameY_refl] at HSM; clear ho6 hb6 hr6 HBA)
                  | (go_at_call 18; refine HSM.out.mono ?_; rintro e w7 ⟨rfl, q7, hq7⟩; (have hb7 : Below w6.heap.size w6 w7 := by rw [hq7]; exact below_drewN (Below.refl _ _) q7); (have HB7 : Hid (Below w.heap.size w w7) := Lib.hid (HB6.out.trans (hb7.mono HB6.out.size))); (have HC7 := Lib.hid ((hb7.block _ (heapK_lt HC6.out)).trans HC6.out)); clear x0 x1 x2; (have x0 := cellK_of_heap HC7.out (i := 0) (x := .slice bA5 bs.length bc5) rfl); (have x1 := cellK_of_heap HC7.out (i := 1) (x := .slice RA5 rs.length rc5) rfl); (have x2 := cellK_of_heap HC7.out (i := 2) (x := .int .i64 ((zz : Nat) : Int)) rfl); (have HOP7 := Lib.hid (HOP6.out.below hb7)); (have HR7 := Lib.hid (HR6.out.below hb7)); (have HRC := Lib.hid (records_any (HL6.out.turn (Fr.of_below hb7) (D' := Mine db mb F5) (fun b hb => .inl hb)) (by have := HRL.out; omega))); clear hb7 hq7 HSM)
                  | (go_at_call 21; refine HRC.out.mono ?_; rintro e w8 ⟨A8, c8, rfl, hrow8, hb8⟩; (have HB8 : Hid (Below w.heap.size w w8) := Lib.hid (HB7.out.trans (hb8.mono HB7.out.size))); (have HC8 := Lib.hid ((hb8.block _ (heapK_lt HC7.out)).trans HC7.out)); clear x0 x1 x2; (have x0 := cellK_of_heap HC8.out (i := 0) (x := .slice bA5 bs.length bc5) rfl); (have x1 := cellK_of_heap HC8.out (i := 1) (x := .slice RA5 rs.length rc5) rfl); (have x2 := cellK_of_heap HC8.out (i := 2) (x := .int .i64 ((zz : Nat) : Int)) rfl); (have HOP8 := Lib.hid (HOP7.out.below hb8)); (have HS14 := Lib.hid (same14_any (c := c8) (d := rc5) hrow8.rdT (HR7.out.below hb8).rdT (by have := HRL.out; omega) (by have := HRL.out; omega))); (have HYES : Hid (sameT rs.length (fun j => rs.getD j []) rs.length (fun j => rs.getD j []) = true) := Lib.hid (sameT_yes (fun i hi => rfl))); rw [HYES.out] at HS14; clear hrow8 hb8 HRC)
                  | (go_at_call 20; refine HS14.out.mono ?_; rintro e w9 ⟨rfl, q9, hq9⟩; (have hb9 : Below w8.heap.size w8 w9 := by rw [hq9]; exact below_drewN (Below.refl _ _) q9); (have HB9 : Hid (Below w.heap.size w w9) := Lib.hid (HB8.out.trans (hb9.mono HB8.out.size))); (have HC9 := Lib.hid ((hb9.block _ (heapK_lt HC8.out)).trans HC8.out)); clear x0 x1 x2; (have x0 := cellK_of_heap HC9.out (i := 0) (x := .slice bA5 bs.length bc5) rfl); (have x1 := cellK_of_heap HC9.out (i := 1) (x := .slice RA5 rs.length rc5) rfl); (have x2 := cellK_of_heap HC9.out (i := 2) (x := .int .i64 ((zz : Nat) : Int)) rfl); (have HOP9 := Lib.hid (HOP8.out.below hb9)); (have HNA := Lib.hid (names_up HOP9.out.dk (by omega) rfl)); clear hb9 hq9 HS14))
                go_wp2_with fail
                refine HNA.out.mono ?_
                rintro e wa ⟨Aa, ca, na, rfl, howna, hasca, hmema, hnka, hba⟩
                obtain rfl := one_nm HFA5.out HFO5.out hasca hmema
                have HBa : Hid (Below w.heap.size w wa) := Lib.hid (HB9.out.trans (hba.mono HB9.out.size))
                have HCa := Lib.hid ((hba.block _ (heapK_lt HC9.out)).trans HC9.out)
                have HOPa := Lib.hid (HOP9.out.below hba)
                obtain ⟨ga, ca', hva, _, _⟩ := howna.form (by simp)
                injection hva with e1 e2 e3
                subst e1
                have ya : wa.cell? ⟨ga, 0, none⟩ = some (.int .i64 a) := howna.cell (j := 0) (by simp)
                have hgl := block_lt_of_cell ya
                have z2 := cellK_of_heap HCa.out (i := 2) (x := .int .i64 ((zz : Nat) : Int)) rfl
                have HSa := Lib.hid (size_any (HOPa.out.dk.drewN 1))
                have HFf := Lib.hid (safe_some (HOPa.out.dk.drewN 1) (k := a) (by omega) (by omega) HFA5.out)
                rw [HFS5.out] at HFf
                have HLN : Hid (([a] : List Int).length = 1) := Lib.hid rfl
                rw [HLN.out]
                clear x0 x1 x2 howna hasca hmema hnka hba e2 e3
                go_wp2_with fail
                go_region_held3 (fun W => W.cell? ⟨h9, 2, none⟩ = some (.int .i64 ((zz : Nat) : Int)) ∧ W.cell? ⟨ga, 0, none⟩ = some (.int .i64 a)) ((first | exact ⟨z2, ya⟩ | go_keep)) (first
                  | (go_at_call 22; refine HSa.out.mono ?_; rintro e wb ⟨rfl, hwb⟩; subst hwb; clear HSa)
                  | (go_at_call 23; refine HFf.out.mono ?_; rintro e wc ⟨rfl, hbc⟩; (have hbd : Below wa.heap.size wa wc := (below_drewN (Below.refl _ _) 1).trans hbc); (have HBc : Hid (Below w.heap.size w wc) := Lib.hid (HBa.out.trans (hbd.mono HBa.out.size))); (have ybc : wc.cell? ⟨ga, 0, none⟩ = some (.int .i64 a) := (World.cell?_of_block (hbd.block ga hgl)).trans ya); (have zbc : wc.cell? ⟨h9, 2, none⟩ = some (.int .i64 ((zz : Nat) : Int)) := (World.cell?_of_block (hbd.block h9 (heapK_lt HCa.out))).trans z2); (have HOPc := Lib.hid (HOPa.out.below hbd)); clear z2 ya; (have z2 := zbc); (have ya := ybc); clear ybc zbc hbd hbc HFf))
                go_wp2_with fail
                exact ⟨⟨p + 1, K5, 1, _, F5, by omega, by go_num, by omega, HOPc, HBc⟩, by simp [intOf]; omega⟩
              · obtain rfl : p = 2 := by omega
                go_wp2_with fail
                go_ret
                exact ⟨rfl, HBR.out⟩
end Go.Proofs.Ytadajkgiijpakaa
