/-
  HOW MANY CHOICES THERE ARE: the document's Size.
-/
import Derived.Test.YtlodledcglleiaaGreatVQa
namespace Go.Proofs.YtlodledcglleiaaGreat
open Go.RowKit
open SemP DiP FlP GaP SeaP
set_option linter.unusedVariables false
set_option linter.unusedSimpArgs false
set_option maxRecDepth 10000
def szN (l : List Sv) : Nat → Nat
  | 0 => 1
  | k + 1 => szN l k * (svAt l k).2.length
theorem szN_le {l : List Sv} (hs : ∀ s ∈ l, s.2.length ≤ 12) : ∀ {k : Nat}, k ≤ l.length → szN l k ≤ 12 ^ k
  | 0, _ => by simp [szN]
  | k + 1, h => by
    have h1 := szN_le hs (k := k) (by omega)
    have h2 : (svAt l k).2.length ≤ 12 := hs _ (by
      have e : svAt l k = l[k]'(by omega) := by simp [svAt, List.getD, show k < l.length by omega]
      rw [e]; exact List.getElem_mem _)
    show szN l k * (svAt l k).2.length ≤ 12 ^ (k + 1)
    rw [Nat.pow_succ]
    exact Nat.mul_le_mul h1 h2
theorem szN_big {l : List Sv} (hs : ∀ s ∈ l, s.2.length ≤ 12) (h16 : l.length ≤ 16) {k : Nat} (h : k ≤ l.length) : szN l k ≤ 184884258895036416 :=
  Nat.le_trans (szN_le hs h) (Nat.le_trans (Nat.pow_le_pow_right (by omega) (show k ≤ 16 by omega)) (by decide))
set_option maxHeartbeats 8000000 in
theorem size_any {w : World} {B n c : Nat} {A : Option Addr} {l : List Sv} (h : CatAt w B A n c l) (hs : ∀ s ∈ l, s.2.length ≤ 12) :
    Calls Tryz.prog 15 #[.agg #[.slice A n c]] w fun e w' => e = .returned (.int .i64 (szN l l.length : Nat)) ∧ Below w.heap.size w w' := by
  obtain ⟨W, HW⟩ : ∃ W, Hid (W = w.alloc (.cells #[.slice A n c] 28)) := ⟨_, Lib.hid rfl⟩
  have hbl : Below w.heap.size w W := by rw [HW.out]; exact (Below.refl _ w).alloc (Nat.le_refl _) _
  have HBL := Lib.hid hbl
  have H0 : Hid (W.heap[w.heap.size]? = some (.cells #[.slice A n c] 28 (0, 0))) := Lib.hid (by rw [HW.out]; exact heap_new w _)
  have HA := Lib.hid (h.below hbl)
  have HNL : Hid (l.length = n) := Lib.hid h.rd.1
  have HBIG : Hid (∀ k, k ≤ n → szN l k ≤ 184884258895036416) := Lib.hid (fun k hk => szN_big hs h.sm.1 (by have := h.rd.1; omega))
  have hn16 := h.n16
  clear h hbl
  obtain ⟨x0, _⟩ := row1f H0.out
  go_enter Tryz.func15, Tryz.ntmps15
  go_upto_region 1 with fail
  change Code.wp _ _ _ _ (w.alloc (.cells #[.slice A n c] 28))
  rw [← HW.out]
  go_wp2_with fail
  clear x0
  go_loopw [3, 4] (fun vp v wr => ∃ k : Nat, k ≤ n ∧ v = .int .i64 (k : Int) ∧ vp = .int .i64 (szN l k : Nat) ∧ Hid (Below W.heap.size W wr)) (fun _ v _ => n - (intOf v).toNat)
  case atStart => exact ⟨0, Nat.zero_le _, rfl, rfl, Lib.hid (Below.refl _ _)⟩
  case round =>
    obtain ⟨wo, hwo⟩ : ∃ x, x = wr := ⟨_, rfl⟩
    subst hwo
    obtain ⟨k, hk, rfl, rfl, HBo⟩ := hrel
    have HWo : Hid (Below w.heap.size w wo) := Lib.hid (HBL.out.trans (HBo.out.mono HBL.out.size))
    have Ko : Hid (wo.heap[w.heap.size]? = _) := Lib.hid ((HBo.out.block w.heap.size (heapE_lt H0.out)).trans H0.out)
    obtain ⟨x0, _⟩ := row1f Ko.out
    by_cases hkn : k < n
    · have hd : decide ((k : Int) < (n : Int)) = true := by simp; omega
      have hki : (k : Int) < (n : Int) := by omega
      have hk0 : (0 : Int) ≤ (k : Int) := by omega
      have hadd : IntKind.i64.wrap ((k : Int) + 1) = ((k + 1 : Nat) : Int) := by rw [IntWalk.i64_in _ (by omega)]; omega
      have HAo := Lib.hid (HA.out.below HBo.out)
      obtain ⟨b1, o1, Aj, nj, cj, hAA, hb1, _, k1, _, hrj⟩ := sv_at HAo.out.rd (i := k) hkn
      subst hAA
      have HNJ : Hid ((svAt l k).2.length = nj) := Lib.hid hrj.1
      have hmul : IntKind.i64.wrap ((szN l k : Nat) * (nj : Int)) = ((szN l (k + 1) : Nat) : Int) := by
        have e : ((szN l (k + 1) : Nat) : Int) = (szN l k : Nat) * (nj : Int) := by
          rw [show szN l (k + 1) = szN l k * (svAt l k).2.length from rfl, HNJ.out]; push_cast; rfl
        rw [← e]
        exact IntWalk.i64_in _ (by have := HBIG.out (k + 1) (by omega); omega)
      clear hrj
      go_wp2_with fail
      go_roundw
      case rel => exact ⟨k + 1, by omega, by go_num, by first | rfl | exact congrArg (Value.int .i64) hmul, Lib.hid (by first | exact HBo.out | exact Below.drewN' HBo.out _)⟩
      case measure => simp [intOf]; omega
    · have hd : decide ((k : Int) < (n : Int)) = false := by simp; omega
      have hkn2 : k = n := by omega
      go_wp2_with fail
      refine bodyPost_ret (results_tmp rfl _ _ _) rfl ⟨?_, HWo.out⟩
      rw [HNL.out, hkn2]; rfl
end Go.Proofs.YtlodledcglleiaaGreat
