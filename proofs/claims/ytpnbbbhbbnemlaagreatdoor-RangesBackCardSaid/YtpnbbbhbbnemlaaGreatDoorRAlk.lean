/-
  CONTRACT of the law's alike: two ranges that read the same (printed by genrpl3.py).
-/
import Derived.Test.YtpnbbbhbbnemlaaGreatDoorRPlP
namespace Go.Proofs.YtpnbbbhbbnemlaaGreatDoor
open Go.RowKit
open SemP
set_option linter.unusedVariables false
set_option linter.unusedSimpArgs false
set_option maxRecDepth 100000
theorem eqCompD (w : World) (op a b c : Int) (s : ByteArray) : (Op.equalIn 10000 76 (.agg #[.int .i64 op, .int .i64 a, .int .i64 b, .int .i64 c, .string s]) (.agg #[.int .i64 op, .int .i64 a, .int .i64 b, .int .i64 c, .string s])).run Tryz.prog w = .ok true w := by
  rw [show (10000 : Nat) = 9998 + 1 + 1 from rfl]
  go_simp
  try simp
attribute [local go_sem ↓] eqCompD
set_option maxHeartbeats 16000000 in
theorem alike_any (A1 A2 : Option Addr) (m c1 c2 : Nat) (r : List (List CV)) (w : World) (B1 B2 : Nat) (h1 : RdR w B1 A1 m r) (h2 : RdR w B2 A2 m r) (hB1 : B1 ≤ w.heap.size) (hB2 : B2 ≤ w.heap.size) (hm : m ≤ 1000) (hl : ∀ l ∈ r, l.length ≤ 1000) :
    Calls Tryz.prog 17 #[.agg #[.slice A1 m c1], .agg #[.slice A2 m c2]] w fun e w' => e = .returned (.bool true) ∧ Below w.heap.size w w' := by
  obtain ⟨W0, hW0⟩ : ∃ W0, (w.alloc (.cells #[.slice A1 m c1] 28)).alloc (.cells #[.slice A2 m c2] 28) = W0 := ⟨_, rfl⟩
  have hb0 : Below w.heap.size w W0 := by rw [← hW0]; exact ((Below.refl _ w).alloc (Nat.le_refl _) _).alloc (by simp) _
  have hz0 : W0.heap.size = w.heap.size + 2 := by rw [← hW0]; simp
  have hX0 : W0.heap[w.heap.size]? = some (.cells #[.slice A1 m c1] 28) := by
    rw [← hW0, Below.heap_alloc _ _ _ (by simp)]; exact World.alloc_heap_new _ _
  have hX1 : W0.heap[w.heap.size + 1]? = some (.cells #[.slice A2 m c2] 28) := by
    rw [← hW0]
    have h := World.alloc_heap_new (w.alloc (.cells #[.slice A1 m c1] 28)) (.cells #[.slice A2 m c2] 28)
    rw [World.size_alloc] at h; exact h
  have HX := Lib.hid (And.intro hX0 hX1)
  have HL : Hid (w.heap.size < W0.heap.size ∧ w.heap.size + 1 < W0.heap.size) := Lib.hid ⟨by omega, by omega⟩
  have HB0 := Lib.hid hb0
  have HW0 := Lib.hid hW0
  have HR1 : Hid (RdR W0 B1 A1 m r) := Lib.hid (h1.below (hb0.mono hB1))
  have HR2 : Hid (RdR W0 B2 A2 m r) := Lib.hid (h2.below (hb0.mono hB2))
  have HBB : Hid (B1 ≤ W0.heap.size ∧ B2 ≤ W0.heap.size) := Lib.hid ⟨Nat.le_trans hB1 hb0.size, Nat.le_trans hB2 hb0.size⟩
  have HLE := Lib.hid h1.1
  have HMM := Lib.hid hm
  have HLL := Lib.hid hl
  have a1 := cell1 hX0
  have a2 := cell1 hX1
  rw [← hW0] at a1 a2
  clear h1 h2 hB1 hB2 hm hl hb0 hW0 hz0 hX0 hX1
  go_enter Tryz.func17, Tryz.ntmps17
  go_wp2
  try rw [show (w.alloc (.cells #[.slice A1 m c1] 28)).alloc (.cells #[.slice A2 m c2] 28) = W0 from HW0.out]
  clear a1 a2
  go_loopw [5, 6, 7, 8, 19] (fun v5 v6 v7 v8 v19 wr => ∃ (i : Nat), i ≤ m ∧ v19 = .int .i64 (i : Int) ∧ Hid (Below W0.heap.size W0 wr)) (fun _ _ _ _ v _ => m - (intOf v).toNat)
  case atStart => exact ⟨0, Nat.zero_le _, rfl, Lib.hid (Below.refl _ _)⟩
  case round =>
    obtain ⟨i, hi, rfl, HB⟩ := hrel
    obtain ⟨wo, hwo⟩ : ∃ x, x = wr := ⟨_, rfl⟩
    subst hwo
    by_cases him : i < m
    · have hd : decide ((i : Int) < (m : Int)) = true := decide_eq_true (by omega)
      have hadd : IntKind.i64.wrap ((i : Int) + 1) = ((i + 1 : Nat) : Int) := by rw [IntWalk.i64_in _ (by have := HMM.out; omega)]; omega
      obtain ⟨b, off, Aj, nj, cj, rfl, hlt, q0, hrc⟩ := (HR1.out.below (HB.out.mono HBB.out.1)).2 i him
      obtain ⟨b', off', Aj', nj', cj', rfl, hlt', q0', hrc'⟩ := (HR2.out.below (HB.out.mono HBB.out.2)).2 i him
      obtain rfl : nj' = nj := hrc'.1.symm.trans hrc.1
      have HIL : Hid (i < r.length) := Lib.hid (by rw [HLE.out]; exact him)
      obtain ⟨l, hl⟩ : ∃ l, lsAt r i = l := ⟨_, rfl⟩
      rw [hl] at hrc hrc'
      have HRC := Lib.hid (And.intro hrc hrc')
      have HN : Hid (nj' ≤ 1000) := Lib.hid (by rw [← hrc.1, ← hl]; exact HLL.out _ (lsAt_mem HIL.out))
      have a1 := cell1 ((HB.out.block _ HL.out.1).trans HX.out.1)
      have a2 := cell1 ((HB.out.block _ HL.out.2).trans HX.out.2)
      have hne : ((nj' : Int) != (nj' : Int)) = false := by simp
      have HQ := Lib.hid (And.intro q0 q0')
      have HLo : Hid ((w.heap.size < wo.heap.size ∧ w.heap.size + 1 < wo.heap.size) ∧ b < wo.heap.size ∧ b' < wo.heap.size) := Lib.hid ⟨⟨Nat.lt_of_lt_of_le HL.out.1 HB.out.size, Nat.lt_of_lt_of_le HL.out.2 HB.out.size⟩, block_lt_of_cell q0, block_lt_of_cell q0'⟩
      have HBo : Hid (B1 ≤ wo.heap.size ∧ B2 ≤ wo.heap.size) := Lib.hid ⟨Nat.le_trans HBB.out.1 HB.out.size, Nat.le_trans HBB.out.2 HB.out.size⟩
      clear hrc hrc' hl
      go_wp2
      clear a1 a2 q0 q0' hne
      go_loopw [7, 8, 35] (fun v7 v8 v35 wr => ∃ (k : Nat), k ≤ nj' ∧ v35 = .int .i64 (k : Int) ∧ Hid (Below wo.heap.size wo wr)) (fun _ _ v _ => nj' - (intOf v).toNat)
      case atStart => exact ⟨0, Nat.zero_le _, rfl, Lib.hid (Below.refl _ _)⟩
      case round =>
        obtain ⟨k, hk, rfl, HBr⟩ := hrel
        by_cases hkn : k < nj'
        · have hdk : decide ((k : Int) < (nj' : Int)) = true := decide_eq_true (by omega)
          have haddk : IntKind.i64.wrap ((k : Int) + 1) = ((k + 1 : Nat) : Int) := by rw [IntWalk.i64_in _ (by have := HN.out; omega)]; omega
          obtain ⟨b2, off2, rfl, hlt2, p0, p1, p2, p3, p4⟩ := (HRC.out.1.below (HBr.out.mono HBo.out.1)).2 k hkn
          obtain ⟨b2', off2', rfl, hlt2', p0', p1', p2', p3', p4'⟩ := (HRC.out.2.below (HBr.out.mono HBo.out.2)).2 k hkn
          obtain ⟨x, hx⟩ : ∃ x, cvAt l k = x := ⟨_, rfl⟩
          rw [hx] at p0 p1 p2 p3 p4 p0' p1' p2' p3' p4'
          have hb9 : Below wr.heap.size wr (wr.alloc (.cells #[.int .i64 x.op, .int .i64 x.a, .int .i64 x.b, .int .i64 x.c, .string x.s] 76)) := (Below.refl _ wr).alloc (Nat.le_refl _) _
          have HB9 : Hid (Below wo.heap.size wo (wr.alloc (.cells #[.int .i64 x.op, .int .i64 x.a, .int .i64 x.b, .int .i64 x.c, .string x.s] 76))) := Lib.hid (HBr.out.trans (hb9.mono HBr.out.size))
          have hcl : ∀ (p : Addr) v, wr.cell? p = some v → (wr.alloc (.cells #[.int .i64 x.op, .int .i64 x.a, .int .i64 x.b, .int .i64 x.c, .string x.s] 76)).cell? p = some v := fun p v h => (hb9.cell (block_lt_of_cell h)).trans h
          have s0 := hcl _ _ p0'
          have s1 := hcl _ _ p1'
          have s2 := hcl _ _ p2'
          have s3 := hcl _ _ p3'
          have s4 := hcl _ _ p4'
          have a2 := hcl _ _ (cell1 ((HBr.out.block _ HLo.out.1.2).trans ((HB.out.block _ HL.out.2).trans HX.out.2)))
          have q0' := hcl _ _ ((HBr.out.cell (p := ⟨b', off' + i, none⟩) HLo.out.2.2).trans HQ.out.2)
          have mixed : Tryz.prog.follows Departure.mixedOrders = true := by kernel_rfl
          clear hx hb9 hcl p0' p1' p2' p3' p4'
          go_wp2_with fail
          go_region_o
          go_wp2
          go_roundw
          case rel => first | exact ⟨k + 1, by omega, rfl, HB9⟩ | exact ⟨k + 1, by omega, rfl, Lib.hid HB9.out.drew⟩
          case measure => simp [intOf]; omega
        · have hdk : decide ((k : Int) < (nj' : Int)) = false := decide_eq_false (by omega)
          go_wp2
          go_roundw
          case rel => exact ⟨i + 1, by omega, rfl, Lib.hid (HB.out.trans (HBr.out.mono HB.out.size))⟩
          case measure => simp [intOf]; omega
    · have hd : decide ((i : Int) < (m : Int)) = false := decide_eq_false (by omega)
      go_wp2
      refine bodyPost_ret (results_tmp rfl _ _ _) rfl ⟨rfl, HB0.out.trans (HB.out.mono HB0.out.size)⟩
end Go.Proofs.YtpnbbbhbbnemlaaGreatDoor
