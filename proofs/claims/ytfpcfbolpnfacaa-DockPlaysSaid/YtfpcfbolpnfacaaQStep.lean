/-
  DockPlays: a step of the program and of the document.
-/
import Derived.Test.YtfpcfbolpnfacaaQPl
import Derived.BigQuiet
namespace Go.Proofs.Ytfpcfbolpnfacaa
open Go.RowKit
open ByteP
set_option linter.unusedVariables false
set_option maxRecDepth 10000
section
variable {wr w : World} {db mb tb K j c : Nat} {nm : Nm} {F : Int → Option Fi} {A : Option Addr} {n : TN} {L : List TF} {kd k q : Int} {dA kA : Option Addr} {dn dc kn kc : Nat} {ds ks : List Int}
def opO (kd k q : Int) (dA : Option Addr) (dn dc : Nat) (kA : Option Addr) (kn kc : Nat) : Obj := .cells #[.int .i64 kd, .int .i64 k, .int .i64 q, .slice dA dn dc, .slice kA kn kc] 33
theorem opO_heap (w : World) : (w.alloc (opO kd k q dA dn dc kA kn kc)).heap[w.heap.size]? = some (opO kd k q dA dn dc kA kn kc) := heap_alloc_new w _
/-- The step's box, and what is in it. -/
structure Bx (w : World) (ob : Nat) (kd k q : Int) (dA : Option Addr) (dn dc : Nat) (kA : Option Addr) (kn kc : Nat) : Prop where
  blk : w.heap[ob]? = some (opO kd k q dA dn dc kA kn kc)
theorem Bx.c0 {w : World} {ob : Nat} (h : Bx w ob kd k q dA dn dc kA kn kc) : w.cell? ⟨ob, 0, none⟩ = some (.int .i64 kd) := by simp [World.cell?, h.blk, opO]
theorem Bx.c1 {w : World} {ob : Nat} (h : Bx w ob kd k q dA dn dc kA kn kc) : w.cell? ⟨ob, 1, none⟩ = some (.int .i64 k) := by simp [World.cell?, h.blk, opO]
theorem Bx.c2 {w : World} {ob : Nat} (h : Bx w ob kd k q dA dn dc kA kn kc) : w.cell? ⟨ob, 2, none⟩ = some (.int .i64 q) := by simp [World.cell?, h.blk, opO]
theorem Bx.c3 {w : World} {ob : Nat} (h : Bx w ob kd k q dA dn dc kA kn kc) : w.cell? ⟨ob, 3, none⟩ = some (.slice dA dn dc) := by simp [World.cell?, h.blk, opO]
theorem Bx.c4 {w : World} {ob : Nat} (h : Bx w ob kd k q dA dn dc kA kn kc) : w.cell? ⟨ob, 4, none⟩ = some (.slice kA kn kc) := by simp [World.cell?, h.blk, opO]
theorem Bx.fr {w w' : World} {ob : Nat} {S : Nat → Prop} (h : Bx w ob kd k q dA dn dc kA kn kc) (hf : Fr w w' S) (hn : ¬ S ob) : Bx w' ob kd k q dA dn dc kA kn kc := ⟨(hf.block ob (heapK_lt h.blk) hn).trans h.blk⟩
theorem PlM.setCap (hm : PlM wr w db mb tb K nm F A c n L) (x : Int) : PlM (wr.setCell ⟨tb, 1, none⟩ (.int .i64 x)) w db mb tb K nm F A c { n with cap := x } L := by
  have hf := Fr.setCell wr (fun b => b = tb) (p := ⟨tb, 1, none⟩) rfl (.int .i64 x)
  exact hm.twin (hm.tn.nums hf (heap_setCell_same wr tb 1 _ _ (.int .i64 x) hm.tn.tno.cells)) (hf.weak (fun b hb => .inl hb))
theorem PlM.setArm (hm : PlM wr w db mb tb K nm F A c n L) (b : Bool) (x : Int) : PlM ((wr.setCell ⟨tb, 3, none⟩ (.bool b)).setCell ⟨tb, 2, none⟩ (.int .i64 x)) w db mb tb K nm F A c { n with armed := b, left := x } L := by
  have hf := (Fr.setCell wr (fun b => b = tb) (p := ⟨tb, 3, none⟩) rfl (.bool b)).trans (Fr.setCell _ (fun b => b = tb) (p := ⟨tb, 2, none⟩) rfl (.int .i64 x)) (fun b hb => .inl hb)
  have h1 := heap_setCell_same wr tb 3 _ _ (.bool b) hm.tn.tno.cells
  exact hm.twin (hm.tn.nums hf (heap_setCell_same _ tb 2 _ _ (.int .i64 x) h1)) (hf.weak (fun b hb => .inl hb))
theorem PlM.fresh (hm : PlM wr w db mb tb K nm F A c n L) : ¬ Mine db mb F wr.heap.size ∧ ¬ Tm tb A wr.heap.size :=
  ⟨fun h => by have := hm.dk.mlt _ h; omega, fun h => by have := (hm.tn.tmge _ h).2; omega⟩
end
section
variable {wr w : World} {db mb tb K j c : Nat} {nm : Nm} {F : Int → Option Fi} {A : Option Addr} {n : TN} {L : List TF} {kd k q : Int} {dA kA : Option Addr} {dn dc kn kc : Nat} {ds ks : List Int}
set_option maxHeartbeats 8000000 in
theorem step1 (hm : PlM wr w db mb tb K nm F A c n L) (hp : PlP K j nm F n L) (hj : j < 100) (hk0 : -9223372036854775808 ≤ k) (hk1 : k ≤ 9223372036854775807) (hq1 : q ≤ 9223372036854775807) (hdn : dn ≤ 500) (hy : RdY w w.heap.size dA dn ds) (hby : Bytes ds) (hks : Rd w w.heap.size kA kn ks) (hkn : kn ≤ 100) :
    Calls Try.prog 6 #[.pointer (some ⟨db, 0, none⟩), .pointer (some ⟨tb, 0, none⟩), opVal 1 k q dA dn dc kA kn kc] wr fun e w' => e = .returned (.bool true) ∧ PlE w' w db mb tb (j + 1) := by
  obtain ⟨hf1, hf2⟩ := hm.fresh
  have HMB : Hid (PlM (wr.alloc (opO 1 k q dA dn dc kA kn kc)) w db mb tb K nm F A c n L) := Lib.hid (hm.below ((Below.refl _ wr).alloc (Nat.le_refl _) _))
  have HBX : Hid (Bx (wr.alloc (opO 1 k q dA dn dc kA kn kc)) wr.heap.size 1 k q dA dn dc kA kn kc) := Lib.hid ⟨opO_heap wr⟩
  have HP := Lib.hid hp
  have HBY := Lib.hid hby
  have HY := Lib.hid hy
  have HKS := Lib.hid hks
  have HF1 := Lib.hid hf1
  have HF2 := Lib.hid hf2
  clear hm hp hf1 hf2 hby hy hks
  unfold opVal
  go_enter Try.func6, Try.ntmps6
  go_upto_region 1 with fail
  change Code.wp _ _ _ _ (wr.alloc (opO 1 k q dA dn dc kA kn kc))
  generalize hob : wr.heap.size = ob at *
  generalize wr.alloc (opO 1 k q dA dn dc kA kn kc) = w1 at *
  have o0 := HBX.out.c0
  have o1 := HBX.out.c1
  have o2 := HBX.out.c2
  have o3 := HBX.out.c3
  have o4 := HBX.out.c4
  have HPR := Lib.hid (pair_app (d := dc) HMB.out HP.out hj hdn HY.out HBY.out (k := k))
  unfold Pair at HPR
  try unfold opVal at HPR
  go_wp2_with fail
  refine HPR.out.mono ?_
  rintro e w2 ⟨z, rfl, hfr, hc⟩
  have HC := Lib.hid hc
  have HB2 := Lib.hid (HBX.out.fr hfr HF2.out)
  have p1 := HB2.out.c1
  have p2 := HB2.out.c2
  have p3 := HB2.out.c3
  clear hc hfr HPR o0 o1 o2 o3 o4
  go_wp2_with fail
  refine HC.out.mono ?_
  rintro e w3 ⟨rfl, hpe⟩
  have HPE := Lib.hid hpe
  clear hpe HC
  go_wp2
  go_ret
  exact ⟨by simp, HPE.out⟩
end
section
variable {wr w : World} {db mb tb K j c : Nat} {nm : Nm} {F : Int → Option Fi} {A : Option Addr} {n : TN} {L : List TF} {kd k q : Int} {dA kA : Option Addr} {dn dc kn kc : Nat} {ds ks : List Int}
set_option maxHeartbeats 8000000 in
theorem step2 (hm : PlM wr w db mb tb K nm F A c n L) (hp : PlP K j nm F n L) (hj : j < 100) (hk0 : -9223372036854775808 ≤ k) (hk1 : k ≤ 9223372036854775807) (hq1 : q ≤ 9223372036854775807) (hdn : dn ≤ 500) (hy : RdY w w.heap.size dA dn ds) (hby : Bytes ds) (hks : Rd w w.heap.size kA kn ks) (hkn : kn ≤ 100) :
    Calls Try.prog 6 #[.pointer (some ⟨db, 0, none⟩), .pointer (some ⟨tb, 0, none⟩), opVal 2 k q dA dn dc kA kn kc] wr fun e w' => e = .returned (.bool true) ∧ PlE w' w db mb tb (j + 1) := by
  obtain ⟨hf1, hf2⟩ := hm.fresh
  have HMB : Hid (PlM (wr.alloc (opO 2 k q dA dn dc kA kn kc)) w db mb tb K nm F A c n L) := Lib.hid (hm.below ((Below.refl _ wr).alloc (Nat.le_refl _) _))
  have HBX : Hid (Bx (wr.alloc (opO 2 k q dA dn dc kA kn kc)) wr.heap.size 2 k q dA dn dc kA kn kc) := Lib.hid ⟨opO_heap wr⟩
  have HP := Lib.hid hp
  have HBY := Lib.hid hby
  have HY := Lib.hid hy
  have HKS := Lib.hid hks
  have HF1 := Lib.hid hf1
  have HF2 := Lib.hid hf2
  clear hm hp hf1 hf2 hby hy hks
  unfold opVal
  go_enter Try.func6, Try.ntmps6
  go_upto_region 1 with fail
  change Code.wp _ _ _ _ (wr.alloc (opO 2 k q dA dn dc kA kn kc))
  generalize hob : wr.heap.size = ob at *
  generalize wr.alloc (opO 2 k q dA dn dc kA kn kc) = w1 at *
  have o0 := HBX.out.c0
  have o1 := HBX.out.c1
  have o2 := HBX.out.c2
  have o3 := HBX.out.c3
  have o4 := HBX.out.c4
  have HPR := Lib.hid (pair_sync (q := q) (dA := dA) (dn := dn) (dc := dc) (kA := kA) (kn := kn) (kc := kc) HMB.out HP.out hj hk0 hk1)
  unfold Pair at HPR
  try unfold opVal at HPR
  go_wp2_with fail
  refine HPR.out.mono ?_
  rintro e w2 ⟨z, rfl, hfr, hc⟩
  have HC := Lib.hid hc
  have HB2 := Lib.hid (HBX.out.fr hfr HF2.out)
  have p1 := HB2.out.c1
  have p2 := HB2.out.c2
  have p3 := HB2.out.c3
  clear hc hfr HPR o0 o1 o2 o3 o4
  go_wp2_with fail
  refine HC.out.mono ?_
  rintro e w3 ⟨rfl, hpe⟩
  have HPE := Lib.hid hpe
  clear hpe HC
  go_wp2
  go_ret
  exact ⟨by simp, HPE.out⟩
end
section
variable {wr w : World} {db mb tb K j c : Nat} {nm : Nm} {F : Int → Option Fi} {A : Option Addr} {n : TN} {L : List TF} {kd k q : Int} {dA kA : Option Addr} {dn dc kn kc : Nat} {ds ks : List Int}
set_option maxHeartbeats 8000000 in
theorem step3 (hm : PlM wr w db mb tb K nm F A c n L) (hp : PlP K j nm F n L) (hj : j < 100) (hk0 : -9223372036854775808 ≤ k) (hk1 : k ≤ 9223372036854775807) (hq1 : q ≤ 9223372036854775807) (hdn : dn ≤ 500) (hy : RdY w w.heap.size dA dn ds) (hby : Bytes ds) (hks : Rd w w.heap.size kA kn ks) (hkn : kn ≤ 100) :
    Calls Try.prog 6 #[.pointer (some ⟨db, 0, none⟩), .pointer (some ⟨tb, 0, none⟩), opVal 3 k q dA dn dc kA kn kc] wr fun e w' => e = .returned (.bool true) ∧ PlE w' w db mb tb (j + 1) := by
  obtain ⟨hf1, hf2⟩ := hm.fresh
  have HMB : Hid (PlM (wr.alloc (opO 3 k q dA dn dc kA kn kc)) w db mb tb K nm F A c n L) := Lib.hid (hm.below ((Below.refl _ wr).alloc (Nat.le_refl _) _))
  have HBX : Hid (Bx (wr.alloc (opO 3 k q dA dn dc kA kn kc)) wr.heap.size 3 k q dA dn dc kA kn kc) := Lib.hid ⟨opO_heap wr⟩
  have HP := Lib.hid hp
  have HBY := Lib.hid hby
  have HY := Lib.hid hy
  have HKS := Lib.hid hks
  have HF1 := Lib.hid hf1
  have HF2 := Lib.hid hf2
  clear hm hp hf1 hf2 hby hy hks
  unfold opVal
  go_enter Try.func6, Try.ntmps6
  go_upto_region 1 with fail
  change Code.wp _ _ _ _ (wr.alloc (opO 3 k q dA dn dc kA kn kc))
  generalize hob : wr.heap.size = ob at *
  generalize wr.alloc (opO 3 k q dA dn dc kA kn kc) = w1 at *
  have o0 := HBX.out.c0
  have o1 := HBX.out.c1
  have o2 := HBX.out.c2
  have o3 := HBX.out.c3
  have o4 := HBX.out.c4
  have HPR := Lib.hid (pair_rem (q := q) (dA := dA) (dn := dn) (dc := dc) (kA := kA) (kn := kn) (kc := kc) HMB.out HP.out hj hk0 hk1)
  unfold Pair at HPR
  try unfold opVal at HPR
  go_wp2_with fail
  refine HPR.out.mono ?_
  rintro e w2 ⟨z, rfl, hfr, hc⟩
  have HC := Lib.hid hc
  have HB2 := Lib.hid (HBX.out.fr hfr HF2.out)
  have p1 := HB2.out.c1
  have p2 := HB2.out.c2
  have p3 := HB2.out.c3
  clear hc hfr HPR o0 o1 o2 o3 o4
  go_wp2_with fail
  refine HC.out.mono ?_
  rintro e w3 ⟨rfl, hpe⟩
  have HPE := Lib.hid hpe
  clear hpe HC
  go_wp2
  go_ret
  exact ⟨by simp, HPE.out⟩
end
section
variable {wr w : World} {db mb tb K j c : Nat} {nm : Nm} {F : Int → Option Fi} {A : Option Addr} {n : TN} {L : List TF} {kd k q : Int} {dA kA : Option Addr} {dn dc kn kc : Nat} {ds ks : List Int}
set_option maxHeartbeats 8000000 in
theorem step8 (hm : PlM wr w db mb tb K nm F A c n L) (hp : PlP K j nm F n L) (hj : j < 100) (hk0 : -9223372036854775808 ≤ k) (hk1 : k ≤ 9223372036854775807) (hq1 : q ≤ 9223372036854775807) (hdn : dn ≤ 500) (hy : RdY w w.heap.size dA dn ds) (hby : Bytes ds) (hks : Rd w w.heap.size kA kn ks) (hkn : kn ≤ 100) :
    Calls Try.prog 6 #[.pointer (some ⟨db, 0, none⟩), .pointer (some ⟨tb, 0, none⟩), opVal 8 k q dA dn dc kA kn kc] wr fun e w' => e = .returned (.bool true) ∧ PlE w' w db mb tb (j + 1) := by
  obtain ⟨hf1, hf2⟩ := hm.fresh
  have HMB : Hid (PlM (wr.alloc (opO 8 k q dA dn dc kA kn kc)) w db mb tb K nm F A c n L) := Lib.hid (hm.below ((Below.refl _ wr).alloc (Nat.le_refl _) _))
  have HBX : Hid (Bx (wr.alloc (opO 8 k q dA dn dc kA kn kc)) wr.heap.size 8 k q dA dn dc kA kn kc) := Lib.hid ⟨opO_heap wr⟩
  have HP := Lib.hid hp
  have HBY := Lib.hid hby
  have HY := Lib.hid hy
  have HKS := Lib.hid hks
  have HF1 := Lib.hid hf1
  have HF2 := Lib.hid hf2
  clear hm hp hf1 hf2 hby hy hks
  unfold opVal
  go_enter Try.func6, Try.ntmps6
  go_upto_region 1 with fail
  change Code.wp _ _ _ _ (wr.alloc (opO 8 k q dA dn dc kA kn kc))
  generalize hob : wr.heap.size = ob at *
  generalize wr.alloc (opO 8 k q dA dn dc kA kn kc) = w1 at *
  have o0 := HBX.out.c0
  have o1 := HBX.out.c1
  have o2 := HBX.out.c2
  have o3 := HBX.out.c3
  have o4 := HBX.out.c4
  have HPR := Lib.hid (pair_cut (q := q) (dA := dA) (dn := dn) (dc := dc) (kA := kA) (kn := kn) (kc := kc) HMB.out HP.out hj hk0 hk1)
  unfold Pair at HPR
  try unfold opVal at HPR
  go_wp2_with fail
  refine HPR.out.mono ?_
  rintro e w2 ⟨z, rfl, hfr, hc⟩
  have HC := Lib.hid hc
  have HB2 := Lib.hid (HBX.out.fr hfr HF2.out)
  have p1 := HB2.out.c1
  have p2 := HB2.out.c2
  have p3 := HB2.out.c3
  clear hc hfr HPR o0 o1 o2 o3 o4
  go_wp2_with fail
  refine HC.out.mono ?_
  rintro e w3 ⟨rfl, hpe⟩
  have HPE := Lib.hid hpe
  clear hpe HC
  go_wp2
  go_ret
  exact ⟨by simp, HPE.out⟩
end
section
variable {wr w : World} {db mb tb K j c : Nat} {nm : Nm} {F : Int → Option Fi} {A : Option Addr} {n : TN} {L : List TF} {kd k q : Int} {dA kA : Option Addr} {dn dc kn kc : Nat} {ds ks : List Int}
set_option maxHeartbeats 8000000 in
theorem step0 (hm : PlM wr w db mb tb K nm F A c n L) (hp : PlP K j nm F n L) (hj : j < 100) (hk0 : -9223372036854775808 ≤ k) (hk1 : k ≤ 9223372036854775807) (hq1 : q ≤ 9223372036854775807) (hdn : dn ≤ 500) (hy : RdY w w.heap.size dA dn ds) (hby : Bytes ds) (hks : Rd w w.heap.size kA kn ks) (hkn : kn ≤ 100) (h1 : kd ≠ 1) (h2 : kd ≠ 2) (h3 : kd ≠ 3) (h4 : kd ≠ 4) (h5 : kd ≠ 5) (h6 : kd ≠ 6) (h7 : kd ≠ 7) (h8 : kd ≠ 8) :
    Calls Try.prog 6 #[.pointer (some ⟨db, 0, none⟩), .pointer (some ⟨tb, 0, none⟩), opVal kd k q dA dn dc kA kn kc] wr fun e w' => e = .returned (.bool true) ∧ PlE w' w db mb tb (j + 1) := by
  obtain ⟨hf1, hf2⟩ := hm.fresh
  have HMB : Hid (PlM (wr.alloc (opO kd k q dA dn dc kA kn kc)) w db mb tb K nm F A c n L) := Lib.hid (hm.below ((Below.refl _ wr).alloc (Nat.le_refl _) _))
  have HBX : Hid (Bx (wr.alloc (opO kd k q dA dn dc kA kn kc)) wr.heap.size kd k q dA dn dc kA kn kc) := Lib.hid ⟨opO_heap wr⟩
  have HP := Lib.hid hp
  have HBY := Lib.hid hby
  have HY := Lib.hid hy
  have HKS := Lib.hid hks
  have HF1 := Lib.hid hf1
  have HF2 := Lib.hid hf2
  clear hm hp hf1 hf2 hby hy hks
  unfold opVal
  go_enter Try.func6, Try.ntmps6
  go_upto_region 1 with fail
  change Code.wp _ _ _ _ (wr.alloc (opO kd k q dA dn dc kA kn kc))
  generalize hob : wr.heap.size = ob at *
  generalize wr.alloc (opO kd k q dA dn dc kA kn kc) = w1 at *
  have o0 := HBX.out.c0
  have o1 := HBX.out.c1
  have o2 := HBX.out.c2
  have o3 := HBX.out.c3
  have o4 := HBX.out.c4
  have e1 : (kd == 1) = false := beq_eq_false_iff_ne.2 h1
  have e2 : (kd == 2) = false := beq_eq_false_iff_ne.2 h2
  have e3 : (kd == 3) = false := beq_eq_false_iff_ne.2 h3
  have e4 : (kd == 4) = false := beq_eq_false_iff_ne.2 h4
  have e5 : (kd == 5) = false := beq_eq_false_iff_ne.2 h5
  have e6 : (kd == 6) = false := beq_eq_false_iff_ne.2 h6
  have e7 : (kd == 7) = false := beq_eq_false_iff_ne.2 h7
  have e8 : (kd == 8) = false := beq_eq_false_iff_ne.2 h8
  go_wp2_with fail
  go_ret
  exact ⟨rfl, K, nm, F, A, c, n, L, HMB.out, HP.out.more hj⟩
end
section
variable {wr w : World} {db mb tb K j c : Nat} {nm : Nm} {F : Int → Option Fi} {A : Option Addr} {n : TN} {L : List TF} {kd k q : Int} {dA kA : Option Addr} {dn dc kn kc : Nat} {ds ks : List Int}
set_option maxHeartbeats 8000000 in
theorem step6 (hm : PlM wr w db mb tb K nm F A c n L) (hp : PlP K j nm F n L) (hj : j < 100) (hk0 : -9223372036854775808 ≤ k) (hk1 : k ≤ 9223372036854775807) (hq1 : q ≤ 9223372036854775807) (hdn : dn ≤ 500) (hy : RdY w w.heap.size dA dn ds) (hby : Bytes ds) (hks : Rd w w.heap.size kA kn ks) (hkn : kn ≤ 100) :
    Calls Try.prog 6 #[.pointer (some ⟨db, 0, none⟩), .pointer (some ⟨tb, 0, none⟩), opVal 6 k q dA dn dc kA kn kc] wr fun e w' => e = .returned (.bool true) ∧ PlE w' w db mb tb (j + 1) := by
  obtain ⟨hf1, hf2⟩ := hm.fresh
  have HMB : Hid (PlM (wr.alloc (opO 6 k q dA dn dc kA kn kc)) w db mb tb K nm F A c n L) := Lib.hid (hm.below ((Below.refl _ wr).alloc (Nat.le_refl _) _))
  have HBX : Hid (Bx (wr.alloc (opO 6 k q dA dn dc kA kn kc)) wr.heap.size 6 k q dA dn dc kA kn kc) := Lib.hid ⟨opO_heap wr⟩
  have HP := Lib.hid hp
  have HBY := Lib.hid hby
  have HY := Lib.hid hy
  have HKS := Lib.hid hks
  have HF1 := Lib.hid hf1
  have HF2 := Lib.hid hf2
  clear hm hp hf1 hf2 hby hy hks
  unfold opVal
  go_enter Try.func6, Try.ntmps6
  go_upto_region 1 with fail
  change Code.wp _ _ _ _ (wr.alloc (opO 6 k q dA dn dc kA kn kc))
  generalize hob : wr.heap.size = ob at *
  generalize wr.alloc (opO 6 k q dA dn dc kA kn kc) = w1 at *
  have o0 := HBX.out.c0
  have o1 := HBX.out.c1
  have o2 := HBX.out.c2
  have o3 := HBX.out.c3
  have o4 := HBX.out.c4
  have HPR := Lib.hid (pair_crash (ck := kc) HMB.out HP.out hj HKS.out hkn)
  go_wp2_with fail
  refine HPR.out.mono ?_
  rintro e w2 ⟨rfl, hfr, hc⟩
  have HC := Lib.hid hc
  have HB2 := Lib.hid (HBX.out.fr hfr HF1.out)
  have p4 := HB2.out.c4
  clear hc hfr HPR o0 o1 o2 o3 o4
  go_wp2_with fail
  refine HC.out.mono ?_
  rintro e w3 ⟨rfl, hpe⟩
  have HPE := Lib.hid hpe
  clear hpe HC
  go_wp2
  go_ret
  exact ⟨rfl, HPE.out⟩
end
section
variable {wr w : World} {db mb tb K j c : Nat} {nm : Nm} {F : Int → Option Fi} {A : Option Addr} {n : TN} {L : List TF} {kd k q : Int} {dA kA : Option Addr} {dn dc kn kc : Nat} {ds ks : List Int}
set_option maxHeartbeats 8000000 in
theorem step7 (hm : PlM wr w db mb tb K nm F A c n L) (hp : PlP K j nm F n L) (hj : j < 100) (hk0 : -9223372036854775808 ≤ k) (hk1 : k ≤ 9223372036854775807) (hq1 : q ≤ 9223372036854775807) (hdn : dn ≤ 500) (hy : RdY w w.heap.size dA dn ds) (hby : Bytes ds) (hks : Rd w w.heap.size kA kn ks) (hkn : kn ≤ 100) :
    Calls Try.prog 6 #[.pointer (some ⟨db, 0, none⟩), .pointer (some ⟨tb, 0, none⟩), opVal 7 k q dA dn dc kA kn kc] wr fun e w' => e = .returned (.bool true) ∧ PlE w' w db mb tb (j + 1) := by
  obtain ⟨hf1, hf2⟩ := hm.fresh
  have HMB : Hid (PlM (wr.alloc (opO 7 k q dA dn dc kA kn kc)) w db mb tb K nm F A c n L) := Lib.hid (hm.below ((Below.refl _ wr).alloc (Nat.le_refl _) _))
  have HBX : Hid (Bx (wr.alloc (opO 7 k q dA dn dc kA kn kc)) wr.heap.size 7 k q dA dn dc kA kn kc) := Lib.hid ⟨opO_heap wr⟩
  have HP := Lib.hid hp
  have HBY := Lib.hid hby
  have HY := Lib.hid hy
  have HKS := Lib.hid hks
  have HF1 := Lib.hid hf1
  have HF2 := Lib.hid hf2
  clear hm hp hf1 hf2 hby hy hks
  unfold opVal
  go_enter Try.func6, Try.ntmps6
  go_upto_region 1 with fail
  change Code.wp _ _ _ _ (wr.alloc (opO 7 k q dA dn dc kA kn kc))
  generalize hob : wr.heap.size = ob at *
  generalize wr.alloc (opO 7 k q dA dn dc kA kn kc) = w1 at *
  have o0 := HBX.out.c0
  have o1 := HBX.out.c1
  have o2 := HBX.out.c2
  have o3 := HBX.out.c3
  have o4 := HBX.out.c4
  have HPR := Lib.hid (grow_pl HMB.out q)
  go_wp2_with fail
  refine HPR.out.mono ?_
  rintro e w2 ⟨rfl, hfr, hpm⟩
  have HM2 := Lib.hid hpm
  have HB2 := Lib.hid (HBX.out.fr hfr HF1.out)
  have p2 := HB2.out.c2
  have t1 := hpm.tn.tn.c1
  have f1 := hpm.tn.tn.fz 1
  clear hpm hfr HPR o0 o1 o2 o3 o4
  go_wp2_with fail
  all_goals go_ret
  all_goals (refine ⟨rfl, K, _, F, A, c, _, L, ?_, HP.out.grown hj q⟩; have HZ := HM2.out.setCap (min (max q 0) 16777216); exact HZ)
end
section
variable {wr w : World} {db mb tb K j c : Nat} {nm : Nm} {F : Int → Option Fi} {A : Option Addr} {n : TN} {L : List TF} {kd k q : Int} {dA kA : Option Addr} {dn dc kn kc : Nat} {ds ks : List Int}
set_option maxHeartbeats 8000000 in
theorem step5 (hm : PlM wr w db mb tb K nm F A c n L) (hp : PlP K j nm F n L) (hj : j < 100) (hk0 : -9223372036854775808 ≤ k) (hk1 : k ≤ 9223372036854775807) (hq1 : q ≤ 9223372036854775807) (hdn : dn ≤ 500) (hy : RdY w w.heap.size dA dn ds) (hby : Bytes ds) (hks : Rd w w.heap.size kA kn ks) (hkn : kn ≤ 100) :
    Calls Try.prog 6 #[.pointer (some ⟨db, 0, none⟩), .pointer (some ⟨tb, 0, none⟩), opVal 5 k q dA dn dc kA kn kc] wr fun e w' => e = .returned (.bool true) ∧ PlE w' w db mb tb (j + 1) := by
  obtain ⟨hf1, hf2⟩ := hm.fresh
  have HMB : Hid (PlM (wr.alloc (opO 5 k q dA dn dc kA kn kc)) w db mb tb K nm F A c n L) := Lib.hid (hm.below ((Below.refl _ wr).alloc (Nat.le_refl _) _))
  have HBX : Hid (Bx (wr.alloc (opO 5 k q dA dn dc kA kn kc)) wr.heap.size 5 k q dA dn dc kA kn kc) := Lib.hid ⟨opO_heap wr⟩
  have HP := Lib.hid hp
  have HBY := Lib.hid hby
  have HY := Lib.hid hy
  have HKS := Lib.hid hks
  have HF1 := Lib.hid hf1
  have HF2 := Lib.hid hf2
  clear hm hp hf1 hf2 hby hy hks
  unfold opVal
  go_enter Try.func6, Try.ntmps6
  go_upto_region 1 with fail
  change Code.wp _ _ _ _ (wr.alloc (opO 5 k q dA dn dc kA kn kc))
  generalize hob : wr.heap.size = ob at *
  generalize wr.alloc (opO 5 k q dA dn dc kA kn kc) = w1 at *
  have o0 := HBX.out.c0
  have o1 := HBX.out.c1
  have o2 := HBX.out.c2
  have o3 := HBX.out.c3
  have o4 := HBX.out.c4
  have HPR := Lib.hid (arm_pl HMB.out q)
  go_wp2_with fail
  refine HPR.out.mono ?_
  rintro e w2 ⟨rfl, hfr, hpm⟩
  have HM2 := Lib.hid hpm
  have HB2 := Lib.hid (HBX.out.fr hfr HF1.out)
  have p2 := HB2.out.c2
  have t2 := hpm.tn.tn.c2
  have f2 := hpm.tn.tn.fz 2
  have t3 := hpm.tn.tn.c3
  have f3 := hpm.tn.tn.fz 3
  clear hpm hfr HPR o0 o1 o2 o3 o4
  go_wp2_with fail
  all_goals (try go_region)
  all_goals (go_wp2_with fail; go_ret; refine ⟨rfl, K, _, F, A, c, _, L, ?_, HP.out.armed hj hq1⟩; first | exact HM2.out.setArm _ _ | exact (HM2.out.setArm _ _).below (Below.refl _ _).drew)
end
end Go.Proofs.Ytfpcfbolpnfacaa
