/-
  THE DOCUMENT'S TWIN of a dock in memory: words, and the contracts of find, size, goes.
-/
import Derived.Test.YtfpcfbolpnfacaaKApp
namespace Go.Proofs.Ytfpcfbolpnfacaa
open Go.RowKit
open ByteP
set_option linter.unusedVariables false
set_option maxRecDepth 10000
/-- A file of the twin: name, bytes in memory, safe. -/
structure TF where
  nm : Int
  P : Option Addr
  n : Nat
  c : Nat
  bs : List Int
  s : Nat
/-- The twin's numbers. -/
structure TN where
  cap : Int
  left : Int
  armed : Bool
  off : Bool
def tcells (A : Option Addr) (k c : Nat) (n : TN) : Array Value := #[.slice A k c, .int .i64 n.cap, .int .i64 n.left, .bool n.armed, .bool n.off]
instance : Inhabited TF := ⟨⟨0, none, 0, 0, [], 0⟩⟩
def tfAt (L : List TF) (i : Nat) : TF := L.getD i default
/-- The twin at block tb: files L in a row of its own. -/
structure Tn (w : World) (tb : Nat) (A : Option Addr) (c : Nat) (n : TN) (L : List TF) : Prop where
  cells : w.heap[tb]? = some (.cells (tcells A L.length c n) 29 (0, 0))
  row : ∀ i, i < L.length → ∃ g, A = some ⟨g, 0, none⟩ ∧ g ≠ tb ∧ w.cell? ⟨g, i * 3, none⟩ = some (.int .i64 (tfAt L i).nm) ∧ w.cell? ⟨g, i * 3 + 1, none⟩ = some (.slice (tfAt L i).P (tfAt L i).n (tfAt L i).c) ∧ w.cell? ⟨g, i * 3 + 2, none⟩ = some (.int .i64 ((tfAt L i).s : Int))
section
variable {w w' : World} {tb c : Nat} {A : Option Addr} {n : TN} {L : List TF}
theorem Tn.below (h : Tn w tb A c n L) (hb : Below w.heap.size w w') : Tn w' tb A c n L :=
  ⟨(hb.block tb (heapK_lt h.cells)).trans h.cells, fun i hi => by
    obtain ⟨g, e, hg, h0, h1, h2⟩ := h.row i hi
    exact ⟨g, e, hg, (hb.cell (p := ⟨g, i * 3, none⟩) (block_lt_of_cell h0)).trans h0, (hb.cell (p := ⟨g, i * 3 + 1, none⟩) (block_lt_of_cell h1)).trans h1, (hb.cell (p := ⟨g, i * 3 + 2, none⟩) (block_lt_of_cell h2)).trans h2⟩⟩
theorem Tn.c0 (h : Tn w tb A c n L) : w.cell? ⟨tb, 0, none⟩ = some (.slice A L.length c) := by simp [World.cell?, h.cells, tcells]
theorem Tn.c1 (h : Tn w tb A c n L) : w.cell? ⟨tb, 1, none⟩ = some (.int .i64 n.cap) := by simp [World.cell?, h.cells, tcells]
theorem Tn.c2 (h : Tn w tb A c n L) : w.cell? ⟨tb, 2, none⟩ = some (.int .i64 n.left) := by simp [World.cell?, h.cells, tcells]
theorem Tn.c3 (h : Tn w tb A c n L) : w.cell? ⟨tb, 3, none⟩ = some (.bool n.armed) := by simp [World.cell?, h.cells, tcells]
theorem Tn.c4 (h : Tn w tb A c n L) : w.cell? ⟨tb, 4, none⟩ = some (.bool n.off) := by simp [World.cell?, h.cells, tcells]
theorem Tn.fz (h : Tn w tb A c n L) (i : Nat) : w.frozen? ⟨tb, i, none⟩ = false := by simp [World.frozen?, h.cells]
end
/-- The place of the first file of a name. -/
def findT (L : List TF) (k : Int) : Nat → Option Nat
  | 0 => none
  | j + 1 => match findT L k j with
    | some i => some i
    | none => if (tfAt L j).nm = k then some j else none
/-- As the twin's find answers. -/
def fndI : Option Nat → Int
  | some i => (i : Int)
  | none => -1
theorem findT_more {L : List TF} {k : Int} {i : Nat} : ∀ {m j : Nat}, j ≤ m → findT L k j = some i → findT L k m = some i
  | 0, j, hj, h => by obtain rfl : j = 0 := by omega
                      exact h
  | m + 1, j, hj, h => by
    by_cases e : j = m + 1
    · rw [← e]; exact h
    · have h1 := findT_more (m := m) (by omega) h
      show (match findT L k m with | some i => some i | none => _) = _
      rw [h1]
/-- The first j files' bytes. -/
def sizeT (L : List TF) : Nat → Nat
  | 0 => 0
  | j + 1 => sizeT L j + (tfAt L j).n
section
variable {w : World} {tb c : Nat} {A : Option Addr} {n : TN} {L : List TF}
set_option maxHeartbeats 2000000 in
theorem find_tw (h : Tn w tb A c n L) (hL : L.length ≤ 1000000) (k : Int) : Calls Try.prog 16 #[.pointer (some ⟨tb, 0, none⟩), .int .i64 k] w fun e w' =>
    e = .returned (.int .i64 (fndI (findT L k L.length))) ∧ Below w.heap.size w w' := by
  have HT := Lib.hid h
  have c0 := h.c0
  clear h
  go_enter Try.func16, Try.ntmps16
  go_wp2_with fail
  go_loopw [12] (fun i wr => ∃ j : Nat, j ≤ L.length ∧ i = .int .i64 (j : Int) ∧ Hid (findT L k j = none) ∧ Hid (Below w.heap.size w wr)) (fun i _ => L.length - (intOf i).toNat)
  case atStart => exact ⟨0, Nat.zero_le _, rfl, Lib.hid rfl, Lib.hid (Below.refl _ _)⟩
  case round =>
    obtain ⟨j, hj, rfl, HF, HB⟩ := hrel
    by_cases hlt : j < L.length
    · obtain ⟨g, rfl, hg, h0, h1, h2⟩ := (HT.out.below HB.out).row j hlt
      have hji : (j : Int) < (L.length : Int) := by omega
      have hfj : findT L k (j + 1) = if (tfAt L j).nm = k then some j else none := by
        show (match findT L k j with | some i => some i | none => _) = _
        rw [HF.out]
      have HFJ := Lib.hid hfj
      clear hfj
      generalize (tfAt L j).nm = x at *
      generalize (tfAt L j).P = P at *
      generalize (tfAt L j).n = pn at *
      generalize (tfAt L j).c = pc at *
      generalize ((tfAt L j).s : Int) = s at *
      by_cases e : x = k
      · have d0 : (x == k) = true := by simp [e]
        have HR : Hid (fndI (findT L k L.length) = (j : Int)) := Lib.hid (by rw [findT_more (j := j + 1) (by omega) (by rw [HFJ.out, if_pos e])]; rfl)
        go_wp2_with fail
        (try simp only [Exit.inBlock, Exit.then])
        go_ret
        rw [HR.out]
        exact ⟨rfl, HB.out.alloc HB.out.size _⟩
      · have d0 : (x == k) = false := by simp [e]
        go_wp2_with fail
        exact ⟨⟨j + 1, by omega, by go_num, Lib.hid (by rw [HFJ.out, if_neg e]), Lib.hid (HB.out.alloc HB.out.size _)⟩, by simp [intOf]; omega⟩
    · obtain rfl : j = L.length := by omega
      go_wp2
      go_ret
      rw [HF.out]
      exact ⟨rfl, HB.out⟩
set_option maxHeartbeats 2000000 in
theorem size_tw (h : Tn w tb A c n L) (hL : L.length ≤ 1000000) (hz : ∀ i, i < L.length → (tfAt L i).n ≤ 100000000) : Calls Try.prog 23 #[.pointer (some ⟨tb, 0, none⟩)] w fun e w' =>
    e = .returned (.int .i64 (sizeT L L.length : Int)) ∧ Below w.heap.size w w' := by
  have HT := Lib.hid h
  have c0 := h.c0
  have HZ := Lib.hid hz
  clear h hz
  go_enter Try.func23, Try.ntmps23
  go_wp2_with fail
  go_loopw [3, 11] (fun v i wr => ∃ j z : Nat, j ≤ L.length ∧ i = .int .i64 (j : Int) ∧ v = .int .i64 (z : Int) ∧ z ≤ 100000000 * j ∧ Hid (z = sizeT L j) ∧ Hid (Below w.heap.size w wr)) (fun _ i _ => L.length - (intOf i).toNat)
  case atStart => exact ⟨0, 0, Nat.zero_le _, rfl, rfl, by omega, Lib.hid rfl, Lib.hid (Below.refl _ _)⟩
  case round =>
    obtain ⟨j, z, hj, rfl, rfl, hzj, HF, HB⟩ := hrel
    by_cases hlt : j < L.length
    · obtain ⟨g, rfl, hg, h0, h1, h2⟩ := (HT.out.below HB.out).row j hlt
      have hji : (j : Int) < (L.length : Int) := by omega
      have hzl := HZ.out j hlt
      have HFJ : Hid (sizeT L (j + 1) = sizeT L j + (tfAt L j).n) := Lib.hid rfl
      generalize (tfAt L j).nm = x at *
      generalize (tfAt L j).P = P at *
      generalize (tfAt L j).n = pn at *
      generalize (tfAt L j).c = pc at *
      generalize ((tfAt L j).s : Int) = s at *
      go_wp2_with fail
      exact ⟨⟨j + 1, z + pn, by omega, by go_num, by go_num, by omega, Lib.hid (by rw [HFJ.out, HF.out]), Lib.hid (HB.out.alloc HB.out.size _)⟩, by simp [intOf]; omega⟩
    · obtain rfl : j = L.length := by omega
      go_wp2
      go_ret
      rw [HF.out]
      exact ⟨rfl, HB.out⟩
end
/-- What goes leaves of the numbers. -/
def tgd (n : TN) : TN := if n.armed = true ∧ n.left = 0 then { n with off := true } else if n.armed = true then { n with left := n.left - 1 } else n
theorem Tn.turn {w w' : World} {tb c : Nat} {A : Option Addr} {n n' : TN} {L : List TF} (h : Tn w tb A c n L) (hf : Fr w w' (fun b => b = tb)) (hc : w'.heap[tb]? = some (.cells (tcells A L.length c n') 29 (0, 0))) : Tn w' tb A c n' L :=
  ⟨hc, fun i hi => by
    obtain ⟨g, e, hg, h0, h1, h2⟩ := h.row i hi
    exact ⟨g, e, hg, (World.cell?_of_block (a := ⟨g, i * 3, none⟩) (hf.block g (block_lt_of_cell h0) hg)).trans h0, (World.cell?_of_block (a := ⟨g, i * 3 + 1, none⟩) (hf.block g (block_lt_of_cell h1) hg)).trans h1, (World.cell?_of_block (a := ⟨g, i * 3 + 2, none⟩) (hf.block g (block_lt_of_cell h2) hg)).trans h2⟩⟩
section
variable {w : World} {tb c : Nat} {A : Option Addr} {n : TN} {L : List TF}
theorem goes_tw (h : Tn w tb A c n L) (hl0 : n.armed = true → 0 ≤ n.left) (hl1 : n.left ≤ 9223372036854775807) : Calls Try.prog 30 #[.pointer (some ⟨tb, 0, none⟩)] w fun e w' =>
    e = .returned (.bool (!(n.armed && n.left == 0))) ∧ Tn w' tb A c (tgd n) L ∧ Fr w w' (fun b => b = tb) := by
  obtain ⟨cap, left, armed, off⟩ := n
  simp only at hl0 hl1
  have c2 := h.c2
  have c3 := h.c3
  have c4 := h.c4
  have f2 := h.fz 2
  have f4 := h.fz 4
  simp only at c2 c3 c4
  have HT := Lib.hid h
  have HC := Lib.hid h.cells
  clear h
  cases armed with
  | false =>
    go_enter Try.func30, Try.ntmps30
    go_wp2
    go_ret
    exact ⟨rfl, by show Tn w tb A c ⟨cap, left, false, off⟩ L; exact HT.out, Fr.refl _ _⟩
  | true =>
    have hl := hl0 rfl
    by_cases e : left = 0
    · subst e
      go_enter Try.func30, Try.ntmps30
      go_wp2
      go_ret
      have hf : Fr w (w.setCell ⟨tb, 4, none⟩ (.bool true)) (fun b => b = tb) := Fr.setCell w (fun b => b = tb) (p := ⟨tb, 4, none⟩) rfl _
      exact ⟨rfl, HT.out.turn hf (heap_setCell_same w tb 4 _ _ (.bool true) HC.out), hf⟩
    · have d0 : (left == 0) = false := beq_eq_false_iff_ne.2 e
      have hw : IntKind.i64.wrap (left - 1) = left - 1 := IntWalk.i64_in _ (by omega)
      go_enter Try.func30, Try.ntmps30
      go_wp2
      go_ret
      have hf : Fr w (w.setCell ⟨tb, 2, none⟩ (.int .i64 (left - 1))) (fun b => b = tb) := Fr.setCell w (fun b => b = tb) (p := ⟨tb, 2, none⟩) rfl _
      have htg : tgd ⟨cap, left, true, off⟩ = ⟨cap, left - 1, true, off⟩ := by
        unfold tgd
        rw [if_neg (fun h => e h.2), if_pos rfl]
      rw [htg]
      refine ⟨?_, HT.out.turn hf (heap_setCell_same w tb 2 _ _ (.int .i64 (left - 1)) HC.out), hf⟩
      simp
end
end Go.Proofs.Ytfpcfbolpnfacaa
