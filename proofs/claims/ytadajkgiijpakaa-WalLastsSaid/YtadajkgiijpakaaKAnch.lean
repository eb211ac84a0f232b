/-
  The document's function anchor of layer 13, over this translation; a slice of bytes read as a string.
-/
import Derived.Test.YtadajkgiijpakaaKCrash
import Derived.Laws.BytesArg
import Derived.Lib.SlBytesConst
namespace Go.Proofs.Ytadajkgiijpakaa
open Go.RowKit
open ByteP
set_option linter.unusedVariables false
set_option maxRecDepth 10000

theorem str_run {w : World} {B n c : Nat} {A : Option Addr} {xs : List Int} (h : RdY w B A n xs) : (convert 26 9 (.slice A n c)).run Try.prog w = .ok (.string (strOfNums xs)) w := by
  by_cases hn : 0 < n
  · obtain ⟨b, off, rfl, hb, hc⟩ := h.2 hn
    exact run_convert_bytes_arg w 26 5 Try.underlying26 Try.underlying5 b off n c xs h.1 (fun i hi => hc i hi) 9 Try.underlying9
  · obtain rfl : n = 0 := by omega
    have hx : xs = [] := List.eq_nil_of_length_eq_zero h.1
    subst hx
    cases A with
    | none => exact run_convert_bytes_nil w 26 5 Try.underlying26 Try.underlying5 0 c 9 Try.underlying9
    | some a =>
      rw [run_convert_bytes_string w 26 9 5 _ 0 c Try.underlying26 Try.underlying5 Try.underlying9, run_bytesToString w a 0 c [] (by simpa using run_loadCells_list (P := Try.prog) w a [] (fun j v hj => by simp at hj))]
      rfl
theorem strOf_append (xs ys : List Int) : strOfNums (xs ++ ys) = strOfNums xs ++ strOfNums ys := by
  apply ByteArray.ext
  simp [strOfNums]

theorem rdk_new {w : World} {db mb K : Nat} {n : Nm} {F : Int → Option Fi} (h : Dk w db mb K n F) (T : TypeId) (ys : List Int) (cs : Array Value) (hcs : cs = (ys.map (Value.int .u8)).toArray) (fr : Nat × Nat) :
    RdK (w.alloc (.cells cs T fr)) (Mine db mb F) (some ⟨w.heap.size, 0, none⟩) ys.length ys := by
  subst hcs
  refine ⟨rfl, fun _ => ⟨w.heap.size, 0, rfl, by simp, h.notMine (Nat.le_refl _), fun j hj => ?_⟩⟩
  have hb := heap_alloc_new w (.cells (ys.map (Value.int .u8)).toArray T fr)
  simp only [World.cell?, hb, Nat.zero_add]
  simp [ix, List.getD, hj]
theorem rdz_new {w : World} {db mb K : Nat} {n : Nm} {F : Int → Option Fi} (h : Dk w db mb K n F) (T : TypeId) (ys : List Int) (cs : Array Value) (hcs : cs = (ys.map (Value.int .i64)).toArray) :
    RdZ (w.alloc (.cells cs T)) (Mine db mb F) (some ⟨w.heap.size, 0, none⟩) ys.length ys := by
  subst hcs
  refine ⟨rfl, fun _ => ⟨w.heap.size, 0, rfl, by simp, h.notMine (Nat.le_refl _), fun j hj => ?_⟩⟩
  have hb := heap_alloc_new w (.cells (ys.map (Value.int .i64)).toArray T)
  simp only [World.cell?, hb, Nat.zero_add]
  simp [ix, List.getD, hj]

theorem asc_ext : ∀ {a b : List Int}, Asc a → Asc b → (∀ x, x ∈ a ↔ x ∈ b) → a = b
  | [], [], _, _, _ => rfl
  | [], y :: b, _, _, h => by have := (h y).2 (by simp); simp at this
  | x :: a, [], _, _, h => by have := (h x).1 (by simp); simp at this
  | x :: a, y :: b, ha, hb, h => by
    have ha' := List.pairwise_cons.1 ha
    have hb' := List.pairwise_cons.1 hb
    have exy : x = y := by
      have h1 := (h x).1 (by simp)
      have h2 := (h y).2 (by simp)
      simp only [List.mem_cons] at h1 h2
      rcases h1 with e | e
      · exact e
      · rcases h2 with e' | e'
        · exact e'.symm
        · have := ha'.1 y e'; have := hb'.1 x e; omega
    subst exy
    rw [asc_ext ha'.2 hb'.2 (fun z => by
      have hz := h z
      simp only [List.mem_cons] at hz
      constructor
      · intro hm
        rcases hz.1 (.inr hm) with e | e
        · subst e; have := ha'.1 z hm; omega
        · exact e
      · intro hm
        rcases hz.2 (.inr hm) with e | e
        · subst e; have := hb'.1 z hm; omega
        · exact e)]

theorem putF_same (F : Int → Option Fi) (k : Int) (f : Fi) : putF F k f k = some f := by unfold putF; rw [if_pos rfl]
theorem putF_other (F : Int → Option Fi) {k x : Int} (f : Fi) (h : x ≠ k) : putF F k f x = F x := by unfold putF; rw [if_neg h]
theorem bytes_lit {xs : List Int} (h : ∀ x, x ∈ xs → 0 ≤ x ∧ x ≤ 255) : Bytes xs := fun i => by
  by_cases hi : i < xs.length
  · exact h _ (ix_mem hi)
  · have e : ix xs i = 0 := by unfold ix; rw [List.getD_eq_getElem?_getD, List.getElem?_eq_none (by omega)]; rfl
    rw [e]; omega
theorem gd_off (n : Nm) (h : n.left = -1) : gd n = n := by unfold gd; rw [if_pos h]
end Go.Proofs.Ytadajkgiijpakaa
