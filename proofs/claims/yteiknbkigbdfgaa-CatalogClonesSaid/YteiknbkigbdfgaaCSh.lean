/-
  THE SHAPE OF A CLONE: which kinds of values stand where, whatever they are; stores of such values keep it.
-/
import Derived.Test.YteiknbkigbdfgaaCBs
namespace Go.Proofs.Yteiknbkigbdfgaa
open Go.RowKit
open SemP DiP
set_option linter.unusedVariables false
set_option linter.unusedSimpArgs false
set_option maxRecDepth 10000
def cmK : ItT CV := fun _ _ vs _ => ∃ (o a b c : Int) (s : ByteArray), vs = [.int .i64 o, .int .i64 a, .int .i64 b, .int .i64 c, .string s]
def inK {α : Type} : ItT α := fun _ _ vs _ => ∃ o : Int, vs = [.int .i64 o]
def stK {α : Type} : ItT α := fun _ _ vs _ => ∃ s : ByteArray, vs = [.string s]
def vnK : ItT VrT := fun _ _ vs _ => ∃ (a b c : Int) (s : ByteArray), vs = [.int .i64 a, .int .i64 b, .int .i64 c, .string s]
def liK : ItT (List CV) := OwI 50 5 cmK
def rgK : ItT (List (List CV)) := OwI 48 1 liK
def pnK : ItT Nd := TwI inK rgK
def psK : ItT (List Nd) := OwI 47 2 pnK
def reK : ItT Rl := TwI vnK (TwI inK psK)
def rsK : ItT (List Rl) := OwI 42 6 reK
def svK : ItT Sv := TwI stK rsK
def ssK : ItT (List Sv) := OwI 36 2 svK
theorem OwI.imp {α : Type} [Inhabited α] {E : TypeId} {z : Nat} {I I' : ItT α} {w : World} {M : Nat → Prop} {vs : List Value} {l : List α} (hI : ∀ {us x}, I w M us x → I' w M us x) (h : OwI E z I w M vs l) : OwI E z I' w M vs l := by
  obtain ⟨v, e, hv, vals, ho, hj⟩ := h
  refine ⟨v, e, hv, vals, ho, fun j hl => ?_⟩
  obtain ⟨us, h1, h2, h3⟩ := hj j hl
  exact ⟨us, h1, h2, hI h3⟩
section
variable {w : World} {M : Nat → Prop}
theorem liO.k {vs : List Value} {l : List CV} (h : liO w M vs l) : liK w M vs l := OwI.imp (fun {us x} h => ⟨_, _, _, _, _, h⟩) h
theorem rgO.k {vs : List Value} {l : List (List CV)} (h : rgO w M vs l) : rgK w M vs l := OwI.imp (fun {us x} h => liO.k h) h
theorem pnO.k {vs : List Value} {l : Nd} (h : pnO w M vs l) : pnK w M vs l := by
  obtain ⟨a, b, e, h1, h2⟩ := h
  exact ⟨a, b, e, ⟨_, h1⟩, rgO.k h2⟩
theorem psO.k {vs : List Value} {l : List Nd} (h : psO w M vs l) : psK w M vs l := OwI.imp (fun {us x} h => pnO.k h) h
theorem reO.k {vs : List Value} {l : Rl} (h : reO w M vs l) : reK w M vs l := by
  obtain ⟨a, b, e, h1, a2, b2, e2, h2, h3⟩ := h
  exact ⟨a, b, e, ⟨_, _, _, _, h1⟩, a2, b2, e2, ⟨_, h2⟩, psO.k h3⟩
theorem rsO.k {vs : List Value} {l : List Rl} (h : rsO w M vs l) : rsK w M vs l := OwI.imp (fun {us x} h => reO.k h) h
theorem svO.k {vs : List Value} {l : Sv} (h : svO w M vs l) : svK w M vs l := by
  obtain ⟨a, b, e, h1, h2⟩ := h
  exact ⟨a, b, e, ⟨_, h1⟩, rsO.k h2⟩
theorem ssO.k {vs : List Value} {l : List Sv} (h : OwI 36 2 svO w M vs l) : ssK w M vs l := OwI.imp (fun {us x} h => svO.k h) h
end
/-- A store of a value of the same kind into a row, or beside it. -/
theorem OwI.hit {α : Type} [Inhabited α] {E : TypeId} {z : Nat} {I : ItT α} {w : World} {M : Nat → Prop} {vs : List Value} {l : List α} {g b i : Nat} {u : Value} {cur : Array Value} (hg : w.heap[g]? = some (.cells cur E (0, 0))) (hi : i < z)
    (hI : ∀ {us : List Value} {x : α}, I w M us x → I (w.setCell ⟨g, b * z + i, none⟩ u) M us x) (hR : ∀ {us : List Value} {x : α}, I (w.setCell ⟨g, b * z + i, none⟩ u) M us x → I (w.setCell ⟨g, b * z + i, none⟩ u) M (us.set i u) x)
    (h : OwI E z I w M vs l) : OwI E z I (w.setCell ⟨g, b * z + i, none⟩ u) M vs l := by
  obtain ⟨v, e, hv, vals, ho, hj⟩ := h
  by_cases hb : v.ownBlock = some g
  · obtain ⟨c, rfl⟩ : ∃ c, v = .slice (some ⟨g, 0, none⟩) l.length c := by
      rcases ho.2 with ⟨rfl, _⟩ | ⟨g', cap, cur', e, _⟩
      · cases hb
      · subst e
        have : g' = g := by simpa [Value.ownBlock] using hb
        subst this; exact ⟨cap, rfl⟩
    obtain ⟨hs, _⟩ := ho.stored (b * z + i) u
    refine ⟨_, e, hv, _, hs, fun j hl => ?_⟩
    obtain ⟨us, h1, h2, h3⟩ := hj j hl
    by_cases ej : j = b
    · subst ej
      refine ⟨us.set i u, by rw [List.length_set]; exact h1, fun k x hx => ?_, hR (hI h3)⟩
      by_cases ek : i = k
      · subst ek
        rw [List.getElem?_set_self (by omega)] at hx
        have hlt : j * z + i < vals.length := by
          rw [ho.1]
          have : (j + 1) * z ≤ l.length * z := Nat.mul_le_mul_right z hl
          rw [Nat.add_mul, Nat.one_mul] at this; omega
        rw [List.getElem?_set_self hlt]; exact hx
      · rw [List.getElem?_set_ne ek] at hx
        rw [List.getElem?_set_ne (by omega)]
        exact h2 k x hx
    · refine ⟨us, h1, fun k x hx => ?_, hI h3⟩
      have hk : k < z := by rw [← h1]; exact (List.getElem?_eq_some_iff.1 hx).1
      have hne : b * z + i ≠ j * z + k := by
        rcases Nat.lt_or_gt_of_ne ej with hlt | hgt
        · have : (j + 1) * z ≤ b * z := Nat.mul_le_mul_right z hlt
          rw [Nat.add_mul, Nat.one_mul] at this; omega
        · have : (b + 1) * z ≤ j * z := Nat.mul_le_mul_right z hgt
          rw [Nat.add_mul, Nat.one_mul] at this; omega
      rw [List.getElem?_set_ne hne]
      exact h2 k x hx
  · refine ⟨v, e, hv, vals, own_frm (M := fun x => x = g) ho (FrM.of_grown (grown_set w g (b * z + i) u) (fun g' hg' => by injection hg' with hg'; exact hg'.symm)) (fun g' hg' e => hb (by rw [hg', e])), fun j hl => ?_⟩
    obtain ⟨us, h1, h2, h3⟩ := hj j hl
    exact ⟨us, h1, h2, hI h3⟩
/-! ### A store of an Op -/
section
variable {w : World} {M : Nat → Prop} {g b : Nat} {u : Int} {cur : Array Value} {vs : List Value}
theorem liK.op {l : List CV} (hg : w.heap[g]? = some (.cells cur 50 (0, 0))) (h : liK w M vs l) : liK (w.setCell ⟨g, b * 5, none⟩ (.int .i64 u)) M vs l :=
  OwI.hit (i := 0) hg (by omega) (fun h => h) (fun {us x} h => by obtain ⟨o, a, b, c, s, rfl⟩ := h; exact ⟨_, _, _, _, _, rfl⟩) h
theorem rgK.op {l : List (List CV)} (hg : w.heap[g]? = some (.cells cur 50 (0, 0))) (h : rgK w M vs l) : rgK (w.setCell ⟨g, b * 5, none⟩ (.int .i64 u)) M vs l :=
  OwI.miss hg (by decide) (fun h => liK.op hg h) h
theorem pnK.op {l : Nd} (hg : w.heap[g]? = some (.cells cur 50 (0, 0))) (h : pnK w M vs l) : pnK (w.setCell ⟨g, b * 5, none⟩ (.int .i64 u)) M vs l := by
  obtain ⟨a, c, e, h1, h2⟩ := h
  exact ⟨a, c, e, h1, rgK.op hg h2⟩
theorem psK.op {l : List Nd} (hg : w.heap[g]? = some (.cells cur 50 (0, 0))) (h : psK w M vs l) : psK (w.setCell ⟨g, b * 5, none⟩ (.int .i64 u)) M vs l :=
  OwI.miss hg (by decide) (fun h => pnK.op hg h) h
theorem rsK.op {l : List Rl} (hg : w.heap[g]? = some (.cells cur 50 (0, 0))) (h : rsK w M vs l) : rsK (w.setCell ⟨g, b * 5, none⟩ (.int .i64 u)) M vs l :=
  OwI.miss hg (by decide) (fun {us x} ⟨a, c, e, h1, a2, b2, e2, h2, h3⟩ => ⟨a, c, e, h1, a2, b2, e2, h2, psK.op hg h3⟩) h
theorem ssK.op {l : List Sv} (hg : w.heap[g]? = some (.cells cur 50 (0, 0))) (h : ssK w M vs l) : ssK (w.setCell ⟨g, b * 5, none⟩ (.int .i64 u)) M vs l :=
  OwI.miss hg (by decide) (fun {us x} ⟨a, c, e, h1, h2⟩ => ⟨a, c, e, h1, rsK.op hg h2⟩) h
/-! ### A store of a need's Service -/
theorem rgK.sv {l : List (List CV)} (hg : w.heap[g]? = some (.cells cur 47 (0, 0))) (h : rgK w M vs l) : rgK (w.setCell ⟨g, b * 2, none⟩ (.int .i64 u)) M vs l :=
  OwI.miss hg (by decide) (fun h => OwI.miss hg (by decide) (fun h => h) h) h
theorem psK.sv {l : List Nd} (hg : w.heap[g]? = some (.cells cur 47 (0, 0))) (h : psK w M vs l) : psK (w.setCell ⟨g, b * 2, none⟩ (.int .i64 u)) M vs l :=
  OwI.hit (i := 0) hg (by omega) (fun {us x} ⟨a, c, e, h1, h2⟩ => ⟨a, c, e, h1, rgK.sv hg h2⟩) (fun {us x} ⟨a, c, e, ⟨o, h1⟩, h2⟩ => by subst h1 e; exact ⟨[.int .i64 u], c, rfl, ⟨_, rfl⟩, h2⟩) h
theorem rsK.sv {l : List Rl} (hg : w.heap[g]? = some (.cells cur 47 (0, 0))) (h : rsK w M vs l) : rsK (w.setCell ⟨g, b * 2, none⟩ (.int .i64 u)) M vs l :=
  OwI.miss hg (by decide) (fun {us x} ⟨a, c, e, h1, a2, b2, e2, h2, h3⟩ => ⟨a, c, e, h1, a2, b2, e2, h2, psK.sv hg h3⟩) h
theorem ssK.sv {l : List Sv} (hg : w.heap[g]? = some (.cells cur 47 (0, 0))) (h : ssK w M vs l) : ssK (w.setCell ⟨g, b * 2, none⟩ (.int .i64 u)) M vs l :=
  OwI.miss hg (by decide) (fun {us x} ⟨a, c, e, h1, h2⟩ => ⟨a, c, e, h1, rsK.sv hg h2⟩) h
/-! ### A store of a release's Level -/
theorem psK.lv {q : Nat} {y : Value} {l : List Nd} (hg : w.heap[g]? = some (.cells cur 42 (0, 0))) (h : psK w M vs l) : psK (w.setCell ⟨g, q, none⟩ y) M vs l :=
  OwI.miss hg (by decide) (fun {us x} ⟨a, c, e, h1, h2⟩ => ⟨a, c, e, h1, OwI.miss hg (by decide) (fun h => OwI.miss hg (by decide) (fun h => h) h) h2⟩) h
theorem rsK.lv {l : List Rl} (hg : w.heap[g]? = some (.cells cur 42 (0, 0))) (h : rsK w M vs l) : rsK (w.setCell ⟨g, b * 6 + 4, none⟩ (.int .i64 u)) M vs l :=
  OwI.hit (i := 4) hg (by omega) (fun {us x} ⟨a, c, e, h1, a2, b2, e2, h2, h3⟩ => ⟨a, c, e, h1, a2, b2, e2, h2, psK.lv hg h3⟩) (fun {us x} ⟨a, c, e, ⟨o1, o2, o3, o4, h1⟩, a2, b2, e2, ⟨o, h2⟩, h3⟩ => by
    subst h2 e2 h1 e
    exact ⟨[.int .i64 o1, .int .i64 o2, .int .i64 o3, .string o4], .int .i64 u :: b2, rfl, ⟨_, _, _, _, rfl⟩, [.int .i64 u], b2, rfl, ⟨_, rfl⟩, h3⟩) h
theorem ssK.lv {l : List Sv} (hg : w.heap[g]? = some (.cells cur 42 (0, 0))) (h : ssK w M vs l) : ssK (w.setCell ⟨g, b * 6 + 4, none⟩ (.int .i64 u)) M vs l :=
  OwI.miss hg (by decide) (fun {us x} ⟨a, c, e, h1, h2⟩ => ⟨a, c, e, h1, rsK.lv hg h2⟩) h
/-! ### A store of a service's Name -/
theorem rsK.nm {q : Nat} {y : Value} {l : List Rl} (hg : w.heap[g]? = some (.cells cur 36 (0, 0))) (h : rsK w M vs l) : rsK (w.setCell ⟨g, q, none⟩ y) M vs l :=
  OwI.miss hg (by decide) (fun {us x} ⟨a, c, e, h1, a2, b2, e2, h2, h3⟩ => ⟨a, c, e, h1, a2, b2, e2, h2, OwI.miss hg (by decide) (fun {us x} ⟨a, c, e, h1, h2⟩ => ⟨a, c, e, h1, OwI.miss hg (by decide) (fun h => OwI.miss hg (by decide) (fun h => h) h) h2⟩) h3⟩) h
theorem ssK.nm {s : ByteArray} {l : List Sv} (hg : w.heap[g]? = some (.cells cur 36 (0, 0))) (h : ssK w M vs l) : ssK (w.setCell ⟨g, b * 2, none⟩ (.string s)) M vs l :=
  OwI.hit (i := 0) hg (by omega) (fun {us x} ⟨a, c, e, h1, h2⟩ => ⟨a, c, e, h1, rsK.nm hg h2⟩) (fun {us x} ⟨a, c, e, ⟨o, h1⟩, h2⟩ => by subst h1 e; exact ⟨[.string s], c, rfl, ⟨_, rfl⟩, h2⟩) h
end
theorem cmK_turns : Turns cmK := ⟨fun h _ _ => h⟩
theorem inK_turns {α : Type} : Turns (inK (α := α)) := ⟨fun h _ _ => h⟩
theorem stK_turns {α : Type} : Turns (stK (α := α)) := ⟨fun h _ _ => h⟩
theorem vnK_turns : Turns vnK := ⟨fun h _ _ => h⟩
theorem ssK_turns : Turns ssK := OwI.turns (TwI.turns stK_turns (OwI.turns (TwI.turns vnK_turns (TwI.turns inK_turns (OwI.turns (TwI.turns inK_turns (OwI.turns (OwI.turns cmK_turns))))))))
/-- A store into a block that bears another type. -/
theorem svO_miss {w : World} {M : Nat → Prop} {g q : Nat} {u : Value} {cur : Array Value} {us : List Value} {x : Sv} (hg : w.heap[g]? = some (.cells cur 24 (0, 0))) (h : svO w M us x) : svO (w.setCell ⟨g, q, none⟩ u) M us x := by
  obtain ⟨a, c, e, h1, h2⟩ := h
  exact ⟨a, c, e, h1, OwI.miss hg (by decide) (fun {us x} ⟨a, c, e, h1, a2, b2, e2, h2, h3⟩ => ⟨a, c, e, h1, a2, b2, e2, h2, OwI.miss hg (by decide) (fun {us x} ⟨a, c, e, h1, h2⟩ => ⟨a, c, e, h1, OwI.miss hg (by decide) (fun h => OwI.miss hg (by decide) (fun h => h) h) h2⟩) h3⟩) h2⟩
/-! ### Where an element stands -/
theorem OwI.at_ {α : Type} [Inhabited α] {E : TypeId} {z : Nat} {I : ItT α} {w : World} {M : Nat → Prop} {v : Value} {l : List α} (h : OwI E z I w M [v] l) {j : Nat} (hj : j < l.length) :
    ∃ g c cur us, v = .slice (some ⟨g, 0, none⟩) l.length c ∧ ¬ M g ∧ g < w.heap.size ∧ w.heap[g]? = some (.cells cur E (0, 0)) ∧ us.length = z ∧ (∀ i x, us[i]? = some x → w.cell? ⟨g, j * z + i, none⟩ = some x) ∧ (∀ i, w.frozen? ⟨g, i, none⟩ = false) ∧ I w M us (l.getD j default) := by
  obtain ⟨v', e, hv, vals, ho, hvj⟩ := h
  injection e with e _
  subst e
  obtain ⟨us, h1, h2, h3⟩ := hvj j hj
  rcases ho.2 with ⟨rfl, h0⟩ | ⟨g, cap, cur, rfl, _, hh, _⟩
  · omega
  · exact ⟨g, cap, cur, us, rfl, hv g rfl, heapE_lt hh, hh, h1, fun i x hx => row_cell ho (h2 i x hx), fun i => ho.frozenAt i, h3⟩
theorem OwI.shape {α : Type} [Inhabited α] {E : TypeId} {z : Nat} {I : ItT α} {w : World} {M : Nat → Prop} {v : Value} {l : List α} (h : OwI E z I w M [v] l) : ∃ A c, v = .slice A l.length c := by
  obtain ⟨v', e, hv, vals, ho, hvj⟩ := h
  injection e with e _
  subst e
  rcases ho.2 with ⟨rfl, h0⟩ | ⟨g, cap, cur, rfl, _⟩
  · exact ⟨none, 0, by rw [h0]⟩
  · exact ⟨some ⟨g, 0, none⟩, cap, rfl⟩
theorem liK.parts {w : World} {M : Nat → Prop} {v : Value} {l : List CV} (h : liK w M [v] l) {j : Nat} (hj : j < l.length) :
    ∃ g c cur o a b d s, v = .slice (some ⟨g, 0, none⟩) l.length c ∧ ¬ M g ∧ g < w.heap.size ∧ w.heap[g]? = some (.cells cur 50 (0, 0)) ∧ w.cell? ⟨g, j * 5, none⟩ = some (.int .i64 o) ∧ w.cell? ⟨g, j * 5 + 1, none⟩ = some (.int .i64 a) ∧ w.cell? ⟨g, j * 5 + 2, none⟩ = some (.int .i64 b) ∧ w.cell? ⟨g, j * 5 + 3, none⟩ = some (.int .i64 d) ∧ w.cell? ⟨g, j * 5 + 4, none⟩ = some (.string s) ∧ (∀ i, w.frozen? ⟨g, i, none⟩ = false) := by
  obtain ⟨g, c, cur, us, e, h1, h2, h3, _, h4, h5, o, a, b, d, s, rfl⟩ := OwI.at_ h hj
  exact ⟨g, c, cur, o, a, b, d, s, e, h1, h2, h3, h4 0 _ rfl, h4 1 _ rfl, h4 2 _ rfl, h4 3 _ rfl, h4 4 _ rfl, h5⟩
theorem rgK.parts {w : World} {M : Nat → Prop} {v : Value} {l : List (List CV)} (h : rgK w M [v] l) {j : Nat} (hj : j < l.length) :
    ∃ g c cur y, v = .slice (some ⟨g, 0, none⟩) l.length c ∧ ¬ M g ∧ g < w.heap.size ∧ w.heap[g]? = some (.cells cur 48 (0, 0)) ∧ w.cell? ⟨g, j, none⟩ = some y ∧ liK w M [y] (l.getD j default) := by
  obtain ⟨g, c, cur, us, e, h1, h2, h3, _, h4, h5, hy⟩ := OwI.at_ h hj
  obtain ⟨y, rfl⟩ : ∃ y, us = [y] := by obtain ⟨y, e, _⟩ := hy; exact ⟨y, e⟩
  have := h4 0 _ rfl
  rw [Nat.mul_one, Nat.add_zero] at this
  exact ⟨g, c, cur, y, e, h1, h2, h3, this, hy⟩
theorem psK.parts {w : World} {M : Nat → Prop} {v : Value} {l : List Nd} (h : psK w M [v] l) {j : Nat} (hj : j < l.length) :
    ∃ g c cur o y, v = .slice (some ⟨g, 0, none⟩) l.length c ∧ ¬ M g ∧ g < w.heap.size ∧ w.heap[g]? = some (.cells cur 47 (0, 0)) ∧ w.cell? ⟨g, j * 2, none⟩ = some (.int .i64 o) ∧ w.cell? ⟨g, j * 2 + 1, none⟩ = some y ∧ (∀ i, w.frozen? ⟨g, i, none⟩ = false) ∧ rgK w M [y] (l.getD j default).2 := by
  obtain ⟨g, c, cur, us, e, h1, h2, h3, _, h4, h5, u1, u2, e2, ⟨o, rfl⟩, hy⟩ := OwI.at_ h hj
  obtain ⟨y, rfl⟩ : ∃ y, u2 = [y] := by obtain ⟨y, e, _⟩ := hy; exact ⟨y, e⟩
  subst e2
  exact ⟨g, c, cur, o, y, e, h1, h2, h3, h4 0 _ rfl, h4 1 _ rfl, h5, hy⟩
theorem rsK.parts {w : World} {M : Nat → Prop} {v : Value} {l : List Rl} (h : rsK w M [v] l) {j : Nat} (hj : j < l.length) :
    ∃ g c cur o y, v = .slice (some ⟨g, 0, none⟩) l.length c ∧ ¬ M g ∧ g < w.heap.size ∧ w.heap[g]? = some (.cells cur 42 (0, 0)) ∧ w.cell? ⟨g, j * 6 + 4, none⟩ = some (.int .i64 o) ∧ w.cell? ⟨g, j * 6 + 5, none⟩ = some y ∧ (∀ i, w.frozen? ⟨g, i, none⟩ = false) ∧ psK w M [y] (l.getD j default).2.2 := by
  obtain ⟨g, c, cur, us, e, h1, h2, h3, _, h4, h5, u1, u2, e2, ⟨o1, o2, o3, o4, rfl⟩, u3, u4, e3, ⟨o, rfl⟩, hy⟩ := OwI.at_ h hj
  obtain ⟨y, rfl⟩ : ∃ y, u4 = [y] := by obtain ⟨y, e, _⟩ := hy; exact ⟨y, e⟩
  subst e3
  subst e2
  exact ⟨g, c, cur, o, y, e, h1, h2, h3, h4 4 _ rfl, h4 5 _ rfl, h5, hy⟩
theorem ssK.parts {w : World} {M : Nat → Prop} {v : Value} {l : List Sv} (h : ssK w M [v] l) {j : Nat} (hj : j < l.length) :
    ∃ g c cur s y, v = .slice (some ⟨g, 0, none⟩) l.length c ∧ ¬ M g ∧ g < w.heap.size ∧ w.heap[g]? = some (.cells cur 36 (0, 0)) ∧ w.cell? ⟨g, j * 2, none⟩ = some (.string s) ∧ w.cell? ⟨g, j * 2 + 1, none⟩ = some y ∧ (∀ i, w.frozen? ⟨g, i, none⟩ = false) ∧ rsK w M [y] (l.getD j default).2 := by
  obtain ⟨g, c, cur, us, e, h1, h2, h3, _, h4, h5, u1, u2, e2, ⟨o, rfl⟩, hy⟩ := OwI.at_ h hj
  obtain ⟨y, rfl⟩ : ∃ y, u2 = [y] := by obtain ⟨y, e, _⟩ := hy; exact ⟨y, e⟩
  subst e2
  exact ⟨g, c, cur, o, y, e, h1, h2, h3, h4 0 _ rfl, h4 1 _ rfl, h5, hy⟩
end Go.Proofs.Yteiknbkigbdfgaa
