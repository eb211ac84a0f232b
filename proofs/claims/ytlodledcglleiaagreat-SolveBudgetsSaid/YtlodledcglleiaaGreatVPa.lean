/-
  MERGED: VPu VRk VPd.
-/
import Derived.Test.YtlodledcglleiaaGreatDOrder
import Derived.Test.YtlodledcglleiaaGreatCSe
import Derived.Test.YtlodledcglleiaaGreatCPv
import Derived.BigRegion
import Derived.RegionTactic
namespace Go.Proofs.YtlodledcglleiaaGreat.SeaP
set_option linter.unusedVariables false
set_option linter.unusedSimpArgs false
def iz (xs : List Int) (i : Nat) : Int := xs.getD i 0
abbrev Out := Nat × Option (List Int)
def suc (a : Out) : Out := (a.1 + 1, a.2)
/-- What comes first, and if it found nothing what comes behind. -/
def comb (a b : Out) : Out := if a.2.isSome then a else (a.1 + b.1, b.2)
theorem comb_some {a b : Out} (h : a.2.isSome = true) : comb a b = a := by simp [comb, h]
theorem comb_none {a b : Out} (h : a.2 = none) : comb a b = (a.1 + b.1, b.2) := by simp [comb, h]
theorem comb_zero (b : Out) : comb (0, none) b = b := by simp [comb]
theorem comb_assoc (a b c : Out) : comb (comb a b) c = comb a (comb b c) := by
  rcases a with ⟨m, _ | s⟩
  · rcases b with ⟨k, _ | t⟩
    · simp [comb, Nat.add_assoc]
    · simp [comb]
  · simp [comb]
theorem suc_comb (a b : Out) : comb (suc a) b = suc (comb a b) := by
  rcases a with ⟨m, _ | s⟩
  · simp [comb, suc]; omega
  · simp [comb, suc]
/-- The releases of one service, one by one. -/
def tryL (ok : List Int → Bool) (down : List Int → Out) (ch : List Int) : List Int → Out
  | [] => (0, none)
  | v :: vs => suc (comb (if ok (ch ++ [v]) then down (ch ++ [v]) else (0, none)) (tryL ok down ch vs))
theorem tryL_cons (ok : List Int → Bool) (down : List Int → Out) (ch : List Int) (v : Int) (vs : List Int) : tryL ok down ch (v :: vs) = suc (comb (if ok (ch ++ [v]) then down (ch ++ [v]) else (0, none)) (tryL ok down ch vs)) := rfl
/-- The plain search: how many tries, and what it found. -/
def dfs (ok : List Int → Bool) : List (List Int) → List Int → Out
  | [], ch => (0, some ch)
  | o :: os, ch => tryL ok (dfs ok os) ch o
/-- What is left behind the services ahead of s, all tried as far as ts. -/
def upF (ok : List Int → Bool) (os : List (List Int)) (ts cs : List Int) : Nat → Out
  | 0 => (0, none)
  | s + 1 => comb (tryL ok (dfs ok (os.drop (s + 1))) (cs.take s) ((os.getD s []).drop (iz ts s).toNat)) (upF ok os ts cs s)
def dnF (ok : List Int → Bool) (os : List (List Int)) (ts cs : List Int) (s : Nat) : Out := comb (dfs ok (os.drop s) (cs.take s)) (upF ok os ts cs s)
theorem upF_congr {ok : List Int → Bool} {os : List (List Int)} {ts cs ts' cs' : List Int} : ∀ {s : Nat}, (∀ i, i < s → iz ts i = iz ts' i) → (∀ i, i < s → cs.take i = cs'.take i) → upF ok os ts cs s = upF ok os ts' cs' s
  | 0, _, _ => rfl
  | s + 1, h, k => by
    unfold upF
    rw [h s (by omega), k s (by omega), upF_congr (fun i hi => h i (by omega)) (fun i hi => k i (by omega))]
theorem iz_set_ne {xs : List Int} {j k : Nat} {u : Int} (h : j ≠ k) : iz (xs.set j u) k = iz xs k := by
  unfold iz; rw [List.getD_eq_getElem?_getD, List.getElem?_set_ne h, ← List.getD_eq_getElem?_getD]
theorem iz_set_eq {xs : List Int} {j : Nat} {u : Int} (h : j < xs.length) : iz (xs.set j u) j = u := by
  unfold iz; simp [List.getD, h]
theorem take_set {cs : List Int} {s i : Nat} {v : Int} (h : i ≤ s) : (cs.set s v).take i = cs.take i := by
  rw [List.take_set]; exact List.set_eq_of_length_le (by rw [List.length_take]; omega)
theorem take_put {cs : List Int} {s : Nat} {v : Int} (h : s < cs.length) : (cs.set s v).take (s + 1) = cs.take s ++ [v] := by
  rw [List.take_add_one, take_set (Nat.le_refl _), List.getElem?_set_self h]; rfl
theorem drop_iz {o : List Int} {k : Nat} (h : k < o.length) : o.drop k = iz o k :: o.drop (k + 1) := by
  rw [List.drop_eq_getElem_cons h]; simp [iz, List.getD, h]
section
variable {ok : List Int → Bool} {os : List (List Int)} {ts cs : List Int} {s k : Nat}
theorem on_end (h : (os.getD s []).length ≤ (iz ts s).toNat) : upF ok os ts cs (s + 1) = upF ok os ts cs s := by
  conv => lhs; unfold upF
  rw [List.drop_of_length_le h]
  exact comb_zero _
theorem on_step (hk : iz ts s = (k : Int)) (hlt : k < (os.getD s []).length) (hts : s < ts.length) (hcs : s < cs.length) :
    upF ok os ts cs (s + 1) = suc (comb (if ok (cs.take s ++ [iz (os.getD s []) k]) then dfs ok (os.drop (s + 1)) (cs.take s ++ [iz (os.getD s []) k]) else (0, none)) (upF ok os (ts.set s ((k + 1 : Nat) : Int)) (cs.set s (iz (os.getD s []) k)) (s + 1))) := by
  have e2 : upF ok os (ts.set s ((k + 1 : Nat) : Int)) (cs.set s (iz (os.getD s []) k)) (s + 1) = comb (tryL ok (dfs ok (os.drop (s + 1))) (cs.take s) ((os.getD s []).drop (k + 1))) (upF ok os ts cs s) := by
    conv => lhs; unfold upF
    rw [take_set (Nat.le_refl _), iz_set_eq hts, upF_congr (s := s) (ts := ts.set s ((k + 1 : Nat) : Int)) (ts' := ts) (cs := cs.set s (iz (os.getD s []) k)) (cs' := cs) (fun i hi => iz_set_ne (by omega)) (fun i hi => take_set (by omega))]
    rfl
  rw [e2]
  conv => lhs; unfold upF
  rw [hk, show ((k : Int)).toNat = k by omega, drop_iz hlt, tryL_cons, suc_comb, comb_assoc]
theorem on_no (hk : iz ts s = (k : Int)) (hlt : k < (os.getD s []).length) (hts : s < ts.length) (hcs : s < cs.length) (hok : ok (cs.take s ++ [iz (os.getD s []) k]) = false) :
    upF ok os ts cs (s + 1) = suc (upF ok os (ts.set s ((k + 1 : Nat) : Int)) (cs.set s (iz (os.getD s []) k)) (s + 1)) := by
  rw [on_step hk hlt hts hcs, hok]
  simp [comb_zero]
theorem on_yes (hk : iz ts s = (k : Int)) (hlt : k < (os.getD s []).length) (hts : s < ts.length) (hcs : s < cs.length) (hok : ok (cs.take s ++ [iz (os.getD s []) k]) = true) :
    upF ok os ts cs (s + 1) = suc (dnF ok os (ts.set s ((k + 1 : Nat) : Int)) (cs.set s (iz (os.getD s []) k)) (s + 1)) := by
  rw [on_step hk hlt hts hcs, hok]
  unfold dnF
  rw [take_put hcs]
  rfl
theorem down_end (h : os.length ≤ s) : dnF ok os ts cs s = (0, some (cs.take s)) := by
  unfold dnF
  rw [List.drop_of_length_le h]
  rfl
theorem down_go (h : s < os.length) (hts : s < ts.length) : dnF ok os ts cs s = upF ok os (ts.set s 0) cs (s + 1) := by
  unfold dnF
  conv => rhs; unfold upF
  rw [iz_set_eq hts, upF_congr (s := s) (ts := ts.set s 0) (ts' := ts) (cs := cs) (cs' := cs) (fun i hi => iz_set_ne (by omega)) (fun i hi => rfl)]
  have e : os.drop s = os.getD s [] :: os.drop (s + 1) := by rw [List.drop_eq_getElem_cons h]; simp [List.getD, h]
  rw [e]
  rfl
end
/-- All beginnings are fine. -/
def pre (ok : List Int → Bool) : List Int → List Int → Bool
  | _, [] => true
  | ch, v :: s => ok (ch ++ [v]) && pre ok (ch ++ [v]) s
/-- All choices, in their order. -/
def prods : List (List Int) → List (List Int)
  | [] => [[]]
  | o :: os => o.flatMap fun v => (prods os).map (v :: ·)
theorem find_map_cons (ok : List Int → Bool) (ch : List Int) (v : Int) (P : List (List Int)) : (P.map (v :: ·)).find? (pre ok ch) = if ok (ch ++ [v]) then (P.find? (pre ok (ch ++ [v]))).map (v :: ·) else none := by
  rw [List.find?_map]
  by_cases h : ok (ch ++ [v]) = true
  · rw [if_pos h]
    congr 2
    funext s
    simp [pre, h]
  · rw [if_neg h]
    have h' : ok (ch ++ [v]) = false := by simpa using h
    have : P.find? (pre ok ch ∘ (v :: ·)) = none := by
      rw [List.find?_eq_none]; intro s _; simp [pre, h']
    rw [this]; rfl
theorem comb_two (a b : Out) : (comb a b).2 = a.2.or b.2 := by
  rcases a with ⟨m, _ | s⟩ <;> simp [comb]
theorem tryL_spec {ok : List Int → Bool} {down : List Int → Out} {P : List (List Int)} (hd : ∀ ch, (down ch).2 = (P.find? (pre ok ch)).map (ch ++ ·)) (ch : List Int) : ∀ o : List Int, (tryL ok down ch o).2 = ((o.flatMap fun v => P.map (v :: ·)).find? (pre ok ch)).map (ch ++ ·)
  | [] => rfl
  | v :: vs => by
    have ih := tryL_spec hd ch vs
    unfold tryL
    show (comb _ _).2 = _
    rw [comb_two, ih, List.flatMap_cons, List.find?_append, find_map_cons]
    by_cases h : ok (ch ++ [v]) = true
    · rw [if_pos h, if_pos h, hd]
      cases P.find? (pre ok (ch ++ [v])) <;> simp
    · rw [if_neg h, if_neg h]; simp
theorem dfs_spec {ok : List Int → Bool} : ∀ (os : List (List Int)) (ch : List Int), (dfs ok os ch).2 = ((prods os).find? (pre ok ch)).map (ch ++ ·)
  | [], ch => by simp [dfs, prods, pre]
  | o :: os, ch => by
    unfold dfs prods
    exact tryL_spec (fun ch => dfs_spec os ch) ch o
/-- What is found. -/
theorem dfs_found {ok : List Int → Bool} {os : List (List Int)} {t : List Int} (h : (dfs ok os []).2 = some t) : t ∈ prods os ∧ pre ok [] t = true := by
  rw [dfs_spec] at h
  cases hf : (prods os).find? (pre ok []) with
  | none => rw [hf] at h; cases h
  | some s =>
    rw [hf] at h
    have e : s = t := by simpa using h
    subst e
    exact ⟨List.mem_of_find?_eq_some hf, List.find?_some hf⟩
theorem prods_len : ∀ {os : List (List Int)} {t : List Int}, t ∈ prods os → t.length = os.length
  | [], t, h => by simp [prods] at h; subst h; rfl
  | o :: os, t, h => by
    unfold prods at h
    obtain ⟨v, hv, h⟩ := List.mem_flatMap.1 h
    obtain ⟨s, hs, rfl⟩ := List.mem_map.1 h
    simp [prods_len hs]
theorem prods_at : ∀ {os : List (List Int)} {t : List Int}, t ∈ prods os → ∀ i, i < os.length → iz t i ∈ os.getD i []
  | [], t, h, i, hi => absurd hi (by simp)
  | o :: os, t, h, i, hi => by
    unfold prods at h
    obtain ⟨v, hv, h⟩ := List.mem_flatMap.1 h
    obtain ⟨s, hs, rfl⟩ := List.mem_map.1 h
    cases i with
    | zero => exact hv
    | succ j => exact prods_at hs j (by simpa using hi)
/-- Fewer that are fine: nothing found stays so, and what is fine still stays; in no more tries. -/
def Less (ok' : List Int → Bool) (ch : List Int) (a b : Out) : Prop :=
  match a.2 with
  | none => b.2 = none ∧ b.1 ≤ a.1
  | some t => ∀ s, t = ch ++ s → pre ok' ch s = true → b.2 = some t ∧ b.1 ≤ a.1
theorem tryL_len {ok : List Int → Bool} {down : List Int → Out} (hd : ∀ ch t, (down ch).2 = some t → ∃ s, t = ch ++ s) (ch : List Int) : ∀ (o : List Int) {t : List Int}, (tryL ok down ch o).2 = some t → ∃ v s, v ∈ o ∧ t = ch ++ v :: s
  | [], t, h => by cases h
  | v :: vs, t, h => by
    unfold tryL at h
    have h : (comb (if ok (ch ++ [v]) then down (ch ++ [v]) else (0, none)) (tryL ok down ch vs)).2 = some t := h
    rw [comb_two] at h
    by_cases h1 : ok (ch ++ [v]) = true
    · rw [if_pos h1] at h
      cases h2 : (down (ch ++ [v])).2 with
      | none =>
        rw [h2] at h
        obtain ⟨u, s, hu, e⟩ := tryL_len hd ch vs (t := t) (by simpa using h)
        exact ⟨u, s, List.mem_cons_of_mem _ hu, e⟩
      | some t' =>
        rw [h2] at h
        have e : t' = t := by simpa using h
        subst e
        obtain ⟨s, e⟩ := hd _ _ h2
        exact ⟨v, s, List.mem_cons_self, by rw [e]; simp⟩
    · rw [if_neg h1] at h
      obtain ⟨u, s, hu, e⟩ := tryL_len hd ch vs (t := t) (by simpa using h)
      exact ⟨u, s, List.mem_cons_of_mem _ hu, e⟩
theorem dfs_ext {ok : List Int → Bool} : ∀ (os : List (List Int)) (ch t : List Int), (dfs ok os ch).2 = some t → ∃ s, t = ch ++ s
  | [], ch, t, h => ⟨[], by simp [dfs] at h; simp [h]⟩
  | o :: os, ch, t, h => by
    unfold dfs at h
    obtain ⟨v, s, _, e⟩ := tryL_len (fun ch t h => dfs_ext os ch t h) ch o h
    exact ⟨_, e⟩
theorem tryL_less {ok ok' : List Int → Bool} (hok : ∀ c, ok' c = true → ok c = true) {down down' : List Int → Out} (hx : ∀ ch t, (down ch).2 = some t → ∃ s, t = ch ++ s) (hd : ∀ ch, Less ok' ch (down ch) (down' ch)) (ch : List Int) : ∀ o : List Int, Less ok' ch (tryL ok down ch o) (tryL ok' down' ch o)
  | [] => ⟨rfl, Nat.le_refl _⟩
  | v :: vs => by
    have ih := tryL_less hok hx hd ch vs
    have h0 := hd (ch ++ [v])
    unfold tryL
    generalize hA : tryL ok down ch vs = A at ih ⊢
    generalize hB : tryL ok' down' ch vs = B at ih ⊢
    by_cases h1 : ok (ch ++ [v]) = true
    · rw [if_pos h1]
      have hxv := hx (ch ++ [v])
      generalize hC : down (ch ++ [v]) = C at h0 hxv ⊢
      generalize hD : down' (ch ++ [v]) = D at h0 ⊢
      obtain ⟨c, oc⟩ := C
      obtain ⟨d, od⟩ := D
      obtain ⟨a, oa⟩ := A
      obtain ⟨b, ob⟩ := B
      cases oc with
      | some t =>
        show ∀ s, t = ch ++ s → _
        intro s e hp
        obtain ⟨s', e'⟩ := hxv t rfl
        have e3 : s = v :: s' := by
          have := e.symm.trans e'
          rw [List.append_assoc] at this
          exact List.append_cancel_left this
        subst e3
        have hp2 : ok' (ch ++ [v]) = true ∧ pre ok' (ch ++ [v]) s' = true := by simpa [pre] using hp
        obtain ⟨hp1, hp2⟩ := hp2
        obtain ⟨e4, h4⟩ := h0 s' e' hp2
        have e4 : od = some t := e4
        have h4 : d ≤ c := h4
        subst e4
        rw [if_pos hp1]
        simp [comb, suc]; omega
      | none =>
        have h0 : od = none ∧ d ≤ c := h0
        obtain ⟨rfl, hdc⟩ := h0
        have e5 : (comb (if ok' (ch ++ [v]) = true then (d, none) else (0, none)) (b, ob)).1 ≤ c + b ∧ (comb (if ok' (ch ++ [v]) = true then (d, none) else (0, none)) (b, ob)).2 = ob := by
          split <;> simp [comb] <;> omega
        obtain ⟨e5, e6⟩ := e5
        cases oa with
        | none =>
          have ih : ob = none ∧ b ≤ a := ih
          refine ⟨?_, ?_⟩
          · show (comb _ _).2 = none; rw [e6]; exact ih.1
          · show (comb _ _).1 + 1 ≤ c + a + 1; omega
        | some t =>
          intro s e hp
          have ih := ih s e hp
          have ih1 : ob = some t := ih.1
          have ih2 : b ≤ a := ih.2
          refine ⟨?_, ?_⟩
          · show (comb _ _).2 = some t; rw [e6]; exact ih1
          · show (comb _ _).1 + 1 ≤ c + a + 1; omega
    · rw [if_neg h1]
      have h2 : ¬ ok' (ch ++ [v]) = true := fun h => h1 (hok _ h)
      rw [if_neg h2, comb_zero, comb_zero]
      obtain ⟨a, oa⟩ := A
      obtain ⟨b, ob⟩ := B
      cases oa with
      | none =>
        have ih : ob = none ∧ b ≤ a := ih
        exact ⟨ih.1, Nat.succ_le_succ ih.2⟩
      | some t =>
        intro s e hp
        have ih := ih s e hp
        exact ⟨ih.1, Nat.succ_le_succ ih.2⟩
theorem dfs_less {ok ok' : List Int → Bool} (hok : ∀ c, ok' c = true → ok c = true) : ∀ (os : List (List Int)) (ch : List Int), Less ok' ch (dfs ok os ch) (dfs ok' os ch)
  | [], ch => by
    show ∀ s, _ → _ → _
    intro s _ _
    exact ⟨rfl, Nat.le_refl _⟩
  | o :: os, ch => tryL_less hok (fun ch t h => dfs_ext os ch t h) (fun ch => dfs_less hok os ch) ch o
/-- A pin more that the answer meets. -/
theorem dfs_more {ok ok' : List Int → Bool} (hok : ∀ c, ok' c = true → ok c = true) {os : List (List Int)} {t : List Int} (h : (dfs ok os []).2 = some t) (hp : pre ok' [] t = true) : (dfs ok' os []).2 = some t ∧ (dfs ok' os []).1 ≤ (dfs ok os []).1 := by
  have k := dfs_less hok os []
  unfold Less at k
  rw [h] at k
  exact k t rfl hp
/-- The preferred ones, where they fit. -/
def heads : List (List Int) → List Int → Prop
  | [], [] => True
  | (v :: _) :: os, h :: hs => v = h ∧ heads os hs
  | _, _ => False
theorem dfs_heads {ok : List Int → Bool} : ∀ {os : List (List Int)} {hs : List Int} {ch : List Int}, heads os hs → pre ok ch hs = true → dfs ok os ch = (os.length, some (ch ++ hs))
  | [], [], ch, _, _ => by simp [dfs]
  | (v :: o) :: os, h :: hs, ch, hh, hp => by
    obtain ⟨rfl, hh⟩ := hh
    have hp2 : ok (ch ++ [v]) = true ∧ pre ok (ch ++ [v]) hs = true := by simpa [pre] using hp
    unfold dfs tryL
    rw [if_pos hp2.1, dfs_heads hh hp2.2]
    simp [comb, suc]
theorem heads_of : ∀ {os : List (List Int)} {hs : List Int}, hs.length = os.length → (∀ i, i < os.length → ∃ o, os.getD i [] = iz hs i :: o) → heads os hs
  | [], [], _, _ => trivial
  | [], h :: hs, e, _ => by simp at e
  | o :: os, [], e, _ => by simp at e
  | o :: os, h :: hs, e, k => by
    obtain ⟨o', e'⟩ := k 0 (by simp)
    have e' : o = h :: o' := e'
    subst e'
    exact ⟨rfl, heads_of (by simpa using e) (fun i hi => k (i + 1) (by simpa using hi))⟩
/-- pre, beginning by beginning. -/
theorem pre_iff {ok : List Int → Bool} : ∀ {s ch : List Int}, pre ok ch s = true ↔ ∀ i, i < s.length → ok (ch ++ s.take (i + 1)) = true
  | [], ch => by simp [pre]
  | v :: s, ch => by
    unfold pre
    rw [Bool.and_eq_true, pre_iff]
    constructor
    · rintro ⟨h1, h2⟩ i hi
      cases i with
      | zero => simpa using h1
      | succ j => have := h2 j (by simpa using hi); simpa using this
    · intro h
      refine ⟨by have := h 0 (by simp); simpa using this, fun i hi => ?_⟩
      have := h (i + 1) (by simpa using hi)
      simpa using this
/-- Each tree of choices is gone through in so many tries. -/
def nodes : List (List Int) → Nat
  | [] => 0
  | o :: os => o.length * (1 + nodes os)
theorem tryL_le {ok : List Int → Bool} {down : List Int → Out} {m : Nat} (hd : ∀ ch, (down ch).1 ≤ m) (ch : List Int) : ∀ o : List Int, (tryL ok down ch o).1 ≤ o.length * (1 + m)
  | [] => by simp [tryL]
  | v :: vs => by
    have ih := tryL_le (ok := ok) hd ch vs
    have h0 := hd (ch ++ [v])
    unfold tryL suc
    have : (comb (if ok (ch ++ [v]) = true then down (ch ++ [v]) else (0, none)) (tryL ok down ch vs)).1 ≤ m + vs.length * (1 + m) := by
      have hc : ∀ a b : Out, (comb a b).1 ≤ a.1 + b.1 := fun a b => by
        unfold comb; split
        · omega
        · exact Nat.le_refl _
      refine Nat.le_trans (hc _ _) ?_
      by_cases h : ok (ch ++ [v]) = true
      · rw [if_pos h]; omega
      · rw [if_neg h]; show 0 + _ ≤ _; omega
    rw [List.length_cons, Nat.succ_mul]
    omega
theorem dfs_le {ok : List Int → Bool} : ∀ (os : List (List Int)) (ch : List Int), (dfs ok os ch).1 ≤ nodes os
  | [], ch => Nat.le_refl _
  | o :: os, ch => tryL_le (fun ch => dfs_le os ch) ch o
end Go.Proofs.YtlodledcglleiaaGreat.SeaP

namespace Go.Proofs.YtlodledcglleiaaGreat
open Go.RowKit
open DiP
set_option linter.unusedVariables false
set_option linter.unusedSimpArgs false
set_option maxRecDepth 10000
theorem list_ext_getD {a b : List Int} (hl : a.length = b.length) (h : ∀ i < a.length, (ix a i) = (ix b i)) : a = b := by
  apply List.ext_getElem hl
  intro i h1 h2
  have := h i h1
  simpa [ix, List.getD, h1, h2] using this
def oldestL (n : Nat) : List Int := (List.range n).map Int.ofNat
def newestL (n : Nat) : List Int := (oldestL n).reverse
def heldL (n c : Nat) : List Int := (c : Int) :: (newestL n).filter (fun v => v != (c : Int))
def nearAt (n c far : Nat) : List Int := (if c + far < n then [((c + far : Nat) : Int)] else []) ++ (if far ≤ c then [((c - far : Nat) : Int)] else [])
def nearestL (n c : Nat) : List Int := (c : Int) :: (List.range (n - 1)).flatMap fun j => nearAt n c (j + 1)
def orderL (mode n c : Nat) : List Int :=
  if mode = 1 then oldestL n else if mode = 2 then heldL n c else if mode = 3 then nearestL n c else newestL n

def betterB (mode cur v w : Int) : Bool :=
  let d := max (v - cur) (cur - v)
  let f := max (w - cur) (cur - w)
  if mode = 1 then decide (v < w)
  else if mode = 2 then decide (v = cur) || (decide (w ≠ cur) && decide (v > w))
  else if mode = 3 then decide (d < f) || (decide (d = f) && decide (v > w))
  else decide (v > w)
def orderOk (mode n c : Nat) : Bool :=
  ((orderL mode n c).length == n) && (List.range n).all fun i =>
    decide (0 ≤ (ix (orderL mode n c) i)) && decide ((ix (orderL mode n c) i) < n) && (List.range n).all fun j =>
      !(decide (i < j)) || ((ix (orderL mode n c) i) != (ix (orderL mode n c) j) && betterB mode c ((ix (orderL mode n c) i)) ((ix (orderL mode n c) j)))
theorem orderOk_all : ((List.range 4).all fun mode => (List.range 13).all fun n => (List.range n).all fun c => orderOk mode n c) = true := by decide +kernel
theorem order_ok {mode n c : Nat} (hm : mode < 4) (hn : n ≤ 12) (hc : c < n) : orderOk mode n c = true := by
  have h := orderOk_all
  rw [List.all_eq_true] at h
  have h1 := h mode (List.mem_range.2 hm)
  rw [List.all_eq_true] at h1
  have h2 := h1 n (List.mem_range.2 (by omega))
  rw [List.all_eq_true] at h2
  exact h2 c (List.mem_range.2 hc)
theorem order_length {mode n c : Nat} (hm : mode < 4) (hn : n ≤ 12) (hc : c < n) : (orderL mode n c).length = n := by
  have h := order_ok hm hn hc
  unfold orderOk at h
  simp only [Bool.and_eq_true, beq_iff_eq] at h
  exact h.1
theorem order_bound {mode n c i : Nat} (hm : mode < 4) (hn : n ≤ 12) (hc : c < n) (hi : i < n) : 0 ≤ (ix (orderL mode n c) i) ∧ (ix (orderL mode n c) i) < n := by
  have h := order_ok hm hn hc
  unfold orderOk at h
  simp only [Bool.and_eq_true, List.all_eq_true, List.mem_range, decide_eq_true_eq] at h
  exact ⟨(h.2 i hi).1.1, (h.2 i hi).1.2⟩
theorem order_better {mode n c i j : Nat} (hm : mode < 4) (hn : n ≤ 12) (hc : c < n) (hj : j < n) (hij : i < j) :
    (ix (orderL mode n c) i) ≠ (ix (orderL mode n c) j) ∧ betterB mode c ((ix (orderL mode n c) i)) ((ix (orderL mode n c) j)) = true := by
  have h := order_ok hm hn hc
  unfold orderOk at h
  simp only [Bool.and_eq_true, List.all_eq_true, List.mem_range, decide_eq_true_eq] at h
  have := (h.2 i (by omega)).2 j hj
  simp only [hij, decide_true, Bool.not_true, Bool.false_or, Bool.and_eq_true, bne_iff_ne, ne_eq] at this
  exact this

theorem gb_drew {a w : World} {row : Option Nat} (h : a.grownBy w row) : a.grownBy w.drew row := ⟨h.os, h.tape, h.output, h.size, h.block⟩
theorem gb_alloc {a w : World} {row : Option Nat} (h : a.grownBy w row) (o : Obj) : a.grownBy (w.alloc o) row :=
  ⟨h.os, h.tape, h.output, Nat.le_trans h.size (by simp), fun i hi hne => (Below.heap_alloc w o i (Nat.lt_of_lt_of_le hi h.size)).trans (h.block i hi hne)⟩
theorem gb_set {a w : World} {g : Nat} (h : a.grownBy w (some g)) {p : Addr} (hp : p.block = g ∨ a.heap.size ≤ p.block) (u : Value) : a.grownBy (w.setCell p u) (some g) :=
  ⟨h.os, h.tape, h.output, by simpa [World.setCell] using h.size, fun i hi hne => (Below.heap_setCell w p u i (by
    rintro rfl
    rcases hp with hp | hp
    · exact hne (by rw [hp])
    · omega)).trans (h.block i hi hne)⟩

/-- What k rounds of Reverse have made of xs. -/
def RevTo (xs ys : List Int) (k : Nat) : Prop := ys.length = xs.length ∧ ∀ t < xs.length, ix ys t = if t < k ∨ xs.length ≤ t + k then ix xs (xs.length - 1 - t) else ix xs t
theorem RevTo.start (xs : List Int) : RevTo xs xs 0 := ⟨rfl, fun t ht => by rw [if_neg (by omega)]⟩
theorem RevTo.step {xs ys : List Int} {k : Nat} (h : RevTo xs ys k) (hk : k < xs.length - 1 - k) :
    RevTo xs ((ys.set k (ix ys (xs.length - 1 - k))).set (xs.length - 1 - k) (ix ys k)) (k + 1) := by
  refine ⟨by simp [h.1], fun t ht => ?_⟩
  rw [ix_set _ _ _ _ (by simp [h.1]; omega), ix_set _ _ _ _ (by rw [h.1]; omega), h.2 k (by omega), h.2 _ (show xs.length - 1 - k < xs.length by omega), h.2 t ht]
  by_cases h1 : xs.length - 1 - k = t
  · subst h1
    rw [if_pos rfl, if_neg (by omega), if_pos (by omega)]; congr 1; omega
  · rw [if_neg h1]
    by_cases h2 : k = t
    · subst h2; rw [if_pos rfl, if_neg (by omega), if_pos (by omega)]
    · rw [if_neg h2]
      by_cases h3 : t < k ∨ xs.length ≤ t + k
      · rw [if_pos h3, if_pos (by omega)]
      · rw [if_neg h3, if_neg (by omega)]
theorem ix_reverse (xs : List Int) (t : Nat) (ht : t < xs.length) : ix xs.reverse t = ix xs (xs.length - 1 - t) := by
  unfold ix; simp [List.getD, List.getElem?_reverse ht]
theorem RevTo.done {xs ys : List Int} {k : Nat} (h : RevTo xs ys k) (hk : xs.length - 1 ≤ 2 * k) : ys = xs.reverse := by
  refine list_ext_getD (by simp [h.1]) fun t ht => ?_
  rw [h.1] at ht
  rw [h.2 t ht, ix_reverse xs t ht]
  by_cases h3 : t < k ∨ xs.length ≤ t + k
  · rw [if_pos h3]
  · rw [if_neg h3]; congr 1; omega

set_option maxHeartbeats 1600000 in
theorem reverse_any {w : World} {base n c g : Nat} {xs : List Int} (hx : Own w base (.slice (some ⟨g, 0, none⟩) n c) n xs) (hn : n ≤ 9223372036854775807) :
    Calls Tryz.prog 110 #[.slice (some ⟨g, 0, none⟩) n c] w fun e w' => e = .returned (.tuple #[]) ∧ Own w' base (.slice (some ⟨g, 0, none⟩) n c) n xs.reverse ∧ w.grownBy w' (some g) := by
  have HX := Lib.hid hx
  have HXL := Lib.hid hx.len
  clear hx
  go_enter Tryz.func110, Tryz.ntmps110
  go_wp2
  go_loopw [2, 3] (fun i j wr => ∃ (k : Nat) (z : Int) (ys : List Int), k ≤ n ∧ i = .int .i64 k ∧ j = .int .i64 z ∧ Hid (z = n - 1 - k) ∧ -1 ≤ z ∧ z < n ∧
      Hid (Own wr base (.slice (some ⟨g, 0, none⟩) n c) n ys) ∧ Hid (RevTo xs ys k) ∧ Hid (w.grownBy wr (some g)))
    (fun i j _ => (intOf j - intOf i).toNat)
  case atStart => exact ⟨0, (n : Int) - 1, xs, by omega, rfl, rfl, Lib.hid (by omega), by omega, by omega, HX, Lib.hid (RevTo.start xs), Lib.hid (World.grownBy.refl _ _)⟩
  case round =>
    obtain ⟨k, z, ys, hk, rfl, rfl, HZ, hz1, hz2, HO, HR, HG⟩ := hrel
    by_cases h0 : (k : Int) < z
    · obtain ⟨q, rfl⟩ := Int.eq_ofNat_of_zero_le (show 0 ≤ z by omega)
      have hqn : q < n := by omega
      have hkn : k < n := by omega
      have hkq : k < q := by omega
      have c1 := HO.out.cell hqn
      have c2 := HO.out.cell hkn
      have f1 := HO.out.free q
      have f2 := HO.out.free k
      go_wp2
      go_region
      go_wp2
      go_roundw
      case rel =>
        have e : xs.length - 1 - k = q := by have := HZ.out; have := HXL.out; omega
        refine ⟨k + 1, (q : Int) - 1, (ys.set k (ix ys q)).set q (ix ys k), by omega, by go_num, rfl, Lib.hid (by have := HZ.out; omega), by omega, by omega, Lib.hid ?_, Lib.hid ?_, Lib.hid ?_⟩
        · exact ((HO.out.store k (ix ys q)).store q (ix ys k)).drew
        · have := HR.out.step (by omega); rw [e] at this; exact this
        · exact gb_drew (gb_set (gb_set HG.out (.inl rfl) _) (.inl rfl) _)
      case measure => simp [intOf]; omega
    · have HE : Hid (ys = xs.reverse) := Lib.hid (HR.out.done (by have := HZ.out; have := HXL.out; omega))
      go_wp2
      go_end0
      exact ⟨rfl, by rw [← HE.out]; exact HO.out, HG.out⟩

theorem oldestL_succ (k : Nat) : oldestL (k + 1) = oldestL k ++ [(k : Int)] := by unfold oldestL; rw [List.range_succ, List.map_append]; rfl
theorem oldestL_length (k : Nat) : (oldestL k).length = k := by simp [oldestL]

set_option maxHeartbeats 1600000 in
theorem oldest_any (w : World) (n : Nat) (hn : n ≤ 1000000) :
    Calls Tryz.prog 88 #[.int .i64 (n : Int)] w fun e w' => ∃ v, e = .returned v ∧ Own w' w.heap.size v n (oldestL n) ∧ Below w.heap.size w w' := by
  go_enter Tryz.func88, Tryz.ntmps88
  go_wp2
  go_loopw [3, 6] (fun v i wr => ∃ k : Nat, k ≤ n ∧ i = .int .i64 (k : Int) ∧ Hid (Own wr w.heap.size v k (oldestL k)) ∧ Hid (Below w.heap.size w wr)) (fun _ i _ => n - (intOf i).toNat)
  case atStart => exact ⟨0, by omega, rfl, Lib.hid (Own.nil_ _ _), Lib.hid (Below.refl _ _)⟩
  case round =>
    obtain ⟨k, hk, rfl, HO, HB⟩ := hrel
    by_cases hlt : k < n
    · have hsz : w.heap.size ≤ wr.heap.size := HB.out.size
      go_wp2_with (at_builtin; refine wpl_app rfl _ _ rfl w.heap.size _ k _ rfl (HO.out.alloc _) wr.heap.size (k : Int) rfl ?c1 (by omega) ?c2 ?_)
      case c1 => simp
      case c2 => simp; omega
      · intro g c w1 hown hbg hgr _
        have HO1 := Lib.hid hown
        have HB1 : Hid (Below w.heap.size w w1) := Lib.hid ((HB.out.alloc hsz _).grown hgr (by simp; omega) (HO.out.ge))
        clear hown hgr
        go_wp2
        go_roundw
        case rel => exact ⟨k + 1, by omega, by go_num, Lib.hid (by rw [oldestL_succ]; exact HO1.out), HB1⟩
        case measure => simp [intOf]; omega
    · obtain rfl : k = n := by omega
      go_wp2
      go_ret
      exact ⟨_, rfl, HO.out, HB.out⟩

theorem newest_any (w : World) (n : Nat) (h0 : 0 < n) (hn : n ≤ 1000000) :
    Calls Tryz.prog 91 #[.int .i64 (n : Int)] w fun e w' => ∃ v, e = .returned v ∧ Own w' w.heap.size v n (newestL n) ∧ Below w.heap.size w w' := by
  go_enter Tryz.func91, Tryz.ntmps91
  go_wp2_with fail
  refine (oldest_any w n hn).mono ?_
  rintro e w1 ⟨v, rfl, hown, hbel⟩
  obtain ⟨g, c, rfl, hbg, hlt⟩ := hown.form h0
  have HO := Lib.hid hown
  have HB := Lib.hid hbel
  clear hown hbel
  go_wp2_with fail
  refine (reverse_any HO.out (by omega)).mono ?_
  rintro e w2 ⟨rfl, hown2, hg⟩
  have HO2 := Lib.hid hown2
  have HB2 : Hid (Below w.heap.size w w2) := Lib.hid (HB.out.grown hg HB.out.size (fun k h => by cases h; exact hbg))
  clear hown2 hg
  go_wp2
  go_ret
  exact ⟨_, rfl, HO2.out, HB2.out⟩

/-- What held has gathered of the first k of the newest. -/
def heldTo (n c k : Nat) : List Int := (c : Int) :: ((newestL n).take k).filter (fun v => v != (c : Int))
theorem newestL_length (n : Nat) : (newestL n).length = n := by simp [newestL, oldestL]
theorem take_ix (xs : List Int) (k : Nat) (h : k < xs.length) : xs.take (k + 1) = xs.take k ++ [ix xs k] := by
  rw [List.take_succ_eq_append_getElem h]; simp [ix, List.getD, h]
theorem heldTo_take {n c k : Nat} (h : k < n) (he : ix (newestL n) k ≠ (c : Int)) : heldTo n c (k + 1) = heldTo n c k ++ [ix (newestL n) k] := by
  unfold heldTo
  rw [take_ix _ k (by rw [newestL_length]; exact h), List.filter_append, List.cons_append]
  simp [he]
theorem heldTo_drop {n c k : Nat} (h : k < n) (he : ix (newestL n) k = (c : Int)) : heldTo n c (k + 1) = heldTo n c k := by
  unfold heldTo
  rw [take_ix _ k (by rw [newestL_length]; exact h), List.filter_append]
  simp [he]
theorem heldTo_done (n c : Nat) : heldTo n c n = heldL n c := by
  unfold heldTo heldL
  rw [List.take_of_length_le (by rw [newestL_length]; exact Nat.le_refl _)]
theorem heldTo_le (n c k : Nat) (hk : k ≤ n) : (heldTo n c k).length ≤ k + 1 := by
  unfold heldTo
  have := List.length_filter_le (fun v => v != (c : Int)) ((newestL n).take k)
  rw [List.length_take] at this
  simp only [List.length_cons]; omega

set_option maxHeartbeats 1600000 in
theorem held_any (w : World) (n c : Nat) (h0 : 0 < n) (hn : n ≤ 1000000) (hc : c < n) :
    Calls Tryz.prog 89 #[.int .i64 (n : Int), .int .i64 (c : Int)] w fun e w' => ∃ v m, e = .returned v ∧ Own w' w.heap.size v m (heldL n c) ∧ Below w.heap.size w w' := by
  go_enter Tryz.func89, Tryz.ntmps89
  go_wp2_with fail
  refine (newest_any _ n h0 hn).mono ?_
  rintro e w1 ⟨v, rfl, hown, hbel⟩
  obtain ⟨g1, c1, rfl, hbg, hlt⟩ := hown.form h0
  simp only [World.size_alloc] at hbg hbel hown
  have HN := Lib.hid hown
  have HO : Hid (Own w1 w.heap.size (.slice (some ⟨w.heap.size, 0, none⟩) 1 1) 1 (heldTo n c 0)) := Lib.hid ((Own.lit w w.heap.size [(c : Int)] (Nat.le_refl _) (by simp)).below hbel (fun g hg => by simp [Value.ownBlock] at hg; omega))
  have HB : Hid (Below w.heap.size w w1) := Lib.hid (((Below.refl _ w).alloc (Nat.le_refl _) _).trans (hbel.mono (by omega)))
  have HG : Hid (w.heap.size + 1 ≤ g1) := Lib.hid hbg
  clear hown hbel hbg
  go_wp2
  go_loopw [5, 13] (fun v i wr => ∃ k m b cc : Nat, k ≤ n ∧ i = .int .i64 (k : Int) ∧ v = .slice (some ⟨b, 0, none⟩) m cc ∧ Hid (b ≠ g1) ∧ w.heap.size ≤ b ∧ Hid (Own wr w.heap.size (.slice (some ⟨b, 0, none⟩) m cc) m (heldTo n c k)) ∧
      Hid (Own wr (w.heap.size + 1) (.slice (some ⟨g1, 0, none⟩) n c1) n (newestL n)) ∧ Hid (Below w.heap.size w wr)) (fun _ i _ => n - (intOf i).toNat)
  case atStart => exact ⟨0, 1, w.heap.size, 1, by omega, rfl, rfl, Lib.hid (by have := HG.out; omega), Nat.le_refl _, HO, HN, HB⟩
  case round =>
    clear HO HN HB
    obtain ⟨k, m, b, cc, hk, rfl, rfl, HBG, hwb, HO, HN, HB⟩ := hrel
    by_cases hlt : k < n
    · have hsz : w.heap.size ≤ wr.heap.size := HB.out.size
      have hm : m ≤ 1000001 := by
        have h1 := HO.out.len
        have h2 := heldTo_le n c k hk
        omega
      have hcell := HN.out.cell hlt
      by_cases he : ix (newestL n) k = (c : Int)
      · have HS := Lib.hid (heldTo_drop hlt he)
        have hb1 : (ix (newestL n) k != (c : Int)) = false := by simp [he]
        clear he
        go_wp2
        go_roundw
        case rel => exact ⟨k + 1, m, b, cc, by omega, by go_num, rfl, HBG, hwb, Lib.hid (by rw [HS.out]; exact HO.out), HN, HB⟩
        case measure => simp [intOf]; omega
      · have HS := Lib.hid (heldTo_take hlt he)
        have hb1 : (ix (newestL n) k != (c : Int)) = true := by simp [he]
        clear he
        go_wp2_with (at_builtin; refine wpl_app rfl _ _ rfl w.heap.size _ m _ rfl (HO.out.alloc _) wr.heap.size (ix (newestL n) k) rfl ?c1 (by omega) ?c2 ?_)
        case c1 => simp
        case c2 => simp; omega
        · intro g cap w2 hown hbg hgr hat
          have hg1 : g1 < wr.heap.size := (HN.out.form (by omega)).elim fun _ ⟨_, e, _, h⟩ => by cases e; exact h
          have HO2 := Lib.hid hown
          have HN2 := Lib.hid ((HN.out.alloc _).other hgr (fun g hg e => by simp [Value.ownBlock] at hg e; exact HBG.out (by omega)))
          have HB2 : Hid (Below w.heap.size w w2) := Lib.hid ((HB.out.alloc hsz _).grown hgr (by simp; omega) (HO.out.ge))
          have HBG2 : Hid (g ≠ g1) := Lib.hid (by
            rcases hat with h | h
            · simp [Value.ownBlock] at h; have := HBG.out; omega
            · omega)
          clear hown hgr hat hg1
          go_wp2
          go_roundw
          case rel => exact ⟨k + 1, m + 1, g, cap, by omega, by go_num, rfl, HBG2, hbg, Lib.hid (by rw [HS.out]; exact HO2.out), HN2, HB2⟩
          case measure => simp [intOf]; omega
    · obtain rfl : k = n := by omega
      go_wp2
      go_ret
      exact ⟨_, m, rfl, by rw [← heldTo_done]; exact HO.out, HB.out⟩

def nearTo (n c k : Nat) : List Int := (c : Int) :: (List.range (k - 1)).flatMap fun j => nearAt n c (j + 1)
theorem nearTo_succ (n c k : Nat) (h : 1 ≤ k) : nearTo n c (k + 1) = nearTo n c k ++ nearAt n c k := by
  unfold nearTo
  obtain ⟨m, rfl⟩ : ∃ m, k = m + 1 := ⟨k - 1, by omega⟩
  rw [show m + 1 + 1 - 1 = m + 1 from rfl, show m + 1 - 1 = m from rfl, List.range_succ, List.flatMap_append, List.cons_append]
  simp
theorem nearAt_len (n c k : Nat) : (nearAt n c k).length ≤ 2 := by
  unfold nearAt; rw [List.length_append]; split <;> split <;> simp
theorem nearTo_len (n c : Nat) : ∀ k, 1 ≤ k → (nearTo n c k).length ≤ 2 * k := by
  intro k
  induction k with
  | zero => intro h; omega
  | succ k ih =>
    intro _
    by_cases h : 1 ≤ k
    · rw [nearTo_succ n c k h, List.length_append]
      have := ih h
      have := nearAt_len n c k
      omega
    · obtain rfl : k = 0 := by omega
      simp [nearTo]
theorem nearAt_both {n c k : Nat} (h1 : c + k < n) (h2 : k ≤ c) (xs : List Int) : (xs ++ [(c : Int) + (k : Int)]) ++ [(c : Int) - (k : Int)] = xs ++ nearAt n c k := by
  unfold nearAt; rw [if_pos h1, if_pos h2, List.append_assoc]; congr 2
  · simp; omega
theorem nearAt_up {n c k : Nat} (h1 : c + k < n) (h2 : ¬ k ≤ c) (xs : List Int) : xs ++ [(c : Int) + (k : Int)] = xs ++ nearAt n c k := by
  unfold nearAt; rw [if_pos h1, if_neg h2]; simp
theorem nearAt_down {n c k : Nat} (h1 : ¬ c + k < n) (h2 : k ≤ c) (xs : List Int) : xs ++ [(c : Int) - (k : Int)] = xs ++ nearAt n c k := by
  unfold nearAt; rw [if_neg h1, if_pos h2, List.nil_append]; congr 2; omega
theorem nearAt_none {n c k : Nat} (h1 : ¬ c + k < n) (h2 : ¬ k ≤ c) (xs : List Int) : xs = xs ++ nearAt n c k := by
  unfold nearAt; rw [if_neg h1, if_neg h2]; simp

set_option maxHeartbeats 3200000 in
theorem nearest_any (w : World) (n c : Nat) (h0 : 0 < n) (hn : n ≤ 1000000) (hc : c < n) :
    Calls Tryz.prog 90 #[.int .i64 (n : Int), .int .i64 (c : Int)] w fun e w' => ∃ v m, e = .returned v ∧ Own w' w.heap.size v m (nearestL n c) ∧ Below w.heap.size w w' := by
  have HO : Hid (Own (w.alloc (.cells #[.int .i64 (c : Int)] 3)) w.heap.size (.slice (some ⟨w.heap.size, 0, none⟩) 1 1) 1 (nearTo n c 1)) := Lib.hid (Own.lit w w.heap.size [(c : Int)] (Nat.le_refl _) (by simp))
  have HB : Hid (Below w.heap.size w (w.alloc (.cells #[.int .i64 (c : Int)] 3))) := Lib.hid ((Below.refl _ w).alloc (Nat.le_refl _) _)
  go_enter Tryz.func90, Tryz.ntmps90
  go_wp2
  go_loopw [5, 6] (fun v i wr => ∃ k m b cc : Nat, 1 ≤ k ∧ k ≤ n ∧ i = .int .i64 (k : Int) ∧ v = .slice (some ⟨b, 0, none⟩) m cc ∧ w.heap.size ≤ b ∧ Hid (Own wr w.heap.size (.slice (some ⟨b, 0, none⟩) m cc) m (nearTo n c k)) ∧
      Hid (Below w.heap.size w wr)) (fun _ i _ => n - (intOf i).toNat)
  case atStart => exact ⟨1, 1, w.heap.size, 1, by omega, by omega, rfl, rfl, Nat.le_refl _, HO, HB⟩
  case round =>
    clear HO HB
    obtain ⟨k, m, b, cc, hk1, hk, rfl, rfl, hwb, HO, HB⟩ := hrel
    by_cases hlt : k < n
    · have hsz : w.heap.size ≤ wr.heap.size := HB.out.size
      have hm : m ≤ 2000000 := by
        have h1 := HO.out.len
        have h2 := nearTo_len n c k hk1
        omega
      have HS := Lib.hid (nearTo_succ n c k hk1)
      by_cases h1 : c + k < n
      · by_cases h2 : k ≤ c
        · have HE := Lib.hid (nearAt_both h1 h2 (nearTo n c k))
          have h2' : (0 : Int) ≤ (c : Int) - (k : Int) := by omega
          go_wp2_with (first
            | (at_builtin; refine wpl_app rfl (.tmp 19) (.tmp 23) rfl w.heap.size _ m _ rfl (HO.out.alloc _) wr.heap.size ((c : Int) + (k : Int)) rfl (by simp) (by omega) (by simp; omega) ?_; intro g1 cap1 w1 hown1 hbg1 hgr1 hat1; (have HO1 := Lib.hid hown1); (have HB1 : Hid (Below w.heap.size w w1) := Lib.hid ((HB.out.alloc hsz _).grown hgr1 (by simp; omega) (HO.out.ge))); (have hsz1 : w.heap.size ≤ w1.heap.size := HB1.out.size); clear hown1 hgr1 hat1)
            | (at_builtin; refine wpl_app rfl (.tmp 29) (.tmp 33) rfl w.heap.size _ (m + 1) _ rfl (HO1.out.alloc _) w1.heap.size ((c : Int) - (k : Int)) rfl (by simp) (by omega) (by simp; omega) ?_; intro g2 cap2 w2 hown2 hbg2 hgr2 hat2))
          have HO2 := Lib.hid hown2
          have HB2 : Hid (Below w.heap.size w w2) := Lib.hid ((HB1.out.alloc hsz1 _).grown hgr2 (by simp; omega) (HO1.out.ge))
          clear hown2 hgr2 hat2
          go_wp2
          go_roundw
          case rel => exact ⟨k + 1, m + 1 + 1, g2, cap2, by omega, by omega, by go_num, rfl, hbg2, Lib.hid (by rw [HS.out, ← HE.out]; exact HO2.out), HB2⟩
          case measure => simp [intOf]; omega
        · have HE := Lib.hid (nearAt_up h1 h2 (nearTo n c k))
          have h2' : (c : Int) - (k : Int) < 0 := by omega
          go_wp2_with (at_builtin; refine wpl_app rfl (.tmp 19) (.tmp 23) rfl w.heap.size _ m _ rfl (HO.out.alloc _) wr.heap.size ((c : Int) + (k : Int)) rfl (by simp) (by omega) (by simp; omega) ?_; intro g1 cap1 w1 hown1 hbg1 hgr1 hat1)
          have HO1 := Lib.hid hown1
          have HB1 : Hid (Below w.heap.size w w1) := Lib.hid ((HB.out.alloc hsz _).grown hgr1 (by simp; omega) (HO.out.ge))
          clear hown1 hgr1 hat1
          go_wp2
          go_roundw
          case rel => exact ⟨k + 1, m + 1, g1, cap1, by omega, by omega, by go_num, rfl, hbg1, Lib.hid (by rw [HS.out, ← HE.out]; exact HO1.out), HB1⟩
          case measure => simp [intOf]; omega
      · by_cases h2 : k ≤ c
        · have HE := Lib.hid (nearAt_down h1 h2 (nearTo n c k))
          have h2' : (0 : Int) ≤ (c : Int) - (k : Int) := by omega
          go_wp2_with (at_builtin; refine wpl_app rfl (.tmp 29) (.tmp 33) rfl w.heap.size _ m _ rfl (HO.out.alloc _) wr.heap.size ((c : Int) - (k : Int)) rfl (by simp) (by omega) (by simp; omega) ?_; intro g1 cap1 w1 hown1 hbg1 hgr1 hat1)
          have HO1 := Lib.hid hown1
          have HB1 : Hid (Below w.heap.size w w1) := Lib.hid ((HB.out.alloc hsz _).grown hgr1 (by simp; omega) (HO.out.ge))
          clear hown1 hgr1 hat1
          go_wp2
          go_roundw
          case rel => exact ⟨k + 1, m + 1, g1, cap1, by omega, by omega, by go_num, rfl, hbg1, Lib.hid (by rw [HS.out, ← HE.out]; exact HO1.out), HB1⟩
          case measure => simp [intOf]; omega
        · have HE := Lib.hid (nearAt_none h1 h2 (nearTo n c k))
          have h2' : (c : Int) - (k : Int) < 0 := by omega
          go_wp2
          go_roundw
          case rel => exact ⟨k + 1, m, b, cc, by omega, by omega, by go_num, rfl, hwb, Lib.hid (by rw [HS.out, ← HE.out]; exact HO.out), HB⟩
          case measure => simp [intOf]; omega
    · obtain rfl : k = n := by omega
      go_wp2
      go_ret
      exact ⟨_, m, rfl, HO.out, HB.out⟩

set_option maxHeartbeats 1600000 in
theorem order_yes (w : World) (m n c : Nat) (hm : m < 4) (h0 : 0 < n) (hn : n ≤ 12) (hc : c < n) :
    Calls Tryz.prog 64 #[.int .i64 (m : Int), .int .i64 (n : Int), .int .i64 (c : Int)] w fun e w' => ∃ v, e = .returned (.tuple #[v, .int .i64 0]) ∧ Own w' w.heap.size v n (orderL m n c) ∧ Below w.heap.size w w' := by
  have HL := Lib.hid (order_length hm hn hc)
  have hm' : m = 0 ∨ m = 1 ∨ m = 2 ∨ m = 3 := by omega
  rcases hm' with rfl | rfl | rfl | rfl
  · have HE : Hid (orderL 0 n c = newestL n) := Lib.hid rfl
    go_enter Tryz.func64, Tryz.ntmps64
    go_wp2_with (go_at_call 91; refine (newest_any _ n h0 (by omega)).mono ?_; rintro e w1 ⟨v, rfl, hown, hbel⟩; (have HO := Lib.hid hown); (have HB := Lib.hid hbel); clear hown hbel)
    go_ret2
    exact ⟨_, rfl, by rw [HE.out]; exact HO.out, HB.out⟩
  · have HE : Hid (orderL 1 n c = oldestL n) := Lib.hid rfl
    go_enter Tryz.func64, Tryz.ntmps64
    go_wp2_with (go_at_call 88; refine (oldest_any _ n (by omega)).mono ?_; rintro e w1 ⟨v, rfl, hown, hbel⟩; (have HO := Lib.hid hown); (have HB := Lib.hid hbel); clear hown hbel)
    go_ret2
    exact ⟨_, rfl, by rw [HE.out]; exact HO.out, HB.out⟩
  · have HE : Hid (orderL 2 n c = heldL n c) := Lib.hid rfl
    go_enter Tryz.func64, Tryz.ntmps64
    go_wp2_with (go_at_call 89; refine (held_any _ n c h0 (by omega) hc).mono ?_; rintro e w1 ⟨v, k, rfl, hown, hbel⟩; (have HO := Lib.hid hown); (have HB := Lib.hid hbel); clear hown hbel)
    have hk : k = n := by rw [← HO.out.len, ← HE.out]; exact HL.out
    subst hk
    go_ret2
    exact ⟨_, rfl, by rw [HE.out]; exact HO.out, HB.out⟩
  · have HE : Hid (orderL 3 n c = nearestL n c) := Lib.hid rfl
    go_enter Tryz.func64, Tryz.ntmps64
    go_wp2_with (go_at_call 90; refine (nearest_any _ n c h0 (by omega) hc).mono ?_; rintro e w1 ⟨v, k, rfl, hown, hbel⟩; (have HO := Lib.hid hown); (have HB := Lib.hid hbel); clear hown hbel)
    have hk : k = n := by rw [← HO.out.len, ← HE.out]; exact HL.out
    subst hk
    go_ret2
    exact ⟨_, rfl, by rw [HE.out]; exact HO.out, HB.out⟩
end Go.Proofs.YtlodledcglleiaaGreat

namespace Go.Proofs.YtlodledcglleiaaGreat
open Go.RowKit
open SemP DiP FlP GaP SeaP
set_option linter.unusedVariables false
set_option linter.unusedSimpArgs false
set_option maxRecDepth 10000
theorem iz_ix (xs : List Int) (i : Nat) : iz xs i = ix xs i := rfl
def pinP (l : List Sv) (i v : Nat) (p : Nd) : Bool := !decide (p.1 = (i : Int)) || hasR p.2 (vOf (rlAt (svAt l i).2 v).1)
/-- Have all pins of a service a release? -/
def pinR (l : List Sv) (ps : List Nd) (i v : Nat) : Bool := ps.all (pinP l i v)
/-- Does nothing speak against the last release that was chosen? -/
def okV (l : List Sv) (ps : List Nd) (ch : List Int) (v : Int) : Bool := pinR l ps ch.length v.toNat && (List.range ch.length).all fun j => fitsC l (ch.length : Int) v (j : Int) (ix ch j)
def okS (l : List Sv) (ps : List Nd) (ch : List Int) : Bool := okV l ps ch.dropLast (ix ch (ch.length - 1))
theorem okS_snoc (l : List Sv) (ps : List Nd) (ch : List Int) (v : Int) : okS l ps (ch ++ [v]) = okV l ps ch v := by
  unfold okS
  have e : ix (ch ++ [v]) ((ch ++ [v]).length - 1) = v := by
    rw [List.length_append, List.length_singleton, Nat.add_sub_cancel]; exact ix_snoc ch v
  rw [List.dropLast_concat, e]
def ordV (l : List Sv) (ms now : List Int) (i : Nat) : List Int := orderL (ix ms i).toNat (svAt l i).2.length (ix now i).toNat
def ordsK (l : List Sv) (ms now : List Int) (k : Nat) : List (List Int) := (List.range k).map (ordV l ms now)
def ordsL (l : List Sv) (ms now : List Int) : List (List Int) := ordsK l ms now l.length
theorem ordsK_succ (l : List Sv) (ms now : List Int) (k : Nat) : ordsK l ms now (k + 1) = ordsK l ms now k ++ [ordV l ms now k] := by
  unfold ordsK; rw [List.range_succ, List.map_append]; rfl
theorem ordsK_len (l : List Sv) (ms now : List Int) (k : Nat) : (ordsK l ms now k).length = k := by simp [ordsK]
theorem ordsK_at (l : List Sv) (ms now : List Int) {k i : Nat} (h : i < k) : (ordsK l ms now k).getD i [] = ordV l ms now i := by
  simp [ordsK, List.getD, h]
def modB (ms : List Int) : Bool := ms.all fun m => decide (0 ≤ m) && decide (m ≤ 3)
def pinsB (ps : List Nd) : Bool := ps.all fun p => rightR p.2
def svcB (l : List Sv) (ps : List Nd) : Bool := ps.all fun p => isS l p.1
def chkR (l : List Sv) (now : List Int) (ps : List Nd) (ms : List Int) : Int :=
  if setB l now = false then 42 else if 24 < ps.length ∨ ms.length ≠ l.length then 36 else if (modB ms && pinsB ps) = false then 12 else if svcB l ps = false then 33 else 0
theorem chkR_ok {l : List Sv} {now : List Int} {ps : List Nd} {ms : List Int} (h : chkR l now ps ms = 0) : setB l now = true ∧ ps.length ≤ 24 ∧ ms.length = l.length ∧ modB ms = true ∧ pinsB ps = true ∧ svcB l ps = true := by
  unfold chkR at h
  split at h
  · cases h
  · split at h
    · cases h
    · split at h
      · cases h
      · split at h
        · cases h
        · rename_i h1 h2 h3 h4
          have h3' : (modB ms && pinsB ps) = true := by simpa using h3
          rw [Bool.and_eq_true] at h3'
          exact ⟨by simpa using h1, by omega, by omega, h3'.1, h3'.2, by simpa using h4⟩
theorem modB_at {ms : List Int} (h : modB ms = true) {i : Nat} (hi : i < ms.length) : 0 ≤ ix ms i ∧ ix ms i ≤ 3 := by
  unfold modB at h
  rw [List.all_eq_true] at h
  have := h (ix ms i) (by unfold ix; simp [List.getD, hi])
  simpa using this
def solR (l : List Sv) (now : List Int) (ps : List Nd) (ms : List Int) (b : Int) : List Int × Int :=
  if chkR l now ps ms ≠ 0 then ([], chkR l now ps ms) else if b < 1 ∨ 1048576 < b then ([], 11)
  else if b < ((dfs (okS l ps) (ordsL l ms now) []).1 : Int) then ([], 41)
  else match (dfs (okS l ps) (ordsL l ms now) []).2 with | some t => (t, 0) | none => ([], 40)
/-- Is a choice a target? -/
def tgtB (l : List Sv) (ps : List Nd) (t : List Int) : Bool := setB l t && (svcB l ps && (List.range t.length).all fun j => pinR l ps j (ix t j).toNat && (List.range j).all fun i => fitsC l (i : Int) (ix t i) (j : Int) (ix t j))
theorem tgtB_iff {l : List Sv} {ps : List Nd} {t : List Int} : tgtB l ps t = true ↔ setB l t = true ∧ svcB l ps = true ∧ ∀ j, j < t.length → pinR l ps j (ix t j).toNat = true ∧ ∀ i, i < j → fitsC l (i : Int) (ix t i) (j : Int) (ix t j) = true := by
  unfold tgtB; simp
theorem ix_take {t : List Int} {k i : Nat} (h : i < k) : ix (t.take k) i = ix t i := by
  unfold ix; rw [List.getD_eq_getElem?_getD, List.getElem?_take, if_pos h, ← List.getD_eq_getElem?_getD]
theorem take_one {t : List Int} {k : Nat} (h : k < t.length) : t.take (k + 1) = t.take k ++ [ix t k] := by
  rw [List.take_succ_eq_append_getElem h]; simp [ix, List.getD, h]
/-- All beginnings of a choice are fine just if it is a target. -/
theorem pre_okS {l : List Sv} {ps : List Nd} {t : List Int} (hset : setB l t = true) (hsv : svcB l ps = true) : pre (okS l ps) [] t = true ↔ tgtB l ps t = true := by
  rw [pre_iff, tgtB_iff]
  have key : ∀ i, i < t.length → (okS l ps ([] ++ t.take (i + 1)) = true ↔ pinR l ps i (ix t i).toNat = true ∧ ∀ j, j < i → fitsC l (j : Int) (ix t j) (i : Int) (ix t i) = true) := by
    intro i hi
    have hl : (t.take i).length = i := by rw [List.length_take]; omega
    rw [List.nil_append, take_one hi, okS_snoc]
    unfold okV
    rw [hl, Bool.and_eq_true, List.all_eq_true]
    constructor
    · rintro ⟨h1, h2⟩
      refine ⟨h1, fun j hj => ?_⟩
      have := h2 j (List.mem_range.2 hj)
      rw [ix_take hj] at this
      rw [fitsC_swap]; exact this
    · rintro ⟨h1, h2⟩
      refine ⟨h1, fun j hj => ?_⟩
      have hj' := List.mem_range.1 hj
      rw [ix_take hj', fitsC_swap]
      exact h2 j hj'
  constructor
  · intro h
    exact ⟨hset, hsv, fun j hj => (key j hj).1 (h j hj)⟩
  · rintro ⟨_, _, h⟩ i hi
    exact (key i hi).2 (h i hi)
theorem ordV_mem {l : List Sv} {ms now : List Int} (hs : ∀ s ∈ l, s.2.length ≤ 12) (hset : setB l now = true) (hm : modB ms = true) (hml : ms.length = l.length) {i : Nat} (hi : i < l.length) {v : Int} (hv : v ∈ ordV l ms now i) : isR l (i : Int) v = true := by
  obtain ⟨h1, h2⟩ := setB_iff.1 hset
  obtain ⟨a, b, ha, hb, hal, hbl⟩ := isR_nat (h2 i (by omega))
  obtain rfl : i = a := by omega
  have h3 := modB_at hm (i := i) (by omega)
  obtain ⟨k, hk, rfl⟩ := List.getElem_of_mem hv
  have hlen : (ordV l ms now i).length = (svAt l i).2.length := order_length (by omega) (hs _ (svAt_mem hi)) (by rw [hb]; omega)
  have h4 := order_bound (mode := (ix ms i).toNat) (n := (svAt l i).2.length) (c := (ix now i).toNat) (i := k) (by omega) (hs _ (svAt_mem hi)) (by rw [hb]; omega) (by omega)
  have e : (ordV l ms now i)[k] = ix (orderL (ix ms i).toNat (svAt l i).2.length (ix now i).toNat) k := by
    show _ = ix (ordV l ms now i) k
    unfold ix; simp [List.getD, hk]
  rw [e]
  obtain ⟨q, hq⟩ : ∃ q : Nat, ix (orderL (ix ms i).toNat (svAt l i).2.length (ix now i).toNat) k = (q : Int) := ⟨_, (Int.toNat_of_nonneg h4.1).symm⟩
  rw [hq] at h4 ⊢
  exact isR_of hi (by omega)
theorem ordV_len {l : List Sv} {ms now : List Int} (hs : ∀ s ∈ l, s.2.length ≤ 12) (hset : setB l now = true) (hm : modB ms = true) (hml : ms.length = l.length) {i : Nat} (hi : i < l.length) : (ordV l ms now i).length = (svAt l i).2.length := by
  obtain ⟨h1, h2⟩ := setB_iff.1 hset
  obtain ⟨a, b, ha, hb, hal, hbl⟩ := isR_nat (h2 i (by omega))
  obtain rfl : i = a := by omega
  have h3 := modB_at hm (i := i) (by omega)
  exact order_length (by omega) (hs _ (svAt_mem hi)) (by rw [hb]; omega)
/-- What is found is a target. -/
theorem found_tgt {l : List Sv} {now : List Int} {ps : List Nd} {ms : List Int} (hs : ∀ s ∈ l, s.2.length ≤ 12) (h : chkR l now ps ms = 0) {t : List Int} (ht : (dfs (okS l ps) (ordsL l ms now) []).2 = some t) : tgtB l ps t = true := by
  obtain ⟨h1, h2, h3, h4, h5, h6⟩ := chkR_ok h
  obtain ⟨hm, hp⟩ := dfs_found ht
  have hl := prods_len hm
  have hl2 : t.length = l.length := by rw [hl]; exact ordsK_len _ _ _ _
  refine (pre_okS (setB_iff.2 ⟨hl2, fun k hk => ?_⟩) h6).1 hp
  have hk' : k < l.length := by omega
  have := prods_at hm k (by rw [← hl]; exact hk)
  unfold ordsL at this
  rw [ordsK_at l ms now hk'] at this
  exact ordV_mem hs h1 h4 h3 hk' this
theorem ck_rels {l : List Sv} (h : (chkC l).2.2 = 0) : ∀ s ∈ l, s.2.length ≤ 12 := by
  intro s hs
  obtain ⟨i, hi, rfl⟩ := List.getElem_of_mem hs
  have h1 := (ck_svc ((ck_ok h).1 i hi)).1
  have e : l[i] = svAt l i := by simp [svAt, List.getD, hi]
  rw [e]
  unfold svcE at h1
  split at h1
  · cases h1
  · split at h1
    · cases h1
    · split at h1
      · cases h1
      · omega
theorem ck_rel1 {l : List Sv} (h : (chkC l).2.2 = 0) {i : Nat} (hi : i < l.length) : 1 ≤ (svAt l i).2.length := by
  have h1 := (ck_svc ((ck_ok h).1 i hi)).1
  unfold svcE at h1
  split at h1
  · cases h1
  · split at h1
    · cases h1
    · split at h1
      · cases h1
      · omega
end Go.Proofs.YtlodledcglleiaaGreat
