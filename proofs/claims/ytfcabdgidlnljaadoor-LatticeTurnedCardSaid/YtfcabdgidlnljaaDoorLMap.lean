/-
  WORDS FOR MEMORY: a map from sets to numbers, as a function.
-/
import Derived.Test.YtfcabdgidlnljaaDoorLPa
import Derived.Test.YtfcabdgidlnljaaDoorLMem
import Derived.Maps.OwnIn
import Derived.Maps.Ext
import Derived.RangeFuncWrites
namespace Go.Proofs.YtfcabdgidlnljaaDoor
open Go.RowKit
open Go.Maps (Keyed)
open Go.WideElems (Fit rg)
open DiP
set_option linter.unusedVariables false
set_option linter.unusedSimpArgs false
abbrev kU (k : Nat) : Lit := .int .u64 (k : Int)
theorem kU_inj {a b : Nat} (h : kU a = kU b) : a = b := by injection h with _ h; omega
theorem keyLitU (k : Nat) : WideAt.IsKeyLit (kU k) := by simp [WideAt.IsKeyLit]
theorem keyedU : Keyed Tryd.prog 35 := Maps.int_keyed Tryd.underlying35
theorem keyU {k : Nat} (h : k < lim) : keyOf Tryd.prog 35 (.int .u64 (k : Int)) = some (kU k) :=
  Maps.keyOf_int_mk Tryd.underlying35 (by unfold lim at h; simp [Lit.wf]; exact ⟨by show (0 : Int) ≤ _; omega, by show _ ≤ (18446744073709551615 : Int); omega⟩)
theorem zeroI (w : World) : (zeroValue 3).run Tryd.prog w = .ok (.int .i64 0) w := by kernel_rfl
/-- Block b is a map of at most K entries, from sets to numbers, that says G. -/
def LvD {H : Type} (D : DataW H) (G : Nat → Option Nat) : Prop := ∀ k, k < lim → Maps.has D (kU k) = (G k).isSome ∧ ∀ x, G k = some x → ∀ z, D.atKey (kU k) z = .lit (.int .i64 (x : Int))
theorem lvD_empty {H : Type} : LvD (.map [] : DataW H) (fun _ => none) := fun k _ => ⟨rfl, fun x h => by cases h⟩
theorem LvD.put {H : Type} {D : DataW H} {G : Nat → Option Nat} (h : LvD D G) (hm : Maps.IsMap D) (k c : Nat) : LvD (D.put (kU k) (.lit (.int .i64 (c : Int)))) (putO G k c) := fun t ht => by
  by_cases e : t = k
  · subst e
    rw [putO_same]
    exact ⟨Maps.has_put_same hm (keyLitU _) _, fun x hx z => by injection hx with hx; subst hx; exact Maps.atKey_put_same hm (keyLitU _) _ z⟩
  · rw [putO_other _ _ e]
    have hne : kU t ≠ kU k := fun h => e (kU_inj h)
    exact ⟨(Maps.has_put_other hne _).trans (h t ht).1, fun x hx z => (Maps.atKey_put_other hne _ z).trans ((h t ht).2 x hx z)⟩
/-- What a look-up finds. -/
theorem LvD.look {H : Type} {D : DataW H} {G : Nat → Option Nat} (h : LvD D G) {k : Nat} (hk : k < lim) {c : Int} (hat : D.atKey (kU k) (.lit (.int .i64 0)) = .lit (.int .i64 c)) : c = ((G k).getD 0 : Nat) := by
  obtain ⟨h1, h2⟩ := h k hk
  cases hg : G k with
  | none =>
    rw [hg] at h1
    have := Maps.atKey_of_not_has h1 (.lit (.int .i64 0))
    rw [this] at hat
    injection hat with hat
    injection hat with _ hat
    simp; omega
  | some x =>
    rw [h2 x hg] at hat
    injection hat with hat
    injection hat with _ hat
    simp; omega
abbrev OwnM {H : Type} (w : World) (b K : Nat) (D : DataW H) : Prop := w.ownsMap Tryd.prog 35 (plainElem Tryd.prog 3) b K D
/-- A map of keys below N has at most N entries. -/
theorem OwnM.size {H : Type} {w : World} {b K N : Nat} {D : DataW H} {G : Nat → Option Nat} (h : OwnM w b K D) (hD : LvD D G) (hN : ∀ s, (G s).isSome = true → s < N) : Maps.size D ≤ N := by
  obtain ⟨es, rfl, hp, hk⟩ := h.entries keyedU
  have hkeys : ∀ p ∈ es, ∃ x : Nat, x < lim ∧ p.1 = kU x := fun p hpm => by
    obtain ⟨es', clock, hb, F, hs, hD'⟩ := h
    injection hD' with hD'
    have hm : p ∈ (es'.toList.map (rg Tryd.prog 35 (plainElem Tryd.prog 3))) := mem_sorted.1 (by rw [← hD']; exact hpm)
    obtain ⟨v, hv⟩ := Maps.fit_keys F p hm
    obtain ⟨x, _, e, hw⟩ := Maps.keyOf_int_inv Tryd.underlying35 hv
    simp [Lit.wf] at hw
    have hw1 : (0 : Int) ≤ x := hw.1
    have hw2 : x ≤ (18446744073709551615 : Int) := hw.2
    obtain ⟨k, rfl⟩ : ∃ k : Nat, x = (k : Int) := ⟨x.toNat, by omega⟩
    have hk : k < 18446744073709551616 := by omega
    exact ⟨k, hk, e⟩
  have hlt : ∀ p ∈ es, ∃ x : Nat, x < N ∧ p.1 = kU x := fun p hpm => by
    obtain ⟨x, hx, e⟩ := hkeys p hpm
    refine ⟨x, hN x ?_, e⟩
    rw [← (hD x hx).1, Maps.has_eq, List.any_eq_true]
    exact ⟨p, hpm, by rw [e]; exact WideAt.sameKey_self (keyLitU x)⟩
  rw [Maps.size_eq]
  let f : Lit × DataW H → Nat := fun p => match p.1 with
    | .int _ z => z.toNat
    | _ => 0
  have hf : ∀ p ∈ es, p.1 = kU (f p) ∧ f p < N := fun p hpm => by
    obtain ⟨x, hx, e⟩ := hlt p hpm
    have : f p = x := by show (match p.1 with | .int _ z => z.toNat | _ => 0) = x; rw [e]; simp
    exact ⟨by rw [this]; exact e, by rw [this]; exact hx⟩
  have hnd : (es.map f).Nodup := by
    rw [List.Nodup, List.pairwise_map]
    refine List.Pairwise.imp_of_mem ?_ hp
    intro p q hpm hqm hne e
    exact hne (by rw [(hf p hpm).1, (hf q hqm).1, e])
  have := len_le N hnd (fun x hx => by
    obtain ⟨p, hpm, rfl⟩ := List.mem_map.1 hx
    exact (hf p hpm).2)
  rw [List.length_map] at this
  exact this
theorem OwnM.tight {H : Type} {w : World} {b K : Nat} {D : DataW H} (h : OwnM w b K D) : OwnM w b (Maps.size D) D := by
  obtain ⟨es, clock, hb, F, hs, rfl⟩ := h
  exact ⟨es, clock, hb, F, Nat.le_of_eq (length_read es).symm, rfl⟩
/-- The deferred marks of the loops over a function: shut one by one at the function's end. -/
def mark (D : Nat) : Deferred := { target := .collected D, args := #[] }
theorem leaves_marks {F : Fence} {n : Nat} {P : Program} {fn : Func} {tmps : Array Value} {R : Ending → World → Prop} : ∀ (ds : List Nat) (W : World), ds.Nodup → (∀ D ∈ ds, W.heap[D]? = some (.deferred (some []))) →
    (∀ W' : World, (∀ B, (∀ D ∈ ds, B ≤ D) → Below B W W') → (∀ k, k ∉ ds → W'.heap[k]? = W.heap[k]?) → LeavesInM F n P fn tmps R [] .returning W') → LeavesInM F n P fn tmps R (ds.map mark) .returning W
  | [], W, _, _, h => h W (fun B _ => Below.refl B W) (fun _ _ => rfl)
  | D :: ds, W, hn, hd, h => by
    rw [List.nodup_cons] at hn
    have hD := hd D (by simp)
    have hlt : D < W.heap.size := (Array.getElem?_eq_some_iff.1 hD).1
    refine ⟨by simp, .inl ⟨D, _, rfl, run_takeDeferred hD, ?_⟩⟩
    refine leaves_marks ds _ hn.2 (fun E hE => ?_) (fun W' hB hK => h W' (fun B hle => ?_) (fun k hk => ?_))
    · rw [World.putObj_heap_other (fun e => hn.1 (by rw [← e]; exact hE))]
      exact hd E (by simp [hE])
    · exact (belowK_b (n₀ := B) (w := { W with heap := W.heap.extract 0 D }) (by have := hle D (by simp); simp; omega) W D _ _ (by simp; omega) hD rfl rfl).trans (hB B (fun E hE => hle E (by simp [hE])))
    · rw [hK k (fun e => hk (by simp [e])), World.putObj_heap_other (fun e => hk (by simp [e]))]
end Go.Proofs.YtfcabdgidlnljaaDoor
