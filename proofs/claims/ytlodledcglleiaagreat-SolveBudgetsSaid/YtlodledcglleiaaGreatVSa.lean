/-
  MERGED: VSs VSo.
-/
import Derived.Test.YtlodledcglleiaaGreatVNa
import Derived.Test.YtlodledcglleiaaGreatDLev
import Derived.StillTailTactics
import Derived.ScopeJumps
namespace Go.Proofs.YtlodledcglleiaaGreat
open Go.RowKit
open SemP DiP FlP GaP SeaP
set_option linter.unusedVariables false
set_option linter.unusedSimpArgs false
set_option maxRecDepth 10000
/-- As Q; by a goto to label l: J l. -/
def jumpsQ (J : Nat → Act → World → Prop) (Q : Exit → Act → World → Prop) : Exit → Act → World → Prop
  | .goto l, a, w => J l a w
  | e, a, w => Q e a w
theorem wp_scope_many {P : Program} {c : Code} {Q : Exit → Act → World → Prop} {a : Act} {w : World} (J : Nat → Act → World → Prop) (μ : Nat → Act → World → Nat) (hf : ∀ l a w, J l a w → ∃ r, findLabel c l = some (.seq .skip r))
    (pass : ∀ l r a w, findLabel c l = some (.seq .skip r) → J l a w → r.wp P (jumpsQ (fun l' a' w' => J l' a' w' ∧ μ l' a' w' < μ l a w) Q) a w) (first : (∀ l r a w, findLabel c l = some (.seq .skip r) → J l a w → r.wp P (jumpsQ J Q) a w) → c.wp P (jumpsQ J Q) a w) : (Code.scope c).wp P Q a w := by
  have first := first (fun l r a w hl h => Code.wp_mono (fun e a' w' h2 => by
    cases e with
    | goto l' => exact h2.1
    | normal => exact h2
    | exit id => exact h2
    | ret => exact h2
    | panic ch => exact h2
    | outgrown => exact h2) (pass l r a w hl h))
  intro b k cs
  have hg : ∀ l r, findLabel c l = some (.seq .skip r) → gotoIn l (.inScope c :: k) = some (.code (.seq .skip r) :: .inScope c :: k) := fun l r h => by simp [gotoIn, h]
  have key : ∀ n l r a w, μ l a w = n → findLabel c l = some (.seq .skip r) → J l a w → ∃ e a' w', Q e a' w' ∧ Arrives P (lone (b.at a (.code (.seq .skip r) :: .inScope c :: k)) cs w) b k cs e a' w' := by
    intro n
    induction n using Nat.strongRecOn with
    | _ n ih =>
      intro l r a w hn hl hJ
      obtain ⟨e, a₁, w₁, hq, harr⟩ := (wp_seq (wp_skip (pass l r a w hl hJ)) : (Code.seq .skip r).wp P _ a w) b (.inScope c :: k) cs
      cases e with
      | normal => exact ⟨.normal, a₁, w₁, hq, Steps.trans harr (.one step_inScope)⟩
      | exit id => exact ⟨.exit id, a₁, w₁, hq, fun k' hk => harr k' (by simp [exitTo, hk])⟩
      | goto l' =>
        obtain ⟨hJ', hlt⟩ := hq
        obtain ⟨r', hl'⟩ := hf _ _ _ hJ'
        obtain ⟨e₂, a₂, w₂, hq₂, harr₂⟩ := ih _ (by omega) l' r' a₁ w₁ rfl hl' hJ'
        exact ⟨e₂, a₂, w₂, hq₂, .of_steps (harr _ (hg _ _ hl')) harr₂⟩
      | ret => exact ⟨_, a₁, w₁, hq, harr⟩
      | panic ch => exact ⟨_, a₁, w₁, hq, harr⟩
      | outgrown => exact ⟨_, a₁, w₁, hq, harr⟩
  obtain ⟨e, a₁, w₁, hq, harr⟩ := first b (.inScope c :: k) cs
  cases e with
  | normal => exact ⟨.normal, a₁, w₁, hq, .head step_scope (Steps.trans harr (.one step_inScope))⟩
  | exit id => exact ⟨.exit id, a₁, w₁, hq, fun k' hk => .head step_scope (harr k' (by simp [exitTo, hk]))⟩
  | goto l' =>
    obtain ⟨r', hl'⟩ := hf _ _ _ hq
    obtain ⟨e₂, a₂, w₂, hq₂, harr₂⟩ := key _ l' r' a₁ w₁ rfl hl' hq
    exact ⟨e₂, a₂, w₂, hq₂, .of_steps (.head step_scope (harr _ (hg _ _ hl'))) harr₂⟩
  | ret => exact ⟨_, a₁, w₁, hq, .of_steps (.one step_scope) harr⟩
  | panic ch => exact ⟨_, a₁, w₁, hq, .of_steps (.one step_scope) harr⟩
  | outgrown => exact ⟨_, a₁, w₁, hq, .of_steps (.one step_scope) harr⟩
/-! ### What holds at the labels -/
section
variable (ok : List Int → Bool) (os : List (List Int)) (l : List Sv) (T : Nat) (R : Option (List Int)) (n : Nat) (b : Int)
structure LoL (s t : Nat) (cs ts : List Int) : Prop where
  cl : cs.length = n
  tl : ts.length = n
  ol : os.length = n
  mem : ∀ i, i < n → ∀ v ∈ os.getD i [], isR l (i : Int) v = true
  ch : ∀ i, i < s → isR l (i : Int) (ix cs i) = true
  tb : (t : Int) ≤ b
structure DnL (s t : Nat) (cs ts : List Int) : Prop where
  lo : LoL os l n b s t cs ts
  sn : s ≤ n
  pos : ∀ i, i < s → ∃ k : Nat, ix ts i = (k : Int) ∧ k ≤ (os.getD i []).length
  tr : t + (dnF ok os ts cs s).1 = T
  rs : (dnF ok os ts cs s).2 = R
structure OnL (s t : Nat) (cs ts : List Int) : Prop where
  lo : LoL os l n b s t cs ts
  sn : s < n
  pos : ∀ i, i < s + 1 → ∃ k : Nat, ix ts i = (k : Int) ∧ k ≤ (os.getD i []).length
  tr : t + (upF ok os ts cs (s + 1)).1 = T
  rs : (upF ok os ts cs (s + 1)).2 = R
structure BkL (s t : Nat) (cs ts : List Int) : Prop where
  lo : LoL os l n b s t cs ts
  sn : s < n
  pos : ∀ i, i < s → ∃ k : Nat, ix ts i = (k : Int) ∧ k ≤ (os.getD i []).length
  tr : t + (upF ok os ts cs s).1 = T
  rs : (upF ok os ts cs s).2 = R
end
section
variable {ok : List Int → Bool} {os : List (List Int)} {l : List Sv} {T : Nat} {R : Option (List Int)} {n : Nat} {b : Int} {s t k : Nat} {cs ts : List Int}
theorem OnL.stop (h : OnL ok os l T R n b s t cs ts) (hk : ix ts s = ((os.getD s []).length : Int)) : BkL ok os l T R n b s t cs ts := by
  have e := on_end (ok := ok) (os := os) (ts := ts) (cs := cs) (s := s) (by rw [iz_ix, hk]; omega)
  exact ⟨h.lo, h.sn, fun i hi => h.pos i (by omega), by rw [← e]; exact h.tr, by rw [← e]; exact h.rs⟩
theorem OnL.no (h : OnL ok os l T R n b s t cs ts) (hk : ix ts s = (k : Int)) (hlt : k < (os.getD s []).length) (hok : ok (cs.take s ++ [ix (os.getD s []) k]) = false) (hb : (t : Int) ≠ b) : OnL ok os l T R n b s (t + 1) (cs.set s (ix (os.getD s []) k)) (ts.set s ((k + 1 : Nat) : Int)) := by
  have hs := h.sn
  have e := on_no (ok := ok) (os := os) (ts := ts) (cs := cs) (s := s) (k := k) hk hlt (by rw [h.lo.tl]; exact hs) (by rw [h.lo.cl]; exact hs) hok
  have h1 := h.tr
  have h2 := h.rs
  rw [e] at h1 h2
  refine ⟨⟨by rw [List.length_set]; exact h.lo.cl, by rw [List.length_set]; exact h.lo.tl, h.lo.ol, h.lo.mem, fun i hi => by
    have : ix (cs.set s (ix (os.getD s []) k)) i = ix cs i := iz_set_ne (by omega)
    rw [this]; exact h.lo.ch i hi, by have := h.lo.tb; omega⟩, hs, fun i hi => ?_, ?_, h2⟩
  · by_cases e2 : i = s
    · subst e2; exact ⟨k + 1, iz_set_eq (by rw [h.lo.tl]; exact hs), hlt⟩
    · have : ix (ts.set s ((k + 1 : Nat) : Int)) i = ix ts i := iz_set_ne (by omega)
      rw [this]; exact h.pos i hi
  · have h3 : t + ((upF ok os (ts.set s ((k + 1 : Nat) : Int)) (cs.set s (iz (os.getD s []) k)) (s + 1)).1 + 1) = T := h1
    show t + 1 + (upF ok os (ts.set s ((k + 1 : Nat) : Int)) (cs.set s (iz (os.getD s []) k)) (s + 1)).1 = T
    omega
theorem OnL.yes (h : OnL ok os l T R n b s t cs ts) (hk : ix ts s = (k : Int)) (hlt : k < (os.getD s []).length) (hok : ok (cs.take s ++ [ix (os.getD s []) k]) = true) (hb : (t : Int) ≠ b) : DnL ok os l T R n b (s + 1) (t + 1) (cs.set s (ix (os.getD s []) k)) (ts.set s ((k + 1 : Nat) : Int)) := by
  have hs := h.sn
  have e := on_yes (ok := ok) (os := os) (ts := ts) (cs := cs) (s := s) (k := k) hk hlt (by rw [h.lo.tl]; exact hs) (by rw [h.lo.cl]; exact hs) hok
  have h1 := h.tr
  have h2 := h.rs
  rw [e] at h1 h2
  refine ⟨⟨by rw [List.length_set]; exact h.lo.cl, by rw [List.length_set]; exact h.lo.tl, h.lo.ol, h.lo.mem, fun i hi => ?_, by have := h.lo.tb; omega⟩, hs, fun i hi => ?_, ?_, h2⟩
  · by_cases e2 : i = s
    · subst e2
      have : ix (cs.set i (ix (os.getD i []) k)) i = ix (os.getD i []) k := iz_set_eq (by rw [h.lo.cl]; exact hs)
      rw [this]
      exact h.lo.mem i hs _ (getD_mem (l := os.getD i []) hlt)
    · have : ix (cs.set s (ix (os.getD s []) k)) i = ix cs i := iz_set_ne (by omega)
      rw [this]; exact h.lo.ch i (by omega)
  · by_cases e2 : i = s
    · subst e2; exact ⟨k + 1, iz_set_eq (by rw [h.lo.tl]; exact hs), hlt⟩
    · have : ix (ts.set s ((k + 1 : Nat) : Int)) i = ix ts i := iz_set_ne (by omega)
      rw [this]; exact h.pos i (by omega)
  · have h3 : t + ((dnF ok os (ts.set s ((k + 1 : Nat) : Int)) (cs.set s (iz (os.getD s []) k)) (s + 1)).1 + 1) = T := h1
    show t + 1 + (dnF ok os (ts.set s ((k + 1 : Nat) : Int)) (cs.set s (iz (os.getD s []) k)) (s + 1)).1 = T
    omega
/-- A try more is wanted. -/
theorem OnL.more (h : OnL ok os l T R n b s t cs ts) (hk : ix ts s = (k : Int)) (hlt : k < (os.getD s []).length) : t < T := by
  have hs := h.sn
  have e := on_step (ok := ok) (os := os) (ts := ts) (cs := cs) (s := s) (k := k) hk hlt (by rw [h.lo.tl]; exact hs) (by rw [h.lo.cl]; exact hs)
  have h1 := h.tr
  rw [e] at h1
  unfold suc at h1
  simp only at h1
  omega
theorem BkL.back (h : BkL ok os l T R n b (s + 1) t cs ts) : OnL ok os l T R n b s t cs ts :=
  ⟨⟨h.lo.cl, h.lo.tl, h.lo.ol, h.lo.mem, fun i hi => h.lo.ch i (by omega), h.lo.tb⟩, by have := h.sn; omega, h.pos, h.tr, h.rs⟩
theorem BkL.none (h : BkL ok os l T R n b 0 t cs ts) : R = none ∧ T = t := ⟨h.rs.symm, h.tr.symm⟩
theorem DnL.done (h : DnL ok os l T R n b n t cs ts) : R = some cs ∧ T = t := by
  have e := down_end (ok := ok) (os := os) (ts := ts) (cs := cs) (s := n) (by rw [h.lo.ol]; exact Nat.le_refl _)
  have h1 := h.tr
  have h2 := h.rs
  rw [e] at h1 h2
  rw [List.take_of_length_le (by rw [h.lo.cl]; exact Nat.le_refl _)] at h2
  exact ⟨h2.symm, h1.symm⟩
theorem DnL.go (h : DnL ok os l T R n b s t cs ts) (hs : s < n) : OnL ok os l T R n b s t cs (ts.set s 0) := by
  have e := down_go (ok := ok) (os := os) (ts := ts) (cs := cs) (s := s) (by rw [h.lo.ol]; exact hs) (by rw [h.lo.tl]; exact hs)
  have h1 := h.tr
  have h2 := h.rs
  rw [e] at h1 h2
  refine ⟨⟨h.lo.cl, by rw [List.length_set]; exact h.lo.tl, h.lo.ol, h.lo.mem, h.lo.ch, h.lo.tb⟩, hs, fun i hi => ?_, h1, h2⟩
  by_cases e2 : i = s
  · subst e2; exact ⟨0, iz_set_eq (by rw [h.lo.tl]; exact hs), Nat.zero_le _⟩
  · have : ix (ts.set s 0) i = ix ts i := iz_set_ne (by omega)
    rw [this]; exact h.pos i (by omega)
end
/-- The search's memory. -/
structure SrAt (w wr : World) (gc gt n : Nat) (A1 A2 A3 : Option Addr) (c1 c2 c3 : Nat) (cs ts : List Int) : Prop where
  bel : Below w.heap.size w wr
  box : wr.heap[w.heap.size]? = some (.cells #[.slice A1 n c1, .slice A2 n c2, .slice A3 n c3] 113 (0, 0))
  oc : Own wr (w.heap.size + 1) (.slice (some ⟨gc, 0, none⟩) n n) n cs
  ot : Own wr (w.heap.size + 1) (.slice (some ⟨gt, 0, none⟩) n n) n ts
  ne : gc ≠ gt
section
variable {w wr : World} {gc gt n c1 c2 c3 : Nat} {A1 A2 A3 : Option Addr} {cs ts : List Int}
theorem SrAt.kept {w' : World} (h : SrAt w wr gc gt n A1 A2 A3 c1 c2 c3 cs ts) (hb : Below wr.heap.size wr w') : SrAt w w' gc gt n A1 A2 A3 c1 c2 c3 cs ts :=
  ⟨h.bel.trans (hb.mono h.bel.size), (hb.block w.heap.size (heapE_lt h.box)).trans h.box, h.oc.kept hb, h.ot.kept hb, h.ne⟩
theorem SrAt.setC (h : SrAt w wr gc gt n A1 A2 A3 c1 c2 c3 cs ts) (j : Nat) (u : Int) : SrAt w (wr.setCell ⟨gc, j, none⟩ (.int .i64 u)) gc gt n A1 A2 A3 c1 c2 c3 (cs.set j u) ts := by
  have hg := h.oc.ge gc rfl
  exact ⟨h.bel.setCell (p := ⟨gc, j, none⟩) (by show w.heap.size ≤ gc; omega) _, (Below.heap_setCell wr _ _ w.heap.size (by show w.heap.size ≠ gc; omega)).trans h.box, h.oc.store j u, h.ot.far (p := ⟨gc, j, none⟩) (fun e => h.ne e.symm) _, h.ne⟩
theorem SrAt.setT (h : SrAt w wr gc gt n A1 A2 A3 c1 c2 c3 cs ts) (j : Nat) (u : Int) : SrAt w (wr.setCell ⟨gt, j, none⟩ (.int .i64 u)) gc gt n A1 A2 A3 c1 c2 c3 cs (ts.set j u) := by
  have hg := h.ot.ge gt rfl
  exact ⟨h.bel.setCell (p := ⟨gt, j, none⟩) (by show w.heap.size ≤ gt; omega) _, (Below.heap_setCell wr _ _ w.heap.size (by show w.heap.size ≠ gt; omega)).trans h.box, h.oc.far (p := ⟨gt, j, none⟩) h.ne _, h.ot.store j u, h.ne⟩
theorem SrAt.drewN (h : SrAt w wr gc gt n A1 A2 A3 c1 c2 c3 cs ts) (k : Nat) : SrAt w (wr.drewN k) gc gt n A1 A2 A3 c1 c2 c3 cs ts := ⟨Below.drewN' h.bel k, h.box, h.oc, h.ot, h.ne⟩
end
def muS (T : Nat) (l : Nat) (a : Act) (_ : World) : Nat := (T - (intOf (a.tmps.getD 9 undef)).toNat) * 8 + 3 * (intOf (a.tmps.getD 8 undef)).toNat + (if l = 0 then 2 else if l = 2 then 1 else 0)
inductive SrJ (ok : List Int → Bool) (os : List (List Int)) (l : List Sv) (T : Nat) (R : Option (List Int)) (w : World) (A1 A2 A3 : Option Addr) (c1 c2 c3 n : Nat) (b : Int) : Nat → Act → World → Prop
  | dn (wr : World) (gc gt s t : Nat) (cs ts : List Int) (u3 u10 u11 u12 u13 u14 u15 u16 u17 u18 u19 u20 u21 u22 u23 u24 u25 u26 u27 u28 u29 u30 u31 u32 u33 u34 u35 u36 u37 u38 u39 u40 u41 u42 u43 u44 u45 u46 u47 u48 u49 u50 u51 u52 u53 u54 u55 u56 u57 u58 u59 u60 u61 u62 u63 u64 u65 u66 u67 u68 u69 u70 u71 u72 u73 u74 u75 : Value) : SrAt w wr gc gt n A1 A2 A3 c1 c2 c3 cs ts → DnL ok os l T R n b s t cs ts →
      SrJ ok os l T R w A1 A2 A3 c1 c2 c3 n b 0 { tmps := #[.agg #[.slice A1 n c1, .slice A2 n c2, .slice A3 n c3], .int .i64 b, .pointer (some ⟨w.heap.size, 0, none⟩), u3, .slice none 0 0, .int .i64 0, .slice (some ⟨gc, 0, none⟩) n n, .slice (some ⟨gt, 0, none⟩) n n, .int .i64 (s : Int), .int .i64 (t : Int), u10, u11, u12, u13, u14, u15, u16, u17, u18, u19, u20, u21, u22, u23, u24, u25, u26, u27, u28, u29, u30, u31, u32, u33, u34, u35, u36, u37, u38, u39, u40, u41, u42, u43, u44, u45, u46, u47, u48, u49, u50, u51, u52, u53, u54, u55, u56, u57, u58, u59, u60, u61, u62, u63, u64, u65, u66, u67, u68, u69, u70, u71, u72, u73, u74, u75], defers := [] } wr
  | bk (wr : World) (gc gt s t : Nat) (cs ts : List Int) (u3 u10 u11 u12 u13 u14 u15 u16 u17 u18 u19 u20 u21 u22 u23 u24 u25 u26 u27 u28 u29 u30 u31 u32 u33 u34 u35 u36 u37 u38 u39 u40 u41 u42 u43 u44 u45 u46 u47 u48 u49 u50 u51 u52 u53 u54 u55 u56 u57 u58 u59 u60 u61 u62 u63 u64 u65 u66 u67 u68 u69 u70 u71 u72 u73 u74 u75 : Value) : SrAt w wr gc gt n A1 A2 A3 c1 c2 c3 cs ts → BkL ok os l T R n b s t cs ts →
      SrJ ok os l T R w A1 A2 A3 c1 c2 c3 n b 1 { tmps := #[.agg #[.slice A1 n c1, .slice A2 n c2, .slice A3 n c3], .int .i64 b, .pointer (some ⟨w.heap.size, 0, none⟩), u3, .slice none 0 0, .int .i64 0, .slice (some ⟨gc, 0, none⟩) n n, .slice (some ⟨gt, 0, none⟩) n n, .int .i64 (s : Int), .int .i64 (t : Int), u10, u11, u12, u13, u14, u15, u16, u17, u18, u19, u20, u21, u22, u23, u24, u25, u26, u27, u28, u29, u30, u31, u32, u33, u34, u35, u36, u37, u38, u39, u40, u41, u42, u43, u44, u45, u46, u47, u48, u49, u50, u51, u52, u53, u54, u55, u56, u57, u58, u59, u60, u61, u62, u63, u64, u65, u66, u67, u68, u69, u70, u71, u72, u73, u74, u75], defers := [] } wr
  | on (wr : World) (gc gt s t : Nat) (cs ts : List Int) (u3 u10 u11 u12 u13 u14 u15 u16 u17 u18 u19 u20 u21 u22 u23 u24 u25 u26 u27 u28 u29 u30 u31 u32 u33 u34 u35 u36 u37 u38 u39 u40 u41 u42 u43 u44 u45 u46 u47 u48 u49 u50 u51 u52 u53 u54 u55 u56 u57 u58 u59 u60 u61 u62 u63 u64 u65 u66 u67 u68 u69 u70 u71 u72 u73 u74 u75 : Value) : SrAt w wr gc gt n A1 A2 A3 c1 c2 c3 cs ts → OnL ok os l T R n b s t cs ts →
      SrJ ok os l T R w A1 A2 A3 c1 c2 c3 n b 2 { tmps := #[.agg #[.slice A1 n c1, .slice A2 n c2, .slice A3 n c3], .int .i64 b, .pointer (some ⟨w.heap.size, 0, none⟩), u3, .slice none 0 0, .int .i64 0, .slice (some ⟨gc, 0, none⟩) n n, .slice (some ⟨gt, 0, none⟩) n n, .int .i64 (s : Int), .int .i64 (t : Int), u10, u11, u12, u13, u14, u15, u16, u17, u18, u19, u20, u21, u22, u23, u24, u25, u26, u27, u28, u29, u30, u31, u32, u33, u34, u35, u36, u37, u38, u39, u40, u41, u42, u43, u44, u45, u46, u47, u48, u49, u50, u51, u52, u53, u54, u55, u56, u57, u58, u59, u60, u61, u62, u63, u64, u65, u66, u67, u68, u69, u70, u71, u72, u73, u74, u75], defers := [] } wr
theorem dnF_zero (ok : List Int → Bool) (os : List (List Int)) (ts cs : List Int) : dnF ok os ts cs 0 = dfs ok os [] := by
  unfold dnF upF
  rw [List.drop_zero, List.take_zero]
  rcases dfs ok os [] with ⟨m, _ | t⟩ <;> simp [comb]
theorem Rd.take {w : World} {B n k : Nat} {A : Option Addr} {xs : List Int} (h : Rd w B A n xs) (hk : k ≤ n) : Rd w B A k (xs.take k) :=
  ⟨by rw [List.length_take, h.1]; omega, fun h0 => by
    obtain ⟨b, off, e, hb, hc⟩ := h.2 (by omega)
    exact ⟨b, off, e, hb, fun j hj => by rw [ix_take hj]; exact hc j (by omega)⟩⟩
theorem ix_app (a b : List Int) (j : Nat) (h : j < a.length) : ix (a ++ b) j = ix a j := ix_append_lt h
set_option maxRecDepth 100000 in
set_option maxHeartbeats 16000000 in
theorem search_any {w : World} {B n c1 c2 c3 : Nat} {b : Int} {A1 A2 A3 : Option Addr} {l : List Sv} {ps : List Nd} {os : List (List Int)} (h : FldRd w B A1 A2 A3 n os (alwK l ps n) (ptsK l n)) (hn : l.length = n) (hn16 : n ≤ 16) (hs12 : ∀ s ∈ l, s.2.length ≤ 12) (hmem : ∀ i, i < n → ∀ v ∈ os.getD i [], isR l (i : Int) v = true) (hol : ∀ i, i < n → (os.getD i []).length ≤ 12) (hb0 : 1 ≤ b) (hb1 : b ≤ 1048576) :
    Calls Tryz.prog 39 #[.agg #[.slice A1 n c1, .slice A2 n c2, .slice A3 n c3], .int .i64 b] w fun e w' => Below w.heap.size w w' ∧ ((((dfs (okS l ps) os []).1 : Int) ≤ b ∧ ∃ t v, (dfs (okS l ps) os []).2 = some t ∧ e = .returned (.tuple #[v, .int .i64 0]) ∧ Own w' w.heap.size v n t) ∨ (((dfs (okS l ps) os []).1 : Int) ≤ b ∧ (dfs (okS l ps) os []).2 = none ∧ e = .returned (.tuple #[.slice none 0 0, .int .i64 40])) ∨ (b < ((dfs (okS l ps) os []).1 : Int) ∧ e = .returned (.tuple #[.slice none 0 0, .int .i64 41]))) := by
  obtain ⟨T, HT⟩ : ∃ T, Hid ((dfs (okS l ps) os []).1 = T) := ⟨_, Lib.hid rfl⟩
  obtain ⟨R, HR⟩ : ∃ R, Hid ((dfs (okS l ps) os []).2 = R) := ⟨_, Lib.hid rfl⟩
  rw [HT.out, HR.out]
  obtain ⟨W, HW⟩ : ∃ W, Hid (W = w.alloc (.cells #[.slice A1 n c1, .slice A2 n c2, .slice A3 n c3] 113)) := ⟨_, Lib.hid rfl⟩
  have hbl : Below w.heap.size w W := by rw [HW.out]; exact (Below.refl _ w).alloc (Nat.le_refl _) _
  have HBL := Lib.hid hbl
  have HZ : Hid (W.heap.size = w.heap.size + 1) := Lib.hid (by rw [HW.out]; simp)
  have H0 : Hid (W.heap[w.heap.size]? = some (.cells #[.slice A1 n c1, .slice A2 n c2, .slice A3 n c3] 113 (0, 0))) := Lib.hid (by rw [HW.out]; exact heap_new w _)
  have HF := Lib.hid h
  have HNL := Lib.hid hn
  have HS12 := Lib.hid hs12
  have HMM := Lib.hid hmem
  have HOL := Lib.hid hol
  have HX1 : Hid (os.length = n) := Lib.hid h.r1.1
  have hzw : w.heap.size < W.heap.size := by have := HZ.out; omega
  clear h hn hs12 hmem hbl hol
  obtain ⟨x0, x1, x2, _⟩ := row3 H0.out
  go_enter Tryz.func39, Tryz.ntmps39
  go_wp2_with fail
  change Code.wp _ _ _ _ (w.alloc (.cells #[.slice A1 n c1, .slice A2 n c2, .slice A3 n c3] 113))
  rw [← HW.out]
  refine wp_scope_many (SrJ (okS l ps) os l T R w A1 A2 A3 c1 c2 c3 n b) (muS T) ?hf ?pass ?first
  case hf =>
    intro l a w hJ
    cases hJ with
    | dn => exact ⟨_, rfl⟩
    | bk => exact ⟨_, rfl⟩
    | on => exact ⟨_, rfl⟩
  case first =>
    intro hp
    go_upto_region 2 with (at_make; refine wpl_make rfl (.tmp 12) (.tmp 12) rfl (w.heap.size + 1) n rfl rfl (by omega) (by omega) ?_; intro w3 hown3 hgr3; (have HB3 : Hid (Below W.heap.size W w3) := Lib.hid ((Below.refl _ W).grown hgr3 (Nat.le_refl _) (fun g hg => by cases hg))); (have HO3 := Lib.hid hown3); clear hown3 hgr3; (clear x0 x1 x2); (obtain ⟨x0, x1, x2, _⟩ := row3 ((HB3.out.block w.heap.size (heapE_lt H0.out)).trans H0.out)))
    have hz3 := HB3.out.size
    go_wp2_with (at_make; refine wpl_make rfl (.tmp 16) (.tmp 16) rfl (w.heap.size + 1) n rfl rfl (by omega) (by omega) ?_; intro w4 hown4 hgr4; (have HB4 : Hid (Below w3.heap.size w3 w4) := Lib.hid ((Below.refl _ w3).grown hgr4 (Nat.le_refl _) (fun g hg => by cases hg))); (have HO4 := Lib.hid hown4); clear hown4 hgr4; (clear x0 x1 x2); (obtain ⟨x0, x1, x2, _⟩ := row3 ((HB4.out.block w.heap.size (by omega)).trans ((HB3.out.block w.heap.size (heapE_lt H0.out)).trans H0.out))))
    have hz4 := HB4.out.size
    have HSR : Hid (SrAt w w4 W.heap.size w3.heap.size n A1 A2 A3 c1 c2 c3 (List.replicate n 0) (List.replicate n 0)) := Lib.hid (by
      have hlt : W.heap.size < w3.heap.size ∨ n = 0 := by
        rcases HO3.out.2 with ⟨h, _⟩ | ⟨g, cap, cur, hv, _, hh, _⟩
        · cases h
        · injection hv with hv
          injection hv with hv
          injection hv with hv _
          subst hv
          exact .inl (heapE_lt hh)
      refine ⟨(HBL.out.trans (HB3.out.mono HBL.out.size)).trans (HB4.out.mono (by omega)), (HB4.out.block w.heap.size (by omega)).trans ((HB3.out.block w.heap.size (heapE_lt H0.out)).trans H0.out), HO3.out.kept HB4.out, HO4.out, ?_⟩
      rcases HO3.out.2 with ⟨h, _⟩ | ⟨g, cap, cur, hv, _, hh, _⟩
      · cases h
      · injection hv with hv
        injection hv with hv
        injection hv with hv _
        subst hv
        have := heapE_lt hh
        omega)
    have HDN : Hid (DnL (okS l ps) os l T R n b 0 0 (List.replicate n 0) (List.replicate n 0)) := Lib.hid ⟨⟨by simp, by simp, HX1.out, HMM.out, fun i hi => absurd hi (by omega), by omega⟩, Nat.zero_le _, fun i hi => absurd hi (by omega), by rw [dnF_zero, HT.out]; omega, by rw [dnF_zero, HR.out]⟩
    clear x0 x1 x2
    go_step3
    rename_i hK
    exact hK _ _ (hp 0 _ _ _ rfl (.dn _ _ _ 0 0 _ _ _ _ _ _ _ _ _ _ _ _ _ _ _ _ _ _ _ _ _ _ _ _ _ _ _ _ _ _ _ _ _ _ _ _ _ _ _ _ _ _ _ _ _ _ _ _ _ _ _ _ _ _ _ _ _ _ _ _ _ _ _ _ _ _ _ _ _ HSR.out HDN.out))
  case pass =>
    intro lb r a wr hl hJ
    obtain ⟨M0, HM0⟩ : ∃ M0, Hid (muS T lb a wr = M0) := ⟨_, Lib.hid rfl⟩
    rw [HM0.out]
    cases hJ with
    | bk _ gc gt s t cs ts u3 u10 u11 u12 u13 u14 u15 u16 u17 u18 u19 u20 u21 u22 u23 u24 u25 u26 u27 u28 u29 u30 u31 u32 u33 u34 u35 u36 u37 u38 u39 u40 u41 u42 u43 u44 u45 u46 u47 u48 u49 u50 u51 u52 u53 u54 u55 u56 u57 u58 u59 u60 u61 u62 u63 u64 u65 u66 u67 u68 u69 u70 u71 u72 u73 u74 u75 hS hL =>
      obtain rfl : r = _ := by injection hl with hl; injection hl with _ hl; exact hl.symm
      have HS := Lib.hid hS
      have HL := Lib.hid hL
      clear hS hL hl
      rcases Nat.eq_zero_or_pos s with h0 | h0
      · subst h0
        have hz : (((0 : Nat) : Int) == 0) = true := rfl
        obtain ⟨hR, hT⟩ := HL.out.none
        have HRT : Hid (R = none ∧ (T : Int) ≤ b) := Lib.hid ⟨hR, by have := HL.out.lo.tb; omega⟩
        clear hR hT
        go_wp2_with fail
        simp only [jumpsQ]
        go_ret2
        exact ⟨HS.out.bel, .inr (.inl ⟨HRT.out.2, HRT.out.1, rfl⟩)⟩
      · obtain ⟨s', HSS⟩ : ∃ s', Hid (s = s' + 1) := ⟨s - 1, Lib.hid (by omega)⟩
        have hz : ((s : Int) == 0) = false := by rw [beq_eq_false_iff_ne]; omega
        have hsn := HL.out.sn
        have hsub : IntKind.i64.wrap ((s : Int) - 1) = (s' : Int) := by rw [IntWalk.i64_in _ (by omega)]; have := HSS.out; omega
        have hsb1 : (s : Int) - 1 = (s' : Int) := by have := HSS.out; omega
        have HON : Hid (OnL (okS l ps) os l T R n b s' t cs ts) := Lib.hid (by
          have h := HL.out
          rw [HSS.out] at h
          exact h.back)
        go_wp2_with fail
        go_step3
        refine ⟨.on _ _ _ s' t _ _ _ _ _ _ _ _ _ _ _ _ _ _ _ _ _ _ _ _ _ _ _ _ _ _ _ _ _ _ _ _ _ _ _ _ _ _ _ _ _ _ _ _ _ _ _ _ _ _ _ _ _ _ _ _ _ _ _ _ _ _ _ _ _ _ _ _ _ HS.out HON.out, ?_⟩
        rw [← HM0.out, HSS.out]
        simp [muS, intOf]
        omega
    | on _ gc gt s t cs ts u3 u10 u11 u12 u13 u14 u15 u16 u17 u18 u19 u20 u21 u22 u23 u24 u25 u26 u27 u28 u29 u30 u31 u32 u33 u34 u35 u36 u37 u38 u39 u40 u41 u42 u43 u44 u45 u46 u47 u48 u49 u50 u51 u52 u53 u54 u55 u56 u57 u58 u59 u60 u61 u62 u63 u64 u65 u66 u67 u68 u69 u70 u71 u72 u73 u74 u75 hS hL =>
      obtain rfl : r = _ := by injection hl with hl; injection hl with _ hl; exact hl.symm
      have HS := Lib.hid hS
      have HL := Lib.hid hL
      clear hS hL hl
      have HMU : Hid ((T - t) * 8 + 3 * s + 1 ≤ M0) := Lib.hid (by rw [← HM0.out]; simp [muS, intOf])
      obtain ⟨k, hk0, hk1⟩ := HL.out.pos s (Nat.lt_succ_self s)
      have HK := Lib.hid hk0
      have HKL := Lib.hid hk1
      have hsn := HL.out.sn
      have hsI : (s : Int) < (n : Int) := by omega
      have hs0 : (0 : Int) ≤ (s : Int) := by omega
      have htb := HL.out.lo.tb
      have htb2 : (t : Int) ≤ 1048576 := by omega
      obtain ⟨x0, x1, x2, _⟩ := row3 HS.out.box
      obtain ⟨bo, oo, vo, hA1, hbo, hboB, ko, io⟩ := rdJ_one (HF.out.below (HS.out.bel.mono HF.out.le)).r1 (j := s) hsn
      obtain ⟨Ao, co, hvo, ro⟩ := io.form
      obtain ⟨no, HNO⟩ : ∃ no, Hid ((os.getD s []).length = no) := ⟨_, Lib.hid rfl⟩
      have e0 : (os.getD s default).length = no := HNO.out
      rw [e0] at hvo ro
      subst hvo hA1
      have kT := HS.out.ot.cell (j := s) hsn
      rw [HK.out] at kT
      have HRO := Lib.hid ro
      clear io ro e0 hk0 hk1
      have hno12 : no ≤ 12 := by have := HOL.out s hsn; have := HNO.out; omega
      by_cases hkn : k = no
      · subst hkn
        have hkk : ((k : Int) == (k : Int)) = true := by simp
        have HBK := Lib.hid (HL.out.stop (by rw [HNO.out]; exact HK.out))
        go_wp2_with fail
        go_quiet (fail)
        go_wp2_with fail
        go_step3
        refine ⟨.bk _ _ _ s t _ _ _ _ _ _ _ _ _ _ _ _ _ _ _ _ _ _ _ _ _ _ _ _ _ _ _ _ _ _ _ _ _ _ _ _ _ _ _ _ _ _ _ _ _ _ _ _ _ _ _ _ _ _ _ _ _ _ _ _ _ _ _ _ _ _ _ _ _ (HS.out.drewN _) HBK.out, ?_⟩
        have := HMU.out
        simp [muS, intOf]
        omega
      · have hkk : ((k : Int) == (no : Int)) = false := by rw [beq_eq_false_iff_ne]; omega
        have hklt : k < no := by have := HKL.out; have := HNO.out; omega
        have hklI : (k : Int) < (no : Int) := by omega
        have hk0 : (0 : Int) ≤ (k : Int) := by omega
        have HMR : Hid (t < T) := Lib.hid (HL.out.more HK.out (by rw [HNO.out]; exact hklt))
        go_wp2_with fail
        go_quiet (fail)
        rename_i nq
        obtain ⟨W1, HW1⟩ : ∃ W1, Hid (W1 = wr.drewN nq) := ⟨_, Lib.hid rfl⟩
        have HS1 : Hid (SrAt w W1 gc gt n (some ⟨bo, oo, none⟩) A2 A3 c1 c2 c3 cs ts) := Lib.hid (by rw [HW1.out]; exact HS.out.drewN _)
        have ko1 : W1.cell? ⟨bo, oo + s, none⟩ = some (.slice Ao no co) := by rw [HW1.out]; exact ko
        have HRO1 : Hid (RdJ 1 inI W1 (fun b => B ≤ b) Ao no (os.getD s default)) := Lib.hid (by rw [HW1.out]; exact HRO.out)
        have kT1 := HS1.out.ot.cell (j := s) hsn
        rw [HK.out] at kT1
        rw [← HW1.out]
        clear ko kT x0 x1 x2 hkk hkn
        obtain ⟨x0, x1, x2, _⟩ := row3 HS1.out.box
        by_cases hbt : (t : Int) = b
        · have hbb : ((t : Int) == b) = true := by rw [beq_iff_eq]; exact hbt
          go_wp2_with fail
          simp only [jumpsQ]
          go_ret2
          exact ⟨HS1.out.bel, .inr (.inr ⟨by have := HMR.out; omega, rfl⟩)⟩
        · have hbb : ((t : Int) == b) = false := by rw [beq_eq_false_iff_ne]; exact hbt
          have HBT := Lib.hid hbt
          obtain ⟨be, oe, ve, hAe, hbe, hbeB, ke, ie⟩ := rdJ_one HRO1.out (j := k) hklt
          subst hAe
          obtain ⟨v, HVV⟩ : ∃ v, Hid (ix (os.getD s []) k = v) := ⟨_, Lib.hid rfl⟩
          have ie' : ve = .int .i64 v := by
            have : [ve] = [Value.int .i64 ((os.getD s default).getD k default)] := ie
            rw [← HVV.out]
            injection this
          subst ie'
          have hfc := HS1.out.oc.free s
          have hcc := HS1.out.oc.cell (j := s) hsn
          have htadd : IntKind.i64.wrap ((t : Int) + 1) = (t : Int) + 1 := IntWalk.i64_in _ (by omega)
          have hkadd : IntKind.i64.wrap ((k : Int) + 1) = ((k + 1 : Nat) : Int) := by rw [IntWalk.i64_in _ (by omega)]; omega
          clear hbt ie
          go_wp2_with fail
          go_still_tail 14, (by kernel_rfl)
          obtain ⟨W2, HW2⟩ : ∃ W2, Hid (W2 = W1.drewN 1) := ⟨_, Lib.hid rfl⟩
          have e2 : ({ heap := W1.heap, tape := W1.tape, drawn := W1.drawn + 1, os := W1.os, output := W1.output } : World) = W2 := HW2.out.symm
          have HS2 : Hid (SrAt w W2 gc gt n (some ⟨bo, oo, none⟩) A2 A3 c1 c2 c3 cs ts) := Lib.hid (by rw [HW2.out]; exact HS1.out.drewN 1)
          have hcc2 : W2.cell? ⟨gc, s, none⟩ = some (.int .i64 (ix cs s)) := by rw [HW2.out]; exact hcc
          have hfc2 : W2.frozen? ⟨gc, s, none⟩ = false := by rw [HW2.out]; exact hfc
          rw [e2]
          clear e2 hcc hfc ke ko1 kT1 x0 x1 x2
          have HS3 := Lib.hid (HS2.out.setC s v)
          have kT3 := HS3.out.ot.cell (j := s) hsn
          have fT3 := HS3.out.ot.free s
          rw [HK.out] at kT3
          have HS4 := Lib.hid (HS3.out.setT s ((k + 1 : Nat) : Int))
          go_upto_region 13 with fail
          obtain ⟨W4, HW4⟩ : ∃ W4, Hid (W4 = (W2.setCell ⟨gc, s, none⟩ (.int .i64 v)).setCell ⟨gt, s, none⟩ (.int .i64 ((k : Int) + 1))) := ⟨_, Lib.hid rfl⟩
          have HSR : Hid (SrAt w W4 gc gt n (some ⟨bo, oo, none⟩) A2 A3 c1 c2 c3 (cs.set s v) (ts.set s ((k + 1 : Nat) : Int))) := Lib.hid (by rw [HW4.out]; exact HS4.out)
          rw [← HW4.out]
          clear hcc2 hfc2 kT3 fT3
          obtain ⟨x0, x1, x2, _⟩ := row3 HSR.out.box
          have hsr : ∀ j, j ≤ s → isR l (j : Int) (ix ((cs.set s v).take (s + 1)) j) = true := by
            intro j hj
            rw [ix_take (by omega)]
            by_cases e : j = s
            · subst e
              have : ix (cs.set j v) j = v := iz_set_eq (by rw [HL.out.lo.cl]; exact hsn)
              rw [this, ← HVV.out]
              exact HL.out.lo.mem j hsn _ (getD_mem (l := os.getD j []) (by rw [HNO.out]; exact hklt))
            · have : ix (cs.set s v) j = ix cs j := iz_set_ne (by omega)
              rw [this]; exact HL.out.lo.ch j (by omega)
          have hrd4 : Rd W4 W4.heap.size (some ⟨gc, 0, none⟩) n (cs.set s v) := Rd.of_own HSR.out.oc
          have hrd5 : Rd (W4.drewN 1) W4.heap.size (some ⟨gc, 0, none⟩) (s + 1) ((cs.set s v).take (s + 1)) := hrd4.take hsn
          have hcapC : CapA (some ⟨gc, 0, none⟩) (s + 1) n := .inr ⟨_, rfl, hsn, by omega⟩
          have HI := Lib.hid (fbears_any (c1 := c1) (c2 := c2) (c3 := c3) ((HF.out.below (Below.drewN' (HSR.out.bel.mono HF.out.le) 1)) : FldRd (W4.drewN 1) B (some ⟨bo, oo, none⟩) A2 A3 n os (alwK l ps n) (ptsK l n)) HNL.out hn16 HS12.out hrd5 (Nat.le_refl _) hcapC hsn hsr)
          have htk : ((cs.set s v).take (s + 1)).take s = cs.take s := by rw [List.take_take, Nat.min_eq_left (Nat.le_succ s), take_set (Nat.le_refl s)]
          have hixs : ix ((cs.set s v).take (s + 1)) s = v := by
            rw [ix_take (Nat.lt_succ_self s)]; exact iz_set_eq (by rw [HL.out.lo.cl]; exact hsn)
          rw [htk, hixs] at HI
          have HOK : Hid (okS l ps (cs.take s ++ [ix (os.getD s []) k]) = okV l ps (cs.take s) v) := Lib.hid (by rw [HVV.out, okS_snoc])
          have hsadd : IntKind.i64.wrap ((s : Int) + 1) = (s : Int) + 1 := IntWalk.i64_in _ (by omega)
          have hsl : ∀ w0 : World, (Instr.slice 39 (.slice (some ⟨gc, 0, none⟩) n n) none (some (.int .i64 ((s : Int) + 1))) none).run Tryz.prog w0 = .ok (.slice (some ⟨gc, 0, none⟩) (s + 1) n) w0 := fun w0 => slice_to Tryz.underlying39 (by kernel_rfl) infoInt (.inr ⟨_, rfl, Nat.le_refl _, by omega⟩) hsn w0
          have hsl1 := hsl W4
          have hs1n : (s : Int) + 1 ≤ (n : Int) := by omega
          have hs1z : (0 : Int) ≤ (s : Int) + 1 := by omega
          have hsl2 := hsl (W4.drewN 1)
          have hzb := heapE_lt HSR.out.box
          clear hrd4 hrd5 hsr htk hixs hcapC hsl
          go_region_held3 (fun W' => W'.cell? ⟨w.heap.size, 0, none⟩ = some (.slice (some ⟨bo, oo, none⟩) n c1) ∧ W'.cell? ⟨w.heap.size, 1, none⟩ = some (.slice A2 n c2) ∧ W'.cell? ⟨w.heap.size, 2, none⟩ = some (.slice A3 n c3)) ((first | exact ⟨x0, x1, x2⟩ | exact ⟨z0, z1, z2⟩ | go_keep)) (first
            | (go_at_call 67; refine HI.out.mono ?_; rintro e w5 ⟨rfl, hb'⟩; (have hb : Below W4.heap.size W4 w5 := (Below.drewN' (Below.refl _ W4) 1).trans hb'); (have z0 := (hb.cell (p := ⟨w.heap.size, 0, none⟩) hzb).trans x0); (have z1 := (hb.cell (p := ⟨w.heap.size, 1, none⟩) hzb).trans x1); (have z2 := (hb.cell (p := ⟨w.heap.size, 2, none⟩) hzb).trans x2); (have HBW := Lib.hid hb); clear hb hb'))
          have HS5 := Lib.hid (HSR.out.kept HBW.out)
          have ht1 : (t : Int) + 1 = ((t + 1 : Nat) : Int) := by omega
          rw [ht1]
          clear z0 z1 z2 x0 x1 x2 hsl1 hsl2 htadd htb htb2 HI ht1
          cases hq : okV l ps (cs.take s) v with
          | false =>
            have HN := Lib.hid (HL.out.no HK.out (by rw [HNO.out]; exact hklt) (by rw [HOK.out]; exact hq) HBT.out)
            rw [HVV.out] at HN
            clear hq
            go_wp2_with fail
            go_step3
            refine ⟨.on _ _ _ s (t + 1) _ _ _ _ _ _ _ _ _ _ _ _ _ _ _ _ _ _ _ _ _ _ _ _ _ _ _ _ _ _ _ _ _ _ _ _ _ _ _ _ _ _ _ _ _ _ _ _ _ _ _ _ _ _ _ _ _ _ _ _ _ _ _ _ _ _ _ _ _ HS5.out HN.out, ?_⟩
            have := HMU.out
            have := HMR.out
            simp [muS, intOf]
            omega
          | true =>
            have HN := Lib.hid (HL.out.yes HK.out (by rw [HNO.out]; exact hklt) (by rw [HOK.out]; exact hq) HBT.out)
            rw [HVV.out] at HN
            clear hq
            have hs1 : IntKind.i64.wrap ((s : Int) + 1) = ((s + 1 : Nat) : Int) := by rw [hsadd]; omega
            clear hsadd
            go_wp2_with fail
            go_step3
            have hs9 : (s : Int) + 1 = ((s + 1 : Nat) : Int) := by omega
            rw [hs9]
            refine ⟨.dn _ _ _ (s + 1) (t + 1) _ _ _ _ _ _ _ _ _ _ _ _ _ _ _ _ _ _ _ _ _ _ _ _ _ _ _ _ _ _ _ _ _ _ _ _ _ _ _ _ _ _ _ _ _ _ _ _ _ _ _ _ _ _ _ _ _ _ _ _ _ _ _ _ _ _ _ _ _ HS5.out HN.out, ?_⟩
            have := HMU.out
            have := HMR.out
            simp [muS, intOf]
            omega
    | dn _ gc gt s t cs ts u3 u10 u11 u12 u13 u14 u15 u16 u17 u18 u19 u20 u21 u22 u23 u24 u25 u26 u27 u28 u29 u30 u31 u32 u33 u34 u35 u36 u37 u38 u39 u40 u41 u42 u43 u44 u45 u46 u47 u48 u49 u50 u51 u52 u53 u54 u55 u56 u57 u58 u59 u60 u61 u62 u63 u64 u65 u66 u67 u68 u69 u70 u71 u72 u73 u74 u75 hS hL =>
      obtain rfl : r = _ := by injection hl with hl; injection hl with _ hl; exact hl.symm
      have HS := Lib.hid hS
      have HLD := Lib.hid hL
      clear hS hL hl
      have HMD : Hid ((T - t) * 8 + 3 * s + 2 ≤ M0) := Lib.hid (by rw [← HM0.out]; simp [muS, intOf])
      obtain ⟨x0, x1, x2, _⟩ := row3 HS.out.box
      by_cases hsn : s = n
      · subst hsn
        have hz : ((s : Int) == (s : Int)) = true := by simp
        have HD := Lib.hid HLD.out.done
        have HTB := Lib.hid HLD.out.lo.tb
        go_wp2_with fail
        simp only [jumpsQ]
        go_ret2
        exact ⟨HS.out.bel, .inl ⟨by rw [HD.out.2]; exact HTB.out, cs, _, HD.out.1, rfl, HS.out.oc.less (Nat.le_succ _)⟩⟩
      · have hz : ((s : Int) == (n : Int)) = false := by rw [beq_eq_false_iff_ne]; omega
        have hsn' : s < n := by have := HLD.out.sn; omega
        have hsI' : (s : Int) < (n : Int) := by omega
        have HL := Lib.hid (HLD.out.go hsn')
        have HSt := Lib.hid (HS.out.setT s 0)
        have kT0 := HS.out.ot.cell (j := s) hsn'
        have fT0 := HS.out.ot.free s
        go_upto_region 7 with fail
        go_step3
        obtain ⟨wz, HWZ⟩ : ∃ wz, Hid (wz = wr.setCell ⟨gt, s, none⟩ (.int .i64 0)) := ⟨_, Lib.hid rfl⟩
        obtain ⟨ts2, HTS⟩ : ∃ ts2, Hid (ts.set s 0 = ts2) := ⟨_, Lib.hid rfl⟩
        rw [← HWZ.out]
        rw [← HWZ.out, HTS.out] at HSt
        rw [HTS.out] at HL
        have HSz := Lib.hid HSt.out
        have HMU : Hid ((T - t) * 8 + 3 * s + 1 ≤ M0) := Lib.hid (by have := HMD.out; omega)
        clear HSt kT0 fT0 x0 x1 x2 hz hsn hsn' hsI'
        obtain ⟨k, hk0, hk1⟩ := HL.out.pos s (Nat.lt_succ_self s)
        have HK := Lib.hid hk0
        have HKL := Lib.hid hk1
        have hsn := HL.out.sn
        have hsI : (s : Int) < (n : Int) := by omega
        have hs0 : (0 : Int) ≤ (s : Int) := by omega
        have htb := HL.out.lo.tb
        have htb2 : (t : Int) ≤ 1048576 := by omega
        obtain ⟨x0, x1, x2, _⟩ := row3 HSz.out.box
        obtain ⟨bo, oo, vo, hA1, hbo, hboB, ko, io⟩ := rdJ_one (HF.out.below (HSz.out.bel.mono HF.out.le)).r1 (j := s) hsn
        obtain ⟨Ao, co, hvo, ro⟩ := io.form
        obtain ⟨no, HNO⟩ : ∃ no, Hid ((os.getD s []).length = no) := ⟨_, Lib.hid rfl⟩
        have e0 : (os.getD s default).length = no := HNO.out
        rw [e0] at hvo ro
        subst hvo hA1
        have kT := HSz.out.ot.cell (j := s) hsn
        rw [HK.out] at kT
        have HRO := Lib.hid ro
        clear io ro e0 hk0 hk1
        have hno12 : no ≤ 12 := by have := HOL.out s hsn; have := HNO.out; omega
        by_cases hkn : k = no
        · subst hkn
          have hkk : ((k : Int) == (k : Int)) = true := by simp
          have HBK := Lib.hid (HL.out.stop (by rw [HNO.out]; exact HK.out))
          go_wp2_with fail
          go_quiet (fail)
          go_wp2_with fail
          go_step3
          refine ⟨.bk _ _ _ s t _ _ _ _ _ _ _ _ _ _ _ _ _ _ _ _ _ _ _ _ _ _ _ _ _ _ _ _ _ _ _ _ _ _ _ _ _ _ _ _ _ _ _ _ _ _ _ _ _ _ _ _ _ _ _ _ _ _ _ _ _ _ _ _ _ _ _ _ _ (HSz.out.drewN _) HBK.out, ?_⟩
          have := HMU.out
          simp [muS, intOf]
          omega
        · have hkk : ((k : Int) == (no : Int)) = false := by rw [beq_eq_false_iff_ne]; omega
          have hklt : k < no := by have := HKL.out; have := HNO.out; omega
          have hklI : (k : Int) < (no : Int) := by omega
          have hk0 : (0 : Int) ≤ (k : Int) := by omega
          have HMR : Hid (t < T) := Lib.hid (HL.out.more HK.out (by rw [HNO.out]; exact hklt))
          go_wp2_with fail
          go_quiet (fail)
          rename_i nq
          obtain ⟨W1, HW1⟩ : ∃ W1, Hid (W1 = wz.drewN nq) := ⟨_, Lib.hid rfl⟩
          have HS1 : Hid (SrAt w W1 gc gt n (some ⟨bo, oo, none⟩) A2 A3 c1 c2 c3 cs ts2) := Lib.hid (by rw [HW1.out]; exact HSz.out.drewN _)
          have ko1 : W1.cell? ⟨bo, oo + s, none⟩ = some (.slice Ao no co) := by rw [HW1.out]; exact ko
          have HRO1 : Hid (RdJ 1 inI W1 (fun b => B ≤ b) Ao no (os.getD s default)) := Lib.hid (by rw [HW1.out]; exact HRO.out)
          have kT1 := HS1.out.ot.cell (j := s) hsn
          rw [HK.out] at kT1
          rw [← HW1.out]
          clear ko kT x0 x1 x2 hkk hkn
          obtain ⟨x0, x1, x2, _⟩ := row3 HS1.out.box
          by_cases hbt : (t : Int) = b
          · have hbb : ((t : Int) == b) = true := by rw [beq_iff_eq]; exact hbt
            go_wp2_with fail
            simp only [jumpsQ]
            go_ret2
            exact ⟨HS1.out.bel, .inr (.inr ⟨by have := HMR.out; omega, rfl⟩)⟩
          · have hbb : ((t : Int) == b) = false := by rw [beq_eq_false_iff_ne]; exact hbt
            have HBT := Lib.hid hbt
            obtain ⟨be, oe, ve, hAe, hbe, hbeB, ke, ie⟩ := rdJ_one HRO1.out (j := k) hklt
            subst hAe
            obtain ⟨v, HVV⟩ : ∃ v, Hid (ix (os.getD s []) k = v) := ⟨_, Lib.hid rfl⟩
            have ie' : ve = .int .i64 v := by
              have : [ve] = [Value.int .i64 ((os.getD s default).getD k default)] := ie
              rw [← HVV.out]
              injection this
            subst ie'
            have hfc := HS1.out.oc.free s
            have hcc := HS1.out.oc.cell (j := s) hsn
            have htadd : IntKind.i64.wrap ((t : Int) + 1) = (t : Int) + 1 := IntWalk.i64_in _ (by omega)
            have hkadd : IntKind.i64.wrap ((k : Int) + 1) = ((k + 1 : Nat) : Int) := by rw [IntWalk.i64_in _ (by omega)]; omega
            clear hbt ie
            go_wp2_with fail
            go_still_tail 14, (by kernel_rfl)
            obtain ⟨W2, HW2⟩ : ∃ W2, Hid (W2 = W1.drewN 1) := ⟨_, Lib.hid rfl⟩
            have e2 : ({ heap := W1.heap, tape := W1.tape, drawn := W1.drawn + 1, os := W1.os, output := W1.output } : World) = W2 := HW2.out.symm
            have HS2 : Hid (SrAt w W2 gc gt n (some ⟨bo, oo, none⟩) A2 A3 c1 c2 c3 cs ts2) := Lib.hid (by rw [HW2.out]; exact HS1.out.drewN 1)
            have hcc2 : W2.cell? ⟨gc, s, none⟩ = some (.int .i64 (ix cs s)) := by rw [HW2.out]; exact hcc
            have hfc2 : W2.frozen? ⟨gc, s, none⟩ = false := by rw [HW2.out]; exact hfc
            rw [e2]
            clear e2 hcc hfc ke ko1 kT1 x0 x1 x2
            have HS3 := Lib.hid (HS2.out.setC s v)
            have kT3 := HS3.out.ot.cell (j := s) hsn
            have fT3 := HS3.out.ot.free s
            rw [HK.out] at kT3
            have HS4 := Lib.hid (HS3.out.setT s ((k + 1 : Nat) : Int))
            go_upto_region 13 with fail
            obtain ⟨W4, HW4⟩ : ∃ W4, Hid (W4 = (W2.setCell ⟨gc, s, none⟩ (.int .i64 v)).setCell ⟨gt, s, none⟩ (.int .i64 ((k : Int) + 1))) := ⟨_, Lib.hid rfl⟩
            have HSR : Hid (SrAt w W4 gc gt n (some ⟨bo, oo, none⟩) A2 A3 c1 c2 c3 (cs.set s v) (ts2.set s ((k + 1 : Nat) : Int))) := Lib.hid (by rw [HW4.out]; exact HS4.out)
            rw [← HW4.out]
            clear hcc2 hfc2 kT3 fT3
            obtain ⟨x0, x1, x2, _⟩ := row3 HSR.out.box
            have hsr : ∀ j, j ≤ s → isR l (j : Int) (ix ((cs.set s v).take (s + 1)) j) = true := by
              intro j hj
              rw [ix_take (by omega)]
              by_cases e : j = s
              · subst e
                have : ix (cs.set j v) j = v := iz_set_eq (by rw [HL.out.lo.cl]; exact hsn)
                rw [this, ← HVV.out]
                exact HL.out.lo.mem j hsn _ (getD_mem (l := os.getD j []) (by rw [HNO.out]; exact hklt))
              · have : ix (cs.set s v) j = ix cs j := iz_set_ne (by omega)
                rw [this]; exact HL.out.lo.ch j (by omega)
            have hrd4 : Rd W4 W4.heap.size (some ⟨gc, 0, none⟩) n (cs.set s v) := Rd.of_own HSR.out.oc
            have hrd5 : Rd (W4.drewN 1) W4.heap.size (some ⟨gc, 0, none⟩) (s + 1) ((cs.set s v).take (s + 1)) := hrd4.take hsn
            have hcapC : CapA (some ⟨gc, 0, none⟩) (s + 1) n := .inr ⟨_, rfl, hsn, by omega⟩
            have HI := Lib.hid (fbears_any (c1 := c1) (c2 := c2) (c3 := c3) ((HF.out.below (Below.drewN' (HSR.out.bel.mono HF.out.le) 1)) : FldRd (W4.drewN 1) B (some ⟨bo, oo, none⟩) A2 A3 n os (alwK l ps n) (ptsK l n)) HNL.out hn16 HS12.out hrd5 (Nat.le_refl _) hcapC hsn hsr)
            have htk : ((cs.set s v).take (s + 1)).take s = cs.take s := by rw [List.take_take, Nat.min_eq_left (Nat.le_succ s), take_set (Nat.le_refl s)]
            have hixs : ix ((cs.set s v).take (s + 1)) s = v := by
              rw [ix_take (Nat.lt_succ_self s)]; exact iz_set_eq (by rw [HL.out.lo.cl]; exact hsn)
            rw [htk, hixs] at HI
            have HOK : Hid (okS l ps (cs.take s ++ [ix (os.getD s []) k]) = okV l ps (cs.take s) v) := Lib.hid (by rw [HVV.out, okS_snoc])
            have hsadd : IntKind.i64.wrap ((s : Int) + 1) = (s : Int) + 1 := IntWalk.i64_in _ (by omega)
            have hsl : ∀ w0 : World, (Instr.slice 39 (.slice (some ⟨gc, 0, none⟩) n n) none (some (.int .i64 ((s : Int) + 1))) none).run Tryz.prog w0 = .ok (.slice (some ⟨gc, 0, none⟩) (s + 1) n) w0 := fun w0 => slice_to Tryz.underlying39 (by kernel_rfl) infoInt (.inr ⟨_, rfl, Nat.le_refl _, by omega⟩) hsn w0
            have hsl1 := hsl W4
            have hs1n : (s : Int) + 1 ≤ (n : Int) := by omega
            have hs1z : (0 : Int) ≤ (s : Int) + 1 := by omega
            have hsl2 := hsl (W4.drewN 1)
            have hzb := heapE_lt HSR.out.box
            clear hrd4 hrd5 hsr htk hixs hcapC hsl
            go_region_held3 (fun W' => W'.cell? ⟨w.heap.size, 0, none⟩ = some (.slice (some ⟨bo, oo, none⟩) n c1) ∧ W'.cell? ⟨w.heap.size, 1, none⟩ = some (.slice A2 n c2) ∧ W'.cell? ⟨w.heap.size, 2, none⟩ = some (.slice A3 n c3)) ((first | exact ⟨x0, x1, x2⟩ | exact ⟨z0, z1, z2⟩ | go_keep)) (first
              | (go_at_call 67; refine HI.out.mono ?_; rintro e w5 ⟨rfl, hb'⟩; (have hb : Below W4.heap.size W4 w5 := (Below.drewN' (Below.refl _ W4) 1).trans hb'); (have z0 := (hb.cell (p := ⟨w.heap.size, 0, none⟩) hzb).trans x0); (have z1 := (hb.cell (p := ⟨w.heap.size, 1, none⟩) hzb).trans x1); (have z2 := (hb.cell (p := ⟨w.heap.size, 2, none⟩) hzb).trans x2); (have HBW := Lib.hid hb); clear hb hb'))
            have HS5 := Lib.hid (HSR.out.kept HBW.out)
            have ht1 : (t : Int) + 1 = ((t + 1 : Nat) : Int) := by omega
            rw [ht1]
            clear z0 z1 z2 x0 x1 x2 hsl1 hsl2 htadd htb htb2 HI ht1
            cases hq : okV l ps (cs.take s) v with
            | false =>
              have HN := Lib.hid (HL.out.no HK.out (by rw [HNO.out]; exact hklt) (by rw [HOK.out]; exact hq) HBT.out)
              rw [HVV.out] at HN
              clear hq
              go_wp2_with fail
              go_step3
              refine ⟨.on _ _ _ s (t + 1) _ _ _ _ _ _ _ _ _ _ _ _ _ _ _ _ _ _ _ _ _ _ _ _ _ _ _ _ _ _ _ _ _ _ _ _ _ _ _ _ _ _ _ _ _ _ _ _ _ _ _ _ _ _ _ _ _ _ _ _ _ _ _ _ _ _ _ _ _ HS5.out HN.out, ?_⟩
              have := HMU.out
              have := HMR.out
              simp [muS, intOf]
              omega
            | true =>
              have HN := Lib.hid (HL.out.yes HK.out (by rw [HNO.out]; exact hklt) (by rw [HOK.out]; exact hq) HBT.out)
              rw [HVV.out] at HN
              clear hq
              have hs1 : IntKind.i64.wrap ((s : Int) + 1) = ((s + 1 : Nat) : Int) := by rw [hsadd]; omega
              clear hsadd
              go_wp2_with fail
              go_step3
              have hs9 : (s : Int) + 1 = ((s + 1 : Nat) : Int) := by omega
              rw [hs9]
              refine ⟨.dn _ _ _ (s + 1) (t + 1) _ _ _ _ _ _ _ _ _ _ _ _ _ _ _ _ _ _ _ _ _ _ _ _ _ _ _ _ _ _ _ _ _ _ _ _ _ _ _ _ _ _ _ _ _ _ _ _ _ _ _ _ _ _ _ _ _ _ _ _ _ _ _ _ _ _ _ _ _ HS5.out HN.out, ?_⟩
              have := HMU.out
              have := HMR.out
              simp [muS, intOf]
              omega
end Go.Proofs.YtlodledcglleiaaGreat

namespace Go.Proofs.YtlodledcglleiaaGreat
open Go.RowKit
open SemP DiP FlP GaP SeaP
set_option linter.unusedVariables false
set_option linter.unusedSimpArgs false
set_option maxRecDepth 10000
/-- What Solve hands back. -/
def SolPost (w w' : World) (e : Ending) (n : Nat) (x : List Int × Int) : Prop :=
  Below w.heap.size w w' ∧ ((x.2 = 0 ∧ x.1.length = n ∧ ∃ v, e = .returned (.tuple #[v, .int .i64 0]) ∧ Own w' w.heap.size v n x.1) ∨ (x.2 ≠ 0 ∧ x.1 = [] ∧ e = .returned (.tuple #[.slice none 0 0, .int .i64 x.2])))
set_option maxHeartbeats 8000000 in
theorem solve_any {w : World} {B B2 B3 n c m c2 np cp nm cm : Nat} {b : Int} {A A2 Aq Am : Option Addr} {l : List Sv} {vs : List Int} {ps : List Nd} {ms : List Int} (h : CatAt w B A n c l) (hck : (chkC l).2.2 = 0) (hv : Rd w B2 A2 m vs) (hB2 : B2 ≤ w.heap.size) (hq : ReqAt w B3 Aq np Am nm ps ms) :
    Calls Tryz.prog 16 #[.agg #[.slice A n c], .slice A2 m c2, .agg #[.slice Aq np cp, .slice Am nm cm], .int .i64 b] w fun e w' => SolPost w w' e l.length (solR l vs ps ms b) := by
  obtain ⟨W, HW⟩ : ∃ W, Hid (W = (w.alloc (.cells #[.slice A n c] 24)).alloc (.cells #[.slice Aq np cp, .slice Am nm cm] 46)) := ⟨_, Lib.hid rfl⟩
  have hbl : Below w.heap.size w W := by rw [HW.out]; exact ((Below.refl _ w).alloc (Nat.le_refl _) _).alloc (by simp) _
  have HBL := Lib.hid hbl
  have H0 : Hid (W.heap[w.heap.size]? = some (.cells #[.slice A n c] 24 (0, 0))) := Lib.hid (by
    rw [HW.out, Below.heap_alloc _ _ _ (by simp)]; exact heap_new w _)
  have H1 : Hid (W.heap[w.heap.size + 1]? = some (.cells #[.slice Aq np cp, .slice Am nm cm] 46 (0, 0))) := Lib.hid (by
    rw [HW.out]
    have h := heap_new (w.alloc (.cells #[.slice A n c] 24)) (.cells #[.slice Aq np cp, .slice Am nm cm] 46)
    rw [World.size_alloc] at h; exact h)
  have HQ := Lib.hid (hq.below hbl)
  have HA := Lib.hid (h.below hbl)
  have HV := Lib.hid (hv.below (hbl.mono hB2))
  have HB2 : Hid (B2 ≤ W.heap.size) := Lib.hid (Nat.le_trans hB2 hbl.size)
  have HNL : Hid (l.length = n) := Lib.hid h.rd.1
  have HVL : Hid (vs.length = m) := Lib.hid hv.len
  have HML : Hid (ms.length = nm) := Lib.hid hq.md.len
  have HCK := Lib.hid hck
  have HCH := Lib.hid (chk_any (c2 := c2) (cp := cp) (cm := cm) (h.below hbl) (ck_lev hck) (hv.below (hbl.mono hB2)) (Nat.le_trans hB2 hbl.size) (hq.below hbl))
  have hn16 := h.n16
  clear h hv hq hbl hck
  obtain ⟨x0, _⟩ := row1f H0.out
  obtain ⟨y0, y1, _⟩ := row2 H1.out
  go_enter Tryz.func16, Tryz.ntmps16
  go_upto_region 1 with fail
  change Code.wp _ _ _ _ ((w.alloc (.cells #[.slice A n c] 24)).alloc (.cells #[.slice Aq np cp, .slice Am nm cm] 46))
  rw [← HW.out]
  go_wp2_with fail
  refine HCH.out.mono ?_
  rintro e w1 ⟨rfl, hb⟩
  have HB1 : Hid (Below W.heap.size W w1) := Lib.hid hb
  have HW1 : Hid (Below w.heap.size w w1) := Lib.hid (HBL.out.trans (hb.mono HBL.out.size))
  have HQ1 := Lib.hid (HQ.out.below hb)
  have HA1 := Lib.hid (HA.out.below hb)
  have HV1 := Lib.hid (HV.out.below (hb.mono HB2.out))
  have K0 : Hid (w1.heap[w.heap.size]? = _) := Lib.hid ((hb.block w.heap.size (heapE_lt H0.out)).trans H0.out)
  have K1 : Hid (w1.heap[w.heap.size + 1]? = _) := Lib.hid ((hb.block (w.heap.size + 1) (heapE_lt H1.out)).trans H1.out)
  clear hb HCH x0 y0 y1
  obtain ⟨ck, HC⟩ : ∃ ck, Hid (chkR l vs ps ms = ck) := ⟨_, Lib.hid rfl⟩
  rw [HC.out]
  by_cases h0 : ck = 0
  rotate_left
  · have hne : (ck != 0) = true := by rw [bne_iff_ne]; exact h0
    have HS : Hid (solR l vs ps ms b = ([], ck)) := Lib.hid (by unfold solR; rw [HC.out, if_pos h0])
    have HN0 := Lib.hid h0
    clear h0
    go_wp2_with fail
    go_ret2
    refine ⟨HW1.out, .inr ?_⟩
    rw [HS.out]
    exact ⟨HN0.out, rfl, rfl⟩
  subst h0
  have HC0 := Lib.hid (chkR_ok HC.out)
  have HS1 : Hid (solR l vs ps ms b = if b < 1 ∨ 1048576 < b then (([] : List Int), (11 : Int)) else if b < ((dfs (okS l ps) (ordsL l ms vs) []).1 : Int) then (([] : List Int), (41 : Int)) else match (dfs (okS l ps) (ordsL l ms vs) []).2 with | some t => (t, (0 : Int)) | none => (([] : List Int), (40 : Int))) := Lib.hid (by unfold solR; rw [HC.out]; rfl)
  by_cases hb1 : b < 1
  · have d1 : decide (b < 1) = true := decide_eq_true hb1
    have HS : Hid (solR l vs ps ms b = (([] : List Int), (11 : Int))) := Lib.hid (by rw [HS1.out, if_pos (.inl hb1)])
    go_wp2_with fail
    go_ret2
    refine ⟨HW1.out, .inr ?_⟩
    rw [HS.out]
    exact ⟨by decide, rfl, rfl⟩
  have d1 : decide (b < 1) = false := decide_eq_false hb1
  by_cases hb2 : 1048576 < b
  · have d2 : decide (1048576 < b) = true := decide_eq_true hb2
    have HS : Hid (solR l vs ps ms b = (([] : List Int), (11 : Int))) := Lib.hid (by rw [HS1.out, if_pos (.inr hb2)])
    go_wp2_with fail
    go_ret2
    refine ⟨HW1.out, .inr ?_⟩
    rw [HS.out]
    exact ⟨by decide, rfl, rfl⟩
  have d2 : decide (1048576 < b) = false := decide_eq_false hb2
  have HS2 : Hid (solR l vs ps ms b = if b < ((dfs (okS l ps) (ordsL l ms vs) []).1 : Int) then (([] : List Int), (41 : Int)) else match (dfs (okS l ps) (ordsL l ms vs) []).2 with | some t => (t, (0 : Int)) | none => (([] : List Int), (40 : Int))) := Lib.hid (by rw [HS1.out, if_neg (by omega)])
  have HBB : Hid (1 ≤ b ∧ b ≤ 1048576) := Lib.hid ⟨by omega, by omega⟩
  obtain rfl : nm = n := by rw [← HML.out, ← HNL.out]; exact HC0.out.2.2.1
  have hmn : m = nm := by rw [← HVL.out, ← HNL.out]; exact (setB_iff.1 HC0.out.1).1
  subst hmn
  have HNF := Lib.hid (newField_any (c2 := c2) (cp := cp) (cm := cm) HA1.out (ck_rels HCK.out) HV1.out (Nat.le_trans HB2.out HB1.out.size) HQ1.out HC0.out.1 HC0.out.2.2.2.1)
  obtain ⟨x0, _⟩ := row1f K0.out
  obtain ⟨y0, y1, _⟩ := row2 K1.out
  clear hb1 hb2 HS1
  go_wp2_with fail
  refine HNF.out.mono ?_
  rintro e w2 ⟨F1, F2, F3, f1, f2, f3, rfl, hfr, hb⟩
  have HW2 : Hid (Below w.heap.size w w2) := Lib.hid (HW1.out.trans (hb.mono HW1.out.size))
  obtain ⟨X, HX⟩ : ∃ X, Hid (X = w2.alloc (.cells #[.slice F1 m f1, .slice F2 m f2, .slice F3 m f3] 113)) := ⟨_, Lib.hid rfl⟩
  have hbX : Below w2.heap.size w2 X := by rw [HX.out]; exact (Below.refl _ w2).alloc (Nat.le_refl _) _
  have HX0 : Hid (X.heap[w2.heap.size]? = some (.cells #[.slice F1 m f1, .slice F2 m f2, .slice F3 m f3] 113 (0, 0))) := Lib.hid (by rw [HX.out]; exact heap_new w2 _)
  have HWX : Hid (Below w.heap.size w X) := Lib.hid (HW2.out.trans (hbX.mono HW2.out.size))
  have hfX := hfr.below hbX
  have hord : ordsK l ms vs m = ordsL l ms vs := by unfold ordsL; rw [HNL.out]
  rw [hord] at hfX
  have HSE := Lib.hid (search_any (c1 := f1) (c2 := f2) (c3 := f3) hfX HNL.out hn16 (ck_rels HCK.out) (fun i hi v hv => by
    unfold ordsL at hv
    rw [ordsK_at l ms vs (by rw [HNL.out]; exact hi)] at hv
    exact ordV_mem (ck_rels HCK.out) HC0.out.1 HC0.out.2.2.2.1 HC0.out.2.2.1 (by rw [HNL.out]; exact hi) hv) (fun i hi => by
    unfold ordsL
    rw [ordsK_at l ms vs (by rw [HNL.out]; exact hi), ordV_len (ck_rels HCK.out) HC0.out.1 HC0.out.2.2.2.1 HC0.out.2.2.1 (by rw [HNL.out]; exact hi)]
    exact ck_rels HCK.out _ (svAt_mem (by rw [HNL.out]; exact hi))) HBB.out.1 HBB.out.2)
  clear hb hbX hfX hfr HNF x0 y0 y1 hord
  go_upto_region 7 with fail
  change Code.wp _ _ _ _ (w2.alloc (.cells #[.slice F1 m f1, .slice F2 m f2, .slice F3 m f3] 113))
  rw [← HX.out]
  obtain ⟨x0, x1, x2, _⟩ := row3 HX0.out
  go_wp2_with fail
  refine HSE.out.mono ?_
  rintro e w3 ⟨hb, ho⟩
  have HW3 : Hid (Below w.heap.size w w3) := Lib.hid (HWX.out.trans (hb.mono HWX.out.size))
  have HZX : Hid (w.heap.size ≤ X.heap.size) := Lib.hid HWX.out.size
  clear hb HSE x0 x1 x2
  rcases ho with ⟨hT, t, v, hR, rfl, hown⟩ | ⟨hT, hR, rfl⟩ | ⟨hT, rfl⟩
  · have HS : Hid (solR l vs ps ms b = (t, 0)) := Lib.hid (by rw [HS2.out, if_neg (by omega), hR])
    have HO := Lib.hid hown
    clear hT hR hown
    go_wp2_with fail
    go_ret2
    refine ⟨HW3.out, .inl ?_⟩
    rw [HS.out]
    exact ⟨rfl, by rw [HO.out.len, HNL.out], v, rfl, by rw [HNL.out]; exact HO.out.less HZX.out⟩
  · have HS : Hid (solR l vs ps ms b = (([] : List Int), (40 : Int))) := Lib.hid (by rw [HS2.out, if_neg (by omega), hR])
    clear hT hR
    go_wp2_with fail
    go_ret2
    refine ⟨HW3.out, .inr ?_⟩
    rw [HS.out]
    exact ⟨by decide, rfl, rfl⟩
  · have HS : Hid (solR l vs ps ms b = (([] : List Int), (41 : Int))) := Lib.hid (by rw [HS2.out, if_pos hT])
    clear hT
    go_wp2_with fail
    go_ret2
    refine ⟨HW3.out, .inr ?_⟩
    rw [HS.out]
    exact ⟨by decide, rfl, rfl⟩
end Go.Proofs.YtlodledcglleiaaGreat
