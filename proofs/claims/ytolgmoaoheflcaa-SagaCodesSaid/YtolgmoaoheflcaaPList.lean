/-
  CONTRACTS of the program's reader of layer 12: lists of pairs.
-/
import Derived.Test.YtolgmoaoheflcaaPGet
namespace Go.Proofs.Ytolgmoaoheflcaa
open Go.RowKit
open ByteP CodeP
set_option linter.unusedVariables false
set_option maxRecDepth 10000

def rdP : Nat → List Int → Sum Int (List (Nat × Nat) × List Int)
  | 0, r => .inr ([], r)
  | n + 1, r => match rd2 r with
    | .inl e => .inl e
    | .inr (p, r1) => match rdP n r1 with
      | .inl e => .inl e
      | .inr (l, r2) => .inr (p :: l, r2)
def lstP (r : List Int) : Sum Int (List (Nat × Nat) × List Int) :=
  match cnt r with
  | .inl e => .inl e
  | .inr (n, r1) => rdP n r1
theorem rd2_le {r : List Int} {e : Int} (h : rd2 r = .inl e) : e = 12 ∨ e = 13 := by
  unfold rd2 at h
  split at h
  · next e' he => injection h with h; rw [← h]; exact num_err he
  · split at h
    · next e' he => injection h with h; rw [← h]; exact num_err he
    · cases h
theorem rd2_parts {r r2 : List Int} {p : Nat × Nat} (h : rd2 r = .inr (p, r2)) : ∃ r1, num r = .inr (p.1, r1) ∧ num r1 = .inr (p.2, r2) := by
  unfold rd2 at h
  split at h
  · cases h
  · next x r1 hx =>
    split at h
    · cases h
    · next y r3 hy =>
      injection h with h
      injection h with h1 h2
      subst h1 h2
      exact ⟨r1, hx, hy⟩
theorem rd2_bytes {r r2 : List Int} {p : Nat × Nat} (hb : Bytes r) (h : rd2 r = .inr (p, r2)) : Bytes r2 ∧ r2.length ≤ r.length := by
  obtain ⟨r1, h1, h2⟩ := rd2_parts h
  have b1 := num_bytes hb h1
  exact ⟨num_bytes b1 h2, Nat.le_trans (rest_len b1 h2) (rest_len hb h1)⟩
/-- More in front. -/
def contP (l : List (Nat × Nat)) (res : Sum Int (List (Nat × Nat) × List Int)) : Sum Int (List (Nat × Nat) × List Int) :=
  match res with
  | .inl e => .inl e
  | .inr (m, r) => .inr (l ++ m, r)
theorem contP_nil (res : Sum Int (List (Nat × Nat) × List Int)) : contP [] res = res := by
  unfold contP
  split
  · rfl
  · simp
theorem contP_contP (l : List (Nat × Nat)) (x : Nat × Nat) (res : Sum Int (List (Nat × Nat) × List Int)) : contP l (contP [x] res) = contP (l ++ [x]) res := by
  cases res with
  | inl e => rfl
  | inr p => simp [contP]
theorem rdP_step {n : Nat} {r : List Int} {x : Nat × Nat} {r1 : List Int} (h : rd2 r = .inr (x, r1)) : rdP (n + 1) r = contP [x] (rdP n r1) := by
  rw [rdP, h]
  simp only
  unfold contP
  split <;> simp_all
theorem rdP_err {n : Nat} {r : List Int} {e : Int} (h : rd2 r = .inl e) : rdP (n + 1) r = .inl e := by rw [rdP, h]
def pcells : List (Nat × Nat) → List Value
  | [] => []
  | e :: r => .int .i64 (e.1 : Int) :: .int .i64 (e.2 : Int) :: pcells r
theorem pcells_len (l : List (Nat × Nat)) : (pcells l).length = l.length * 2 := by
  induction l with
  | nil => rfl
  | cons e r ih => simp [pcells, ih]; omega
theorem pcells_append (l r : List (Nat × Nat)) : pcells (l ++ r) = pcells l ++ pcells r := by
  induction l with
  | nil => rfl
  | cons e l ih => simp [pcells, ih]
/-- The slice value v, of pairs of type E, made by the call itself, reads as l. -/
def OwnP (E : TypeId) (w : World) (base : Nat) (v : Value) (l : List (Nat × Nat)) : Prop := w.ownsRow base E 2 v l.length (pcells l)
section
variable {E : TypeId} {w w' : World} {base : Nat} {v : Value} {l : List (Nat × Nat)}
theorem OwnP.nil_ (E : TypeId) (w : World) (base : Nat) : OwnP E w base (.slice none 0 0) [] := World.ownsRow_nil _ _ _ _
theorem OwnP.shape (h : OwnP E w base v l) : ∃ A c, v = .slice A l.length c := by
  rcases h.2 with ⟨rfl, h0⟩ | ⟨g, cap, cur, rfl, _⟩
  · exact ⟨none, 0, by rw [h0]⟩
  · exact ⟨some ⟨g, 0, none⟩, cap, rfl⟩
theorem OwnP.ge (h : OwnP E w base v l) : ∀ g, v.ownBlock = some g → base ≤ g := by
  intro g hg
  rcases h.2 with ⟨rfl, _⟩ | ⟨g', cap, cur, rfl, hb, _⟩
  · cases hg
  · have : g' = g := by simpa [Value.ownBlock] using hg
    omega
theorem OwnP.alloc (h : OwnP E w base v l) (o : Obj) : OwnP E (w.alloc o) base v l := World.ownsRow.alloc h o
theorem OwnP.kept (h : OwnP E w base v l) {row : Option Nat} (hg : w.grownBy w' row) (hn : ∀ g, v.ownBlock = some g → row ≠ some g) : OwnP E w' base v l := World.ownsRow.kept h hg (by
  cases hv : v.ownBlock with
  | none => exact .inl rfl
  | some g => right; intro e; exact hn g hv e.symm)
theorem OwnP.less {base' : Nat} (h : OwnP E w base v l) (hb : base' ≤ base) : OwnP E w' base v l ∨ OwnP E w base' v l := by
  right
  refine ⟨h.1, ?_⟩
  rcases h.2 with h | ⟨g, cap, cur, hv, hg, r⟩
  · exact .inl h
  · exact .inr ⟨g, cap, cur, hv, by omega, r⟩
end
theorem grown_new {w w1 w2 : World} {rb : Nat} {row : Option Nat} (h : w.grownBy w1 (some rb)) (k : w1.grownBy w2 row) (hn : ∀ g, row = some g → w.heap.size ≤ g) : w.grownBy w2 (some rb) :=
  ⟨k.os.trans h.os, k.tape.trans h.tape, k.output.trans h.output, Nat.le_trans h.size k.size, fun b hb hr => by
    rw [k.block b (Nat.lt_of_lt_of_le hb h.size) (fun e => by have := hn b e.symm; omega)]
    exact h.block b hb hr⟩
/-- What getList leaves. -/
def LpP (E : TypeId) (w0 w : World) (rb B : Nat) (res : Sum Int (List (Nat × Nat) × List Int)) (v : Value) : Prop :=
  w0.grownBy w (some rb) ∧ match res with
    | .inl e => v = .slice none 0 0 ∧ ∃ r, Rdr w rb B r e
    | .inr (l, r) => OwnP E w w0.heap.size v l ∧ Rdr w rb B r 0

theorem infoPairS : (Try.prog.info? 71).map (fun i => (i.zero, i.size, i.bytes)) = some (some (.agg #[.int .i64 0, .int .i64 0]), 2, 16) := by kernel_rfl
/-- 'append(s, x)', s the call's own: s grows by one pair. -/
theorem wpl_appS {w : World} {ops : Array Oper} {rest : List Oper} {o : Oper} {a : Act} {Q : Exit → Act → World → Prop} (hgd : o.guard = none) (s x : Operand)
    (ho : o.op = .call { callee := .builtin .append, args := #[s, x], argTypes := #[26, 26] })
    (base : Nat) (v : Value) (l : List (Nat × Nat)) (hs : a.eval s = v) (hown : OwnP 71 w base v l)
    (b p q : Nat) (hx : a.eval x = .slice (some ⟨b, 0, none⟩) 1 1) (hc0 : w.cell? ⟨b, 0, none⟩ = some (.int .i64 (p : Int))) (hc1 : w.cell? ⟨b, 1, none⟩ = some (.int .i64 (q : Int))) (hn : l.length ≤ 1099511627776) (hbase : base ≤ w.heap.size)
    (h : ∀ g c w', OwnP 71 w' base (.slice (some ⟨g, 0, none⟩) (l.length + 1) c) (l ++ [(p, q)]) → w.grownBy w' v.ownBlock → wpList Try.prog ops Q rest (a.put o.dst (.slice (some ⟨g, 0, none⟩) (l.length + 1) c)) w') :
    wpList Try.prog ops Q (o :: rest) a w := by
  obtain ⟨i0, hi, hz0, hz1, hz2⟩ := info_parts infoPairS
  refine wpList_append_own_at w hgd s x 26 ho base 71 i0 (.agg #[.int .i64 0, .int .i64 0]) 2 16 Try.underlying26 hi hz0 hz1 hz2 rfl (by decide) v l.length _ hs hown ⟨b, 0, none⟩ 1 1 [.int .i64 (p : Int), .int .i64 (q : Int)] hx rfl ?_ ?_ (by unfold maxLen; omega) (by omega) hbase ?_
  · intro j z hj
    match j, hj with
    | 0, hj => simp at hj; subst hj; simpa [Addr.add] using hc0
    | 1, hj => simp at hj; subst hj; simpa [Addr.add] using hc1
  · intro z hz
    simp at hz
    rcases hz with rfl | rfl <;> rfl
  · intro v' w' hown' hg _ hat
    have ho' : w'.ownsRow base 71 2 v' (l ++ [(p, q)]).length (pcells (l ++ [(p, q)])) := by
      rw [pcells_append, List.length_append]; exact hown'
    obtain ⟨g, c, hv, _, _⟩ := World.ownsRow.form ho' (by simp)
    rw [List.length_append] at hv
    have hv' : v' = .slice (some ⟨g, 0, none⟩) (l.length + 1) c := hv
    subst hv'
    exact h g c w' ho' hg
set_option maxHeartbeats 2000000 in
theorem getListS_any {w : World} {rb B : Nat} {rest : List Int} (h : Rdr w rb B rest 0) (hb : Bytes rest) (hl : rest.length ≤ 1000000000) :
    Calls Try.prog 61 #[.pointer (some ⟨rb, 0, none⟩), .func (.func 62) #[.pointer (some ⟨rb, 0, none⟩)] #[]] w fun en w' => ∃ A n c, en = .returned (.slice A n c) ∧ LpP 71 w w' rb B (lstP rest) (.slice A n c) := by
  have H := Lib.hid (count_any h hb hl)
  have HBY := Lib.hid hb
  have hrl := h.here
  clear h hb
  go_enter Try.func61, Try.ntmps61
  go_wp2_with fail
  refine H.out.mono ?_
  rintro en w1 ⟨n, rfl, hn⟩
  cases hres : cnt rest with
  | inl e =>
    rw [hres] at hn
    obtain ⟨hg, rfl, r, hrd⟩ := hn
    have HF : Hid (LpP 71 w w1 rb B (lstP rest) (.slice none 0 0)) := Lib.hid (by
      have e2 : lstP rest = .inl e := by unfold lstP; rw [hres]
      rw [e2]
      exact ⟨hg, rfl, r, hrd⟩)
    clear hg hrd hres
    go_wp2
    refine wp_loop_rounds 1 ?_
    rw [rounds_succ]
    go_wp2
    go_ret
    exact ⟨none, 0, 0, rfl, HF.out⟩
  | inr p =>
    obtain ⟨m, r0⟩ := p
    rw [hres] at hn
    obtain ⟨hg, rfl, hrd⟩ := hn
    obtain ⟨hnum, hm⟩ := cnt_ok hres
    have HRD := Lib.hid hrd
    have HB1 : Hid (w.grownBy w1 (some rb)) := Lib.hid hg
    have HBY0 := Lib.hid (num_bytes HBY.out hnum)
    have hrl1 := rest_len HBY.out hnum
    have HL : Hid (lstP rest = rdP m r0) := Lib.hid (by unfold lstP; rw [hres])
    have hz1 := hg.size
    clear hg hrd hres hnum
    go_wp2
    go_loopw [5, 6, 9] (fun v5 _ v9 wr => ∃ (j : Nat) (l : List (Nat × Nat)) (r : List Int) (A : Option Addr) (c : Nat), j ≤ m ∧ v9 = .int .i64 (j : Int) ∧ v5 = .slice A j c ∧ Hid (OwnP 71 wr w.heap.size (.slice A j c) l) ∧ Hid (l.length = j) ∧ Hid (Rdr wr rb B r 0) ∧ Hid (Bytes r) ∧ r.length ≤ 1000000000 ∧ Hid (contP l (rdP (m - j) r) = rdP m r0) ∧ Hid (w.grownBy wr (some rb)) ∧ rb < wr.heap.size) (fun _ _ v _ => m - (intOf v).toNat)
    case atStart => exact ⟨0, [], r0, none, 0, Nat.zero_le _, rfl, rfl, Lib.hid (OwnP.nil_ _ _ _), Lib.hid rfl, HRD, HBY0, by omega, Lib.hid (by rw [contP_nil]; rfl), HB1, by omega⟩
    case round =>
      obtain ⟨j, l, r, A, c, hj, rfl, rfl, HO, HLE, HR, HBR, hrlen, HN, HB, hlt⟩ := hrel
      by_cases hjm : j < m
      · have hd : decide ((j : Int) < (m : Int)) = true := by simp; omega
        have hadd : IntKind.i64.wrap ((j : Int) + 1) = ((j + 1 : Nat) : Int) := by rw [IntWalk.i64_in _ (by omega)]; omega
        have HNG := Lib.hid (stepR_go HR.out HBR.out)
        go_wp2_with fail
        refine HNG.out.mono ?_
        rintro en w2 ⟨x, y, rfl, hx⟩
        clear HNG
        cases hres : rd2 r with
        | inl e =>
          obtain ⟨hg, hx2⟩ := hx
          rw [hres] at hx2
          obtain ⟨r2, hrd⟩ := hx2
          have he := rd2_le hres
          have hne : (e != 0) = true := by rcases he with h | h <;> subst h <;> rfl
          have HF : Hid (LpP 71 w (w2.alloc (.cells #[.int .i64 x, .int .i64 y] 71)) rb B (lstP rest) (.slice none 0 0)) := Lib.hid (by
            have e2 : lstP rest = .inl e := by
              rw [HL.out, ← HN.out, show m - j = (m - j - 1) + 1 by omega, rdP_err hres]; rfl
            rw [e2]
            exact ⟨grown_add (grown_add HB.out hg) (grown_alloc1 w2 _ _), rfl, r2, hrd.alloc _⟩)
          obtain ⟨A', c', hrow, _, _⟩ := (hrd.alloc (.cells #[.int .i64 x, .int .i64 y] 71)).row
          obtain ⟨hc0, hc1, _, _⟩ := row2 hrow
          clear hg hrd hres hrow he
          go_wp2
          go_ret
          exact ⟨none, 0, 0, rfl, HF.out⟩
        | inr p =>
          obtain ⟨⟨p, q⟩, r2⟩ := p
          obtain ⟨hg, hx2⟩ := hx
          rw [hres] at hx2
          obtain ⟨rfl, rfl, hrd⟩ := hx2
          have HRD2 := Lib.hid hrd
          have HB2 : Hid (w.grownBy w2 (some rb)) := Lib.hid (grown_add HB.out hg)
          have hzz := HB2.out.size
          have HO2 : Hid (OwnP 71 w2 w.heap.size (.slice A j c) l) := Lib.hid (HO.out.kept hg (fun g hg' e => by injection e with e; have := HO.out.ge g hg'; omega))
          have HBR2 := Lib.hid (rd2_bytes HBR.out hres).1
          have hrl2 := (rd2_bytes HBR.out hres).2
          have HN2 : Hid (contP (l ++ [(p, q)]) (rdP (m - (j + 1)) r2) = rdP m r0) := Lib.hid (by
            rw [← HN.out, show m - j = (m - (j + 1)) + 1 by omega, rdP_step hres, contP_contP])
          have hlt2 := hrd.here
          have hb1 := heap_new (w2.alloc (.cells #[.int .i64 (p : Int), .int .i64 (q : Int)] 71)) (.cells #[.int .i64 (p : Int), .int .i64 (q : Int)] 71)
          have hsz : (w2.alloc (.cells #[.int .i64 (p : Int), .int .i64 (q : Int)] 71)).heap.size = w2.heap.size + 1 := by simp
          rw [hsz] at hb1
          obtain ⟨d0, d1, _, _⟩ := row2 hb1
          have HD0 := Lib.hid d0
          have HD1 := Lib.hid d1
          obtain ⟨A', c', hrow, _, _⟩ := (hrd.alloc (.cells #[.int .i64 (p : Int), .int .i64 (q : Int)] 71)).row
          obtain ⟨hc0, hc1, _, _⟩ := row2 hrow
          have HLN := HLE.out
          clear hg hrd hres hrow hb1 d0 d1
          go_wp2_with (at_builtin; refine wpl_appS rfl (.tmp 18) (.tmp 20) rfl w.heap.size (.slice A j c) l rfl ((HO2.out.alloc _).alloc _) (w2.heap.size + 1) p q rfl HD0.out HD1.out (by omega) (by simp; omega) ?_; intro g c2 w3 hown3 hgr3)
          have HO3 : Hid (OwnP 71 w3 w.heap.size (.slice (some ⟨g, 0, none⟩) (l.length + 1) c2) (l ++ [(p, q)])) := Lib.hid hown3
          have HR3 : Hid (Rdr w3 rb B r2 0) := Lib.hid (((HRD2.out.alloc _).alloc _).grown hgr3 (fun g hg => by have := HO2.out.ge g hg; omega))
          have HB3 : Hid (w.grownBy w3 (some rb)) := Lib.hid (grown_new (grown_add (grown_add HB2.out (grown_alloc1 w2 _ _)) (grown_alloc1 _ _ _)) hgr3 (fun g hg => HO2.out.ge g hg))
          have hz3 := hgr3.size
          have hlt3 : rb < w3.heap.size := by simp at hz3; omega
          rw [HLN] at HO3
          clear hown3 hgr3 hz3
          go_roundw
          case rel => exact ⟨j + 1, l ++ [(p, q)], r2, some ⟨g, 0, none⟩, c2, by omega, rfl, rfl, HO3, Lib.hid (by rw [List.length_append, HLE.out]; rfl), HR3, HBR2, by omega, HN2, HB3, hlt3⟩
          case measure => simp [intOf]; omega
      · have hd : decide ((j : Int) < (m : Int)) = false := by simp; omega
        obtain rfl : j = m := by omega
        have HF : Hid (LpP 71 w wr rb B (lstP rest) (.slice A j c)) := Lib.hid (by
          have e2 : lstP rest = .inr (l, r) := by
            rw [HL.out, ← HN.out, Nat.sub_self]
            simp [rdP, contP]
          rw [e2]
          exact ⟨HB.out, HO.out, HR.out⟩)
        go_wp2
        go_ret
        exact ⟨A, _, c, rfl, HF.out⟩

theorem infoPairE : (Try.prog.info? 90).map (fun i => (i.zero, i.size, i.bytes)) = some (some (.agg #[.int .i64 0, .int .i64 0]), 2, 16) := by kernel_rfl
/-- 'append(s, x)', s the call's own: s grows by one pair. -/
theorem wpl_appE {w : World} {ops : Array Oper} {rest : List Oper} {o : Oper} {a : Act} {Q : Exit → Act → World → Prop} (hgd : o.guard = none) (s x : Operand)
    (ho : o.op = .call { callee := .builtin .append, args := #[s, x], argTypes := #[27, 27] })
    (base : Nat) (v : Value) (l : List (Nat × Nat)) (hs : a.eval s = v) (hown : OwnP 90 w base v l)
    (b p q : Nat) (hx : a.eval x = .slice (some ⟨b, 0, none⟩) 1 1) (hc0 : w.cell? ⟨b, 0, none⟩ = some (.int .i64 (p : Int))) (hc1 : w.cell? ⟨b, 1, none⟩ = some (.int .i64 (q : Int))) (hn : l.length ≤ 1099511627776) (hbase : base ≤ w.heap.size)
    (h : ∀ g c w', OwnP 90 w' base (.slice (some ⟨g, 0, none⟩) (l.length + 1) c) (l ++ [(p, q)]) → w.grownBy w' v.ownBlock → wpList Try.prog ops Q rest (a.put o.dst (.slice (some ⟨g, 0, none⟩) (l.length + 1) c)) w') :
    wpList Try.prog ops Q (o :: rest) a w := by
  obtain ⟨i0, hi, hz0, hz1, hz2⟩ := info_parts infoPairE
  refine wpList_append_own_at w hgd s x 27 ho base 90 i0 (.agg #[.int .i64 0, .int .i64 0]) 2 16 Try.underlying27 hi hz0 hz1 hz2 rfl (by decide) v l.length _ hs hown ⟨b, 0, none⟩ 1 1 [.int .i64 (p : Int), .int .i64 (q : Int)] hx rfl ?_ ?_ (by unfold maxLen; omega) (by omega) hbase ?_
  · intro j z hj
    match j, hj with
    | 0, hj => simp at hj; subst hj; simpa [Addr.add] using hc0
    | 1, hj => simp at hj; subst hj; simpa [Addr.add] using hc1
  · intro z hz
    simp at hz
    rcases hz with rfl | rfl <;> rfl
  · intro v' w' hown' hg _ hat
    have ho' : w'.ownsRow base 90 2 v' (l ++ [(p, q)]).length (pcells (l ++ [(p, q)])) := by
      rw [pcells_append, List.length_append]; exact hown'
    obtain ⟨g, c, hv, _, _⟩ := World.ownsRow.form ho' (by simp)
    rw [List.length_append] at hv
    have hv' : v' = .slice (some ⟨g, 0, none⟩) (l.length + 1) c := hv
    subst hv'
    exact h g c w' ho' hg
set_option maxHeartbeats 2000000 in
theorem getListE_any {w : World} {rb B : Nat} {rest : List Int} (h : Rdr w rb B rest 0) (hb : Bytes rest) (hl : rest.length ≤ 1000000000) :
    Calls Try.prog 63 #[.pointer (some ⟨rb, 0, none⟩), .func (.func 64) #[.pointer (some ⟨rb, 0, none⟩)] #[]] w fun en w' => ∃ A n c, en = .returned (.slice A n c) ∧ LpP 90 w w' rb B (lstP rest) (.slice A n c) := by
  have H := Lib.hid (count_any h hb hl)
  have HBY := Lib.hid hb
  have hrl := h.here
  clear h hb
  go_enter Try.func63, Try.ntmps63
  go_wp2_with fail
  refine H.out.mono ?_
  rintro en w1 ⟨n, rfl, hn⟩
  cases hres : cnt rest with
  | inl e =>
    rw [hres] at hn
    obtain ⟨hg, rfl, r, hrd⟩ := hn
    have HF : Hid (LpP 90 w w1 rb B (lstP rest) (.slice none 0 0)) := Lib.hid (by
      have e2 : lstP rest = .inl e := by unfold lstP; rw [hres]
      rw [e2]
      exact ⟨hg, rfl, r, hrd⟩)
    clear hg hrd hres
    go_wp2
    refine wp_loop_rounds 1 ?_
    rw [rounds_succ]
    go_wp2
    go_ret
    exact ⟨none, 0, 0, rfl, HF.out⟩
  | inr p =>
    obtain ⟨m, r0⟩ := p
    rw [hres] at hn
    obtain ⟨hg, rfl, hrd⟩ := hn
    obtain ⟨hnum, hm⟩ := cnt_ok hres
    have HRD := Lib.hid hrd
    have HB1 : Hid (w.grownBy w1 (some rb)) := Lib.hid hg
    have HBY0 := Lib.hid (num_bytes HBY.out hnum)
    have hrl1 := rest_len HBY.out hnum
    have HL : Hid (lstP rest = rdP m r0) := Lib.hid (by unfold lstP; rw [hres])
    have hz1 := hg.size
    clear hg hrd hres hnum
    go_wp2
    go_loopw [5, 6, 9] (fun v5 _ v9 wr => ∃ (j : Nat) (l : List (Nat × Nat)) (r : List Int) (A : Option Addr) (c : Nat), j ≤ m ∧ v9 = .int .i64 (j : Int) ∧ v5 = .slice A j c ∧ Hid (OwnP 90 wr w.heap.size (.slice A j c) l) ∧ Hid (l.length = j) ∧ Hid (Rdr wr rb B r 0) ∧ Hid (Bytes r) ∧ r.length ≤ 1000000000 ∧ Hid (contP l (rdP (m - j) r) = rdP m r0) ∧ Hid (w.grownBy wr (some rb)) ∧ rb < wr.heap.size) (fun _ _ v _ => m - (intOf v).toNat)
    case atStart => exact ⟨0, [], r0, none, 0, Nat.zero_le _, rfl, rfl, Lib.hid (OwnP.nil_ _ _ _), Lib.hid rfl, HRD, HBY0, by omega, Lib.hid (by rw [contP_nil]; rfl), HB1, by omega⟩
    case round =>
      obtain ⟨j, l, r, A, c, hj, rfl, rfl, HO, HLE, HR, HBR, hrlen, HN, HB, hlt⟩ := hrel
      by_cases hjm : j < m
      · have hd : decide ((j : Int) < (m : Int)) = true := by simp; omega
        have hadd : IntKind.i64.wrap ((j : Int) + 1) = ((j + 1 : Nat) : Int) := by rw [IntWalk.i64_in _ (by omega)]; omega
        have HNG := Lib.hid (pairR_go HR.out HBR.out)
        go_wp2_with fail
        refine HNG.out.mono ?_
        rintro en w2 ⟨x, y, rfl, hx⟩
        clear HNG
        cases hres : rd2 r with
        | inl e =>
          obtain ⟨hg, hx2⟩ := hx
          rw [hres] at hx2
          obtain ⟨r2, hrd⟩ := hx2
          have he := rd2_le hres
          have hne : (e != 0) = true := by rcases he with h | h <;> subst h <;> rfl
          have HF : Hid (LpP 90 w (w2.alloc (.cells #[.int .i64 x, .int .i64 y] 90)) rb B (lstP rest) (.slice none 0 0)) := Lib.hid (by
            have e2 : lstP rest = .inl e := by
              rw [HL.out, ← HN.out, show m - j = (m - j - 1) + 1 by omega, rdP_err hres]; rfl
            rw [e2]
            exact ⟨grown_add (grown_add HB.out hg) (grown_alloc1 w2 _ _), rfl, r2, hrd.alloc _⟩)
          obtain ⟨A', c', hrow, _, _⟩ := (hrd.alloc (.cells #[.int .i64 x, .int .i64 y] 90)).row
          obtain ⟨hc0, hc1, _, _⟩ := row2 hrow
          clear hg hrd hres hrow he
          go_wp2
          go_ret
          exact ⟨none, 0, 0, rfl, HF.out⟩
        | inr p =>
          obtain ⟨⟨p, q⟩, r2⟩ := p
          obtain ⟨hg, hx2⟩ := hx
          rw [hres] at hx2
          obtain ⟨rfl, rfl, hrd⟩ := hx2
          have HRD2 := Lib.hid hrd
          have HB2 : Hid (w.grownBy w2 (some rb)) := Lib.hid (grown_add HB.out hg)
          have hzz := HB2.out.size
          have HO2 : Hid (OwnP 90 w2 w.heap.size (.slice A j c) l) := Lib.hid (HO.out.kept hg (fun g hg' e => by injection e with e; have := HO.out.ge g hg'; omega))
          have HBR2 := Lib.hid (rd2_bytes HBR.out hres).1
          have hrl2 := (rd2_bytes HBR.out hres).2
          have HN2 : Hid (contP (l ++ [(p, q)]) (rdP (m - (j + 1)) r2) = rdP m r0) := Lib.hid (by
            rw [← HN.out, show m - j = (m - (j + 1)) + 1 by omega, rdP_step hres, contP_contP])
          have hlt2 := hrd.here
          have hb1 := heap_new (w2.alloc (.cells #[.int .i64 (p : Int), .int .i64 (q : Int)] 90)) (.cells #[.int .i64 (p : Int), .int .i64 (q : Int)] 90)
          have hsz : (w2.alloc (.cells #[.int .i64 (p : Int), .int .i64 (q : Int)] 90)).heap.size = w2.heap.size + 1 := by simp
          rw [hsz] at hb1
          obtain ⟨d0, d1, _, _⟩ := row2 hb1
          have HD0 := Lib.hid d0
          have HD1 := Lib.hid d1
          obtain ⟨A', c', hrow, _, _⟩ := (hrd.alloc (.cells #[.int .i64 (p : Int), .int .i64 (q : Int)] 90)).row
          obtain ⟨hc0, hc1, _, _⟩ := row2 hrow
          have HLN := HLE.out
          clear hg hrd hres hrow hb1 d0 d1
          go_wp2_with (at_builtin; refine wpl_appE rfl (.tmp 18) (.tmp 20) rfl w.heap.size (.slice A j c) l rfl ((HO2.out.alloc _).alloc _) (w2.heap.size + 1) p q rfl HD0.out HD1.out (by omega) (by simp; omega) ?_; intro g c2 w3 hown3 hgr3)
          have HO3 : Hid (OwnP 90 w3 w.heap.size (.slice (some ⟨g, 0, none⟩) (l.length + 1) c2) (l ++ [(p, q)])) := Lib.hid hown3
          have HR3 : Hid (Rdr w3 rb B r2 0) := Lib.hid (((HRD2.out.alloc _).alloc _).grown hgr3 (fun g hg => by have := HO2.out.ge g hg; omega))
          have HB3 : Hid (w.grownBy w3 (some rb)) := Lib.hid (grown_new (grown_add (grown_add HB2.out (grown_alloc1 w2 _ _)) (grown_alloc1 _ _ _)) hgr3 (fun g hg => HO2.out.ge g hg))
          have hz3 := hgr3.size
          have hlt3 : rb < w3.heap.size := by simp at hz3; omega
          rw [HLN] at HO3
          clear hown3 hgr3 hz3
          go_roundw
          case rel => exact ⟨j + 1, l ++ [(p, q)], r2, some ⟨g, 0, none⟩, c2, by omega, rfl, rfl, HO3, Lib.hid (by rw [List.length_append, HLE.out]; rfl), HR3, HBR2, by omega, HN2, HB3, hlt3⟩
          case measure => simp [intOf]; omega
      · have hd : decide ((j : Int) < (m : Int)) = false := by simp; omega
        obtain rfl : j = m := by omega
        have HF : Hid (LpP 90 w wr rb B (lstP rest) (.slice A j c)) := Lib.hid (by
          have e2 : lstP rest = .inr (l, r) := by
            rw [HL.out, ← HN.out, Nat.sub_self]
            simp [rdP, contP]
          rw [e2]
          exact ⟨HB.out, HO.out, HR.out⟩)
        go_wp2
        go_ret
        exact ⟨A, _, c, rfl, HF.out⟩
/-- What a list of numbers leaves. -/
def LsgP (w0 w : World) (rb B : Nat) (res : Sum Int (List Nat × List Int)) (v : Value) : Prop :=
  w0.grownBy w (some rb) ∧ match res with
    | .inl e => v = .slice none 0 0 ∧ ∃ r, Rdr w rb B r e
    | .inr (l, r) => Own w w0.heap.size v l.length (casts l) ∧ Rdr w rb B r 0
set_option maxHeartbeats 2000000 in
theorem getIntsG_any {w : World} {rb B : Nat} {rest : List Int} (h : Rdr w rb B rest 0) (hb : Bytes rest) (hl : rest.length ≤ 1000000000) :
    Calls Try.prog 78 #[.pointer (some ⟨rb, 0, none⟩), .func (.func 79) #[.pointer (some ⟨rb, 0, none⟩)] #[]] w fun en w' => ∃ A n c, en = .returned (.slice A n c) ∧ LsgP w w' rb B (lst rest) (.slice A n c) := by
  have H := Lib.hid (count_any h hb hl)
  have HBY := Lib.hid hb
  have hrl := h.here
  clear h hb
  go_enter Try.func78, Try.ntmps78
  go_wp2_with fail
  refine H.out.mono ?_
  rintro en w1 ⟨n, rfl, hn⟩
  cases hres : cnt rest with
  | inl e =>
    rw [hres] at hn
    obtain ⟨hg, rfl, r, hrd⟩ := hn
    -- nothing follows, and the list is empty: the error stays
    have HF : Hid (LsgP w w1 rb B (lst rest) (.slice none 0 0)) := Lib.hid (by
      have e2 : lst rest = .inl e := by unfold lst; rw [hres]
      rw [e2]
      exact ⟨hg, rfl, r, hrd⟩)
    clear hg hrd hres
    go_wp2
    refine wp_loop_rounds 1 ?_
    rw [rounds_succ]
    go_wp2
    go_ret
    exact ⟨none, 0, 0, rfl, HF.out⟩
  | inr p =>
    obtain ⟨m, r0⟩ := p
    rw [hres] at hn
    obtain ⟨hg, rfl, hrd⟩ := hn
    obtain ⟨hnum, hm⟩ := cnt_ok hres
    have HRD := Lib.hid hrd
    have HB1 : Hid (w.grownBy w1 (some rb)) := Lib.hid hg
    have HBY0 := Lib.hid (num_bytes HBY.out hnum)
    have hrl1 := rest_len HBY.out hnum
    have HL : Hid (lst rest = rdN m r0) := Lib.hid (by unfold lst; rw [hres])
    have hz1 := hg.size
    clear hg hrd hres hnum
    go_wp2
    go_loopw [5, 6, 9] (fun v5 _ v9 wr => ∃ (j : Nat) (l : List Nat) (r : List Int) (A : Option Addr) (c : Nat), j ≤ m ∧ v9 = .int .i64 (j : Int) ∧ v5 = .slice A j c ∧ Hid (Own wr w.heap.size (.slice A j c) j (casts l)) ∧ Hid (l.length = j) ∧ Hid (Rdr wr rb B r 0) ∧ Hid (Bytes r) ∧ r.length ≤ 1000000000 ∧ Hid (cont l (rdN (m - j) r) = rdN m r0) ∧ Hid (w.grownBy wr (some rb)) ∧ rb < wr.heap.size) (fun _ _ v _ => m - (intOf v).toNat)
    case atStart => exact ⟨0, [], r0, none, 0, Nat.zero_le _, rfl, rfl, Lib.hid (Own.nil_ _ _), Lib.hid rfl, HRD, HBY0, by omega, Lib.hid (by rw [cont_nil]; rfl), HB1, by omega⟩
    case round =>
      obtain ⟨j, l, r, A, c, hj, rfl, rfl, HO, HLE, HR, HBR, hrlen, HN, HB, hlt⟩ := hrel
      by_cases hjm : j < m
      · have hd : decide ((j : Int) < (m : Int)) = true := by simp; omega
        have hadd : IntKind.i64.wrap ((j : Int) + 1) = ((j + 1 : Nat) : Int) := by rw [IntWalk.i64_in _ (by omega)]; omega
        have HNG := Lib.hid (number_go HR.out HBR.out)
        go_wp2_with fail
        refine HNG.out.mono ?_
        rintro en w2 ⟨x, rfl, hx⟩
        clear HNG
        cases hres : num r with
        | inl e =>
          rw [hres] at hx
          obtain ⟨hg, rfl, r2, hrd⟩ := hx
          have he := num_err hres
          have hne : (e != 0) = true := by rcases he with h | h <;> subst h <;> rfl
          have HF : Hid (LsgP w w2 rb B (lst rest) (.slice none 0 0)) := Lib.hid (by
            have e2 : lst rest = .inl e := by
              rw [HL.out, ← HN.out, show m - j = (m - j - 1) + 1 by omega, rdN_err hres]; rfl
            rw [e2]
            exact ⟨grown_add HB.out hg, rfl, r2, hrd⟩)
          obtain ⟨A', c', hrow, _, _⟩ := hrd.row
          obtain ⟨hc0, hc1, _, _⟩ := row2 hrow
          clear hg hrd hres hrow he
          go_wp2
          go_ret
          exact ⟨none, 0, 0, rfl, HF.out⟩
        | inr p =>
          obtain ⟨q, r2⟩ := p
          rw [hres] at hx
          obtain ⟨hg, rfl, hrd⟩ := hx
          have HRD2 := Lib.hid hrd
          have HB2 : Hid (w.grownBy w2 (some rb)) := Lib.hid (grown_add HB.out hg)
          have hzz := HB2.out.size
          have HO2 : Hid (Own w2 w.heap.size (.slice A j c) j (casts l)) := Lib.hid (HO.out.other hg (fun g hg' e => by injection e with e; have := HO.out.ge g hg'; omega))
          have HBR2 := Lib.hid (num_bytes HBR.out hres)
          have hrl2 := rest_len HBR.out hres
          have HN2 : Hid (cont (l ++ [q]) (rdN (m - (j + 1)) r2) = rdN m r0) := Lib.hid (by
            rw [← HN.out, show m - j = (m - (j + 1)) + 1 by omega, rdN_step hres, cont_cont])
          have hlt2 := hrd.here
          have hcl : (w2.alloc (.cells #[.int .i64 (q : Int)] 3)).cell? ⟨w2.heap.size, 0, none⟩ = some (.int .i64 (q : Int)) := by
            have := heap_alloc_new w2 (.cells #[.int .i64 (q : Int)] 3)
            simp only [World.cell?, this]; rfl
          have HCL := Lib.hid hcl
          obtain ⟨A', c', hrow, _, _⟩ := hrd.row
          obtain ⟨hc0, hc1, _, _⟩ := row2 hrow
          clear hg hrd hres hrow hcl
          go_wp2_with (at_builtin; refine wpl_app rfl (.tmp 18) (.tmp 20) rfl w.heap.size (.slice A j c) j (casts l) rfl (HO2.out.alloc _) w2.heap.size (q : Int) rfl HCL.out (by omega) (by simp; omega) ?_; intro g c2 w3 hown3 hge3 hgr3 hat3)
          have HO3 : Hid (Own w3 w.heap.size (.slice (some ⟨g, 0, none⟩) (j + 1) c2) (j + 1) (casts (l ++ [q]))) := Lib.hid (by rw [casts_snoc]; exact hown3)
          have HR3 : Hid (Rdr w3 rb B r2 0) := Lib.hid ((HRD2.out.alloc _).grown hgr3 (fun g hg => by have := HO2.out.ge g hg; omega))
          have HB3 : Hid (w.grownBy w3 (some rb)) := Lib.hid (grown_new (grown_add HB2.out (grown_alloc1 w2 _ _)) hgr3 (fun g hg => HO2.out.ge g hg))
          have hz3 := hgr3.size
          have hlt3 : rb < w3.heap.size := by simp at hz3; omega
          clear hown3 hgr3 hat3 hz3
          go_roundw
          case rel => exact ⟨j + 1, l ++ [q], r2, _, _, by omega, rfl, rfl, HO3, Lib.hid (by rw [List.length_append, HLE.out]; rfl), HR3, HBR2, by omega, HN2, HB3, hlt3⟩
          case measure => simp [intOf]; omega
      · have hd : decide ((j : Int) < (m : Int)) = false := by simp; omega
        obtain rfl : j = m := by omega
        have HF : Hid (LsgP w wr rb B (lst rest) (.slice A j c)) := Lib.hid (by
          have e2 : lst rest = .inr (l, r) := by
            rw [HL.out, ← HN.out, Nat.sub_self]
            simp [rdN, cont]
          rw [e2]
          refine ⟨HB.out, ?_, HR.out⟩
          rw [HLE.out]
          exact HO.out)
        go_wp2
        go_ret
        exact ⟨A, _, c, rfl, HF.out⟩
theorem count_err {w : World} {rb B : Nat} {rest : List Int} {e : Int} (h : Rdr w rb B rest e) (he : e ≠ 0) :
    Calls Try.prog 80 #[.pointer (some ⟨rb, 0, none⟩)] w fun en w' => en = .returned (.int .i64 0) ∧ Rdr w' rb B rest e ∧ w.grownBy w' (some rb) := by
  have H := Lib.hid (number_err h he)
  clear h
  go_enter Try.func80, Try.ntmps80
  go_wp2_with fail
  refine H.out.mono ?_
  rintro en w1 ⟨rfl, hr, hg⟩
  obtain ⟨A, c, hrow, _, _⟩ := hr.row
  obtain ⟨hc0, hc1, _, _⟩ := row2 hrow
  have HR := Lib.hid hr
  have HG := Lib.hid hg
  clear hr hg H hrow
  go_wp2
  go_ret
  exact ⟨rfl, HR.out, HG.out⟩
theorem getIntsG_err {w : World} {rb B : Nat} {rest : List Int} {e : Int} (h : Rdr w rb B rest e) (he : e ≠ 0) :
    Calls Try.prog 78 #[.pointer (some ⟨rb, 0, none⟩), .func (.func 79) #[.pointer (some ⟨rb, 0, none⟩)] #[]] w fun en w' => en = .returned (.slice none 0 0) ∧ (∃ r, Rdr w' rb B r e) ∧ w.grownBy w' (some rb) := by
  have H := Lib.hid (count_err h he)
  clear h
  go_enter Try.func78, Try.ntmps78
  go_wp2_with fail
  refine H.out.mono ?_
  rintro en w1 ⟨rfl, hr, hg⟩
  have HR : Hid (∃ r, Rdr w1 rb B r e) := Lib.hid ⟨_, hr⟩
  have HG := Lib.hid hg
  clear hr hg H
  go_wp2
  refine wp_loop_rounds 1 ?_
  rw [rounds_succ]
  go_wp2
  go_ret
  exact ⟨rfl, HR.out, HG.out⟩
theorem getListS_err {w : World} {rb B : Nat} {rest : List Int} {e : Int} (h : Rdr w rb B rest e) (he : e ≠ 0) :
    Calls Try.prog 61 #[.pointer (some ⟨rb, 0, none⟩), .func (.func 62) #[.pointer (some ⟨rb, 0, none⟩)] #[]] w fun en w' => en = .returned (.slice none 0 0) ∧ (∃ r, Rdr w' rb B r e) ∧ w.grownBy w' (some rb) := by
  have H := Lib.hid (count_err h he)
  clear h
  go_enter Try.func61, Try.ntmps61
  go_wp2_with fail
  refine H.out.mono ?_
  rintro en w1 ⟨rfl, hr, hg⟩
  have HR : Hid (∃ r, Rdr w1 rb B r e) := Lib.hid ⟨_, hr⟩
  have HG := Lib.hid hg
  clear hr hg H
  go_wp2
  refine wp_loop_rounds 1 ?_
  rw [rounds_succ]
  go_wp2
  go_ret
  exact ⟨rfl, HR.out, HG.out⟩
theorem getListE_err {w : World} {rb B : Nat} {rest : List Int} {e : Int} (h : Rdr w rb B rest e) (he : e ≠ 0) :
    Calls Try.prog 63 #[.pointer (some ⟨rb, 0, none⟩), .func (.func 64) #[.pointer (some ⟨rb, 0, none⟩)] #[]] w fun en w' => en = .returned (.slice none 0 0) ∧ (∃ r, Rdr w' rb B r e) ∧ w.grownBy w' (some rb) := by
  have H := Lib.hid (count_err h he)
  clear h
  go_enter Try.func63, Try.ntmps63
  go_wp2_with fail
  refine H.out.mono ?_
  rintro en w1 ⟨rfl, hr, hg⟩
  have HR : Hid (∃ r, Rdr w1 rb B r e) := Lib.hid ⟨_, hr⟩
  have HG := Lib.hid hg
  clear hr hg H
  go_wp2
  refine wp_loop_rounds 1 ?_
  rw [rounds_succ]
  go_wp2
  go_ret
  exact ⟨rfl, HR.out, HG.out⟩
/-- A reader's state: an error, or what is left. -/
def StR (w : World) (rb B : Nat) : Sum Int (List Int) → Prop
  | .inl e => (e = 12 ∨ e = 13) ∧ ∃ r, Rdr w rb B r e
  | .inr r => Rdr w rb B r 0 ∧ Bytes r ∧ r.length ≤ 1000000000
def lstS : Sum Int (List Int) → Sum Int (List Nat × List Int)
  | .inl e => .inl e
  | .inr r => lst r
def lstPS : Sum Int (List Int) → Sum Int (List (Nat × Nat) × List Int)
  | .inl e => .inl e
  | .inr r => lstP r
def restS {α : Type} : Sum Int (α × List Int) → Sum Int (List Int)
  | .inl e => .inl e
  | .inr (_, r) => .inr r
def ListI (w : World) (base : Nat) (v : Value) : Sum Int (List Nat × List Int) → Prop
  | .inl _ => v = .slice none 0 0
  | .inr (l, _) => Own w base v l.length (casts l)
def ListP (E : TypeId) (w : World) (base : Nat) (v : Value) : Sum Int (List (Nat × Nat) × List Int) → Prop
  | .inl _ => v = .slice none 0 0
  | .inr (l, _) => OwnP E w base v l
theorem StR.grown {w w' : World} {rb B : Nat} {s : Sum Int (List Int)} (h : StR w rb B s) {row : Option Nat} (hg : w.grownBy w' row) (hr : ∀ g, row = some g → rb < g) : StR w' rb B s := by
  cases s with
  | inl e => exact ⟨h.1, h.2.choose, h.2.choose_spec.grown hg hr⟩
  | inr r => exact ⟨h.1.grown hg hr, h.2⟩
theorem rdN_more {n : Nat} : ∀ {r r' : List Int} {l : List Nat}, Bytes r → rdN n r = .inr (l, r') → Bytes r' ∧ r'.length ≤ r.length := by
  induction n with
  | zero => intro r r' l hb h; simp [rdN] at h; obtain ⟨_, h⟩ := h; subst h; exact ⟨hb, Nat.le_refl _⟩
  | succ n ih =>
    intro r r' l hb h
    rw [rdN] at h
    split at h
    · cases h
    · next x r1 hx =>
      have b1 := num_bytes hb hx
      have l1 := rest_len hb hx
      split at h
      · cases h
      · next l2 r2 hy =>
        injection h with h
        injection h with h1 h2
        subst h2
        have := ih b1 hy
        exact ⟨this.1, by omega⟩
theorem lst_more {r r' : List Int} {l : List Nat} (hb : Bytes r) (h : lst r = .inr (l, r')) : Bytes r' ∧ r'.length ≤ r.length := by
  unfold lst at h
  split at h
  · cases h
  · next n r1 hc =>
    obtain ⟨hn, _⟩ := cnt_ok hc
    have b1 := num_bytes hb hn
    have l1 := rest_len hb hn
    have := rdN_more b1 h
    exact ⟨this.1, by omega⟩
theorem rdP_more {n : Nat} : ∀ {r r' : List Int} {l : List (Nat × Nat)}, Bytes r → rdP n r = .inr (l, r') → Bytes r' ∧ r'.length ≤ r.length := by
  induction n with
  | zero => intro r r' l hb h; simp [rdP] at h; obtain ⟨_, h⟩ := h; subst h; exact ⟨hb, Nat.le_refl _⟩
  | succ n ih =>
    intro r r' l hb h
    rw [rdP] at h
    split at h
    · cases h
    · next x r1 hx =>
      have b1 := rd2_bytes hb hx
      split at h
      · cases h
      · next l2 r2 hy =>
        injection h with h
        injection h with h1 h2
        subst h2
        have := ih b1.1 hy
        exact ⟨this.1, by omega⟩
theorem lstP_more {r r' : List Int} {l : List (Nat × Nat)} (hb : Bytes r) (h : lstP r = .inr (l, r')) : Bytes r' ∧ r'.length ≤ r.length := by
  unfold lstP at h
  split at h
  · cases h
  · next n r1 hc =>
    obtain ⟨hn, _⟩ := cnt_ok hc
    have b1 := num_bytes hb hn
    have l1 := rest_len hb hn
    have := rdP_more b1 h
    exact ⟨this.1, by omega⟩
theorem rdP_err12 {n : Nat} : ∀ {r : List Int} {e : Int}, Bytes r → rdP n r = .inl e → e = 12 ∨ e = 13 := by
  induction n with
  | zero => intro r e _ h; simp [rdP] at h
  | succ n ih =>
    intro r e hb h
    rw [rdP] at h
    split at h
    · next e' he => injection h with h; rw [← h]; exact rd2_le he
    · next x r1 hx =>
      split at h
      · next e' he => injection h with h; rw [← h]; exact ih (rd2_bytes hb hx).1 he
      · cases h
theorem lstP_err {r : List Int} {e : Int} (hb : Bytes r) (h : lstP r = .inl e) : e = 12 ∨ e = 13 := by
  unfold lstP at h
  split at h
  · next e' he => injection h with h; rw [← h]; exact cnt_err he
  · next n r1 hc => exact rdP_err12 (num_bytes hb (cnt_ok hc).1) h
theorem numbersS_any {w : World} {rb B : Nat} {s : Sum Int (List Int)} (h : StR w rb B s) (hrb : rb < w.heap.size) :
    Calls Try.prog 60 #[.pointer (some ⟨rb, 0, none⟩)] w fun en w' => ∃ A n c, en = .returned (.slice A n c) ∧ ListI w' w.heap.size (.slice A n c) (lstS s) ∧ StR w' rb B (restS (lstS s)) ∧ w.grownBy w' (some rb) := by
  cases s with
  | inl e =>
    obtain ⟨he, r, hr⟩ := h
    have H := Lib.hid (getIntsG_err hr (by omega))
    clear hr
    go_enter Try.func60, Try.ntmps60
    go_wp2_with fail
    refine H.out.mono ?_
    rintro en w1 ⟨rfl, hr, hg⟩
    have HR := Lib.hid hr
    have HG := Lib.hid hg
    clear hr hg H
    go_wp2
    go_ret
    exact ⟨none, 0, 0, rfl, rfl, ⟨he, HR.out⟩, HG.out⟩
  | inr r =>
    obtain ⟨h1, h2, h3⟩ := h
    have H := Lib.hid (getIntsG_any h1 h2 h3)
    have H2 := Lib.hid h2
    clear h1 h2
    go_enter Try.func60, Try.ntmps60
    go_wp2_with fail
    refine H.out.mono ?_
    rintro en w1 ⟨A, n, c, rfl, hg, hp⟩
    have HP := Lib.hid hp
    have HG := Lib.hid hg
    clear hp hg H
    go_wp2
    go_ret
    have hp := HP.out
    refine ⟨A, n, c, rfl, ?_⟩
    show ListI w1 w.heap.size (.slice A n c) (lst r) ∧ StR w1 rb B (restS (lst r)) ∧ _
    cases hres : lst r with
    | inl e =>
      rw [hres] at hp
      exact ⟨hp.1, ⟨lst_err H2.out hres, hp.2⟩, HG.out⟩
    | inr q =>
      obtain ⟨l, r2⟩ := q
      rw [hres] at hp
      have hm := lst_more H2.out hres
      exact ⟨hp.1, ⟨hp.2, hm.1, by omega⟩, HG.out⟩
theorem listS_any {w : World} {rb B : Nat} {s : Sum Int (List Int)} (h : StR w rb B s) (hrb : rb < w.heap.size) :
    Calls Try.prog 61 #[.pointer (some ⟨rb, 0, none⟩), .func (.func 62) #[.pointer (some ⟨rb, 0, none⟩)] #[]] w fun en w' => ∃ A n c, en = .returned (.slice A n c) ∧ ListP 71 w' w.heap.size (.slice A n c) (lstPS s) ∧ StR w' rb B (restS (lstPS s)) ∧ w.grownBy w' (some rb) := by
  cases s with
  | inl e =>
    obtain ⟨he, r, hr⟩ := h
    refine (getListS_err hr (by omega)).mono ?_
    rintro en w1 ⟨rfl, hr, hg⟩
    exact ⟨none, 0, 0, rfl, rfl, ⟨he, hr⟩, hg⟩
  | inr r =>
    obtain ⟨h1, h2, h3⟩ := h
    refine (getListS_any h1 h2 h3).mono ?_
    rintro en w1 ⟨A, n, c, rfl, hg, hp⟩
    refine ⟨A, n, c, rfl, ?_⟩
    show ListP _ w1 w.heap.size (.slice A n c) (lstP r) ∧ StR w1 rb B (restS (lstP r)) ∧ _
    cases hres : lstP r with
    | inl e =>
      rw [hres] at hp
      exact ⟨hp.1, ⟨lstP_err h2 hres, hp.2⟩, hg⟩
    | inr q =>
      obtain ⟨l, r2⟩ := q
      rw [hres] at hp
      have hm := lstP_more h2 hres
      exact ⟨hp.1, ⟨hp.2, hm.1, by omega⟩, hg⟩
theorem listE_any {w : World} {rb B : Nat} {s : Sum Int (List Int)} (h : StR w rb B s) (hrb : rb < w.heap.size) :
    Calls Try.prog 63 #[.pointer (some ⟨rb, 0, none⟩), .func (.func 64) #[.pointer (some ⟨rb, 0, none⟩)] #[]] w fun en w' => ∃ A n c, en = .returned (.slice A n c) ∧ ListP 90 w' w.heap.size (.slice A n c) (lstPS s) ∧ StR w' rb B (restS (lstPS s)) ∧ w.grownBy w' (some rb) := by
  cases s with
  | inl e =>
    obtain ⟨he, r, hr⟩ := h
    refine (getListE_err hr (by omega)).mono ?_
    rintro en w1 ⟨rfl, hr, hg⟩
    exact ⟨none, 0, 0, rfl, rfl, ⟨he, hr⟩, hg⟩
  | inr r =>
    obtain ⟨h1, h2, h3⟩ := h
    refine (getListE_any h1 h2 h3).mono ?_
    rintro en w1 ⟨A, n, c, rfl, hg, hp⟩
    refine ⟨A, n, c, rfl, ?_⟩
    show ListP _ w1 w.heap.size (.slice A n c) (lstP r) ∧ StR w1 rb B (restS (lstP r)) ∧ _
    cases hres : lstP r with
    | inl e =>
      rw [hres] at hp
      exact ⟨hp.1, ⟨lstP_err h2 hres, hp.2⟩, hg⟩
    | inr q =>
      obtain ⟨l, r2⟩ := q
      rw [hres] at hp
      have hm := lstP_more h2 hres
      exact ⟨hp.1, ⟨hp.2, hm.1, by omega⟩, hg⟩
end Go.Proofs.Ytolgmoaoheflcaa
