/-
  Slices of comparisons that the call itself made.
  Lists of comparisons that the program reads, in whatever state.
  Lists of comparisons, and the document's reader's numbers, in whatever state.
-/
import Derived.Test.YtmfoammkcokcoaaTRa
import Derived.Test.YtmfoammkcokcoaaTLs
namespace Go.Proofs.Ytmfoammkcokcoaa
section
open Go.RowKit
open ByteP CodeP
set_option linter.unusedVariables false
set_option maxRecDepth 10000
def c5 (x : CV) : List Value := [.int .i64 x.op, .int .i64 x.a, .int .i64 x.b, .int .i64 x.c, .string x.s]
def ccells : List CV → List Value
  | [] => []
  | x :: l => c5 x ++ ccells l
theorem ccells_len (l : List CV) : (ccells l).length = l.length * 5 := by
  induction l with
  | nil => rfl
  | cons x l ih => simp [ccells, c5, ih]; omega
theorem ccells_append (l r : List CV) : ccells (l ++ r) = ccells l ++ ccells r := by
  induction l with
  | nil => rfl
  | cons x l ih => simp [ccells, ih]
theorem ccells_get : ∀ (l : List CV) (j : Nat), j < l.length → (ccells l)[j * 5]? = some (.int .i64 (cvAt l j).op) ∧ (ccells l)[j * 5 + 1]? = some (.int .i64 (cvAt l j).a) ∧ (ccells l)[j * 5 + 2]? = some (.int .i64 (cvAt l j).b) ∧ (ccells l)[j * 5 + 3]? = some (.int .i64 (cvAt l j).c) ∧ (ccells l)[j * 5 + 4]? = some (.string (cvAt l j).s)
  | [], j, h => by simp at h
  | x :: r, 0, h => by simp [ccells, c5, cvAt]
  | x :: r, j + 1, h => by
    have := ccells_get r j (by simpa using h)
    rw [show (j + 1) * 5 = j * 5 + 5 by omega]
    simpa [ccells, c5, cvAt] using this
def OwnC (w : World) (base : Nat) (v : Value) (l : List CV) : Prop := w.ownsRow base 155 5 v l.length (ccells l)
section
variable {w w' : World} {base : Nat} {v : Value} {l : List CV}
theorem OwnC.nil_ (w : World) (base : Nat) : OwnC w base (.slice none 0 0) [] := World.ownsRow_nil _ _ _ _
theorem OwnC.shape (h : OwnC w base v l) : ∃ A c, v = .slice A l.length c := by
  rcases h.2 with ⟨rfl, h0⟩ | ⟨g, cap, cur, rfl, _⟩
  · exact ⟨none, 0, by rw [h0]⟩
  · exact ⟨_, _, rfl⟩
theorem OwnC.ge (h : OwnC w base v l) : ∀ g, v.ownBlock = some g → base ≤ g := by
  intro g hg
  rcases h.2 with ⟨rfl, _⟩ | ⟨g', cap, cur, rfl, hb, _⟩
  · cases hg
  · have : g' = g := by simpa [Value.ownBlock] using hg
    omega
theorem OwnC.alloc (h : OwnC w base v l) (o : Obj) : OwnC (w.alloc o) base v l := World.ownsRow.alloc h o
theorem OwnC.kept (h : OwnC w base v l) {row : Option Nat} (hg : w.grownBy w' row) (hn : ∀ g, v.ownBlock = some g → row ≠ some g) : OwnC w' base v l := World.ownsRow.kept h hg (by
  cases hv : v.ownBlock with
  | none => exact .inl rfl
  | some g => right; intro e; exact hn g hv e.symm)
/-- Such a slice reads as its list. -/
theorem OwnC.rd {n c : Nat} {A : Option Addr} (h : OwnC w base (.slice A n c) l) : n = l.length ∧ RdC w w.heap.size A l.length l := by
  have hn : n = l.length := by
    rcases h.2 with ⟨e, e0⟩ | ⟨g, cap, cur, e, _⟩
    · injection e with e1 e2 e3; omega
    · injection e with e1 e2 e3
  subst hn
  refine ⟨rfl, rfl, fun j hj => ?_⟩
  obtain ⟨g, cap, hv, _, hlt⟩ := World.ownsRow.form h (by omega)
  injection hv with h1 h2 h3
  subst h1
  obtain ⟨k0, k1, k2, k3, k4⟩ := ccells_get l j hj
  have c0 := World.ownsRow.cells h (g := g) rfl _ _ k0
  have c1 := World.ownsRow.cells h (g := g) rfl _ _ k1
  have c2 := World.ownsRow.cells h (g := g) rfl _ _ k2
  have c3 := World.ownsRow.cells h (g := g) rfl _ _ k3
  have c4 := World.ownsRow.cells h (g := g) rfl _ _ k4
  have ha : ∀ k, (Addr.add ⟨g, 0, none⟩ k) = ⟨g, 0 + k, none⟩ := fun k => by
    unfold Addr.add
    by_cases h0 : k = 0 <;> simp [h0]
  rw [ha] at c0 c1 c2 c3 c4
  exact ⟨g, 0, rfl, hlt, c0, by rw [Nat.add_assoc]; exact c1, by rw [Nat.add_assoc]; exact c2, by rw [Nat.add_assoc]; exact c3, by rw [Nat.add_assoc]; exact c4⟩
end
theorem infoComp : (Try.prog.info? 155).map (fun i => (i.zero, i.size, i.bytes)) = some (some (.agg #[.int .i64 0, .int .i64 0, .int .i64 0, .int .i64 0, .string ⟨#[]⟩]), 5, 48) := by kernel_rfl
/-- 'append(s, x)': one comparison more. -/
theorem wpl_appC {w : World} {ops : Array Oper} {rest : List Oper} {o : Oper} {a : Act} {Q : Exit → Act → World → Prop} (hgd : o.guard = none) (s x : Operand)
    (ho : o.op = .call { callee := .builtin .append, args := #[s, x], argTypes := #[152, 152] })
    (base : Nat) (v : Value) (l : List CV) (hs : a.eval s = v) (hown : OwnC w base v l)
    (b : Nat) (y : CV) (hx : a.eval x = .slice (some ⟨b, 0, none⟩) 1 1) (hc0 : w.cell? ⟨b, 0, none⟩ = some (.int .i64 y.op)) (hc1 : w.cell? ⟨b, 1, none⟩ = some (.int .i64 y.a)) (hc2 : w.cell? ⟨b, 2, none⟩ = some (.int .i64 y.b)) (hc3 : w.cell? ⟨b, 3, none⟩ = some (.int .i64 y.c)) (hc4 : w.cell? ⟨b, 4, none⟩ = some (.string y.s)) (hn : l.length ≤ 1000000000) (hbase : base ≤ w.heap.size)
    (h : ∀ g c w', OwnC w' base (.slice (some ⟨g, 0, none⟩) (l.length + 1) c) (l ++ [y]) → w.grownBy w' v.ownBlock → wpList Try.prog ops Q rest (a.put o.dst (.slice (some ⟨g, 0, none⟩) (l.length + 1) c)) w') :
    wpList Try.prog ops Q (o :: rest) a w := by
  obtain ⟨i0, hi, hz0, hz1, hz2⟩ := info_parts infoComp
  refine wpList_append_own_at w hgd s x 152 ho base 155 i0 (.agg #[.int .i64 0, .int .i64 0, .int .i64 0, .int .i64 0, .string ⟨#[]⟩]) 5 48 Try.underlying152 hi hz0 hz1 hz2 rfl (by decide) v l.length _ hs hown ⟨b, 0, none⟩ 1 1 (c5 y) hx rfl ?_ ?_ (by unfold maxLen; omega) (by omega) hbase ?_
  · intro j z hj
    match j, hj with
    | 0, hj => simp [c5] at hj; subst hj; simpa [Addr.add] using hc0
    | 1, hj => simp [c5] at hj; subst hj; simpa [Addr.add] using hc1
    | 2, hj => simp [c5] at hj; subst hj; simpa [Addr.add] using hc2
    | 3, hj => simp [c5] at hj; subst hj; simpa [Addr.add] using hc3
    | 4, hj => simp [c5] at hj; subst hj; simpa [Addr.add] using hc4
    | j + 5, hj => simp [c5] at hj
  · intro z hz
    simp [c5] at hz
    rcases hz with rfl | rfl | rfl | rfl | rfl <;> rfl
  · intro v' w' hown' hg _ hat
    have e1 : ccells (l ++ [y]) = ccells l ++ c5 y := by rw [ccells_append]; simp [ccells]
    have ho' : w'.ownsRow base 155 5 v' (l ++ [y]).length (ccells (l ++ [y])) := by
      rw [e1, List.length_append]; exact hown'
    obtain ⟨g, c, hv, _, _⟩ := World.ownsRow.form ho' (by simp)
    rw [List.length_append] at hv
    have hv' : v' = .slice (some ⟨g, 0, none⟩) (l.length + 1) c := hv
    subst hv'
    exact h g c w' ho' hg
end
section
open Go.RowKit
open ByteP CodeP
set_option linter.unusedVariables false
set_option maxRecDepth 10000
def rdC : Nat → List Int → Sum Int (List CV × List Int)
  | 0, r => .inr ([], r)
  | n + 1, r => match compV r with
    | .inl e => .inl e
    | .inr (x, r1) => match rdC n r1 with
      | .inl e => .inl e
      | .inr (l, r2) => .inr (x :: l, r2)
def lscV (r : List Int) : Sum Int (List CV × List Int) :=
  match cnt r with
  | .inl e => .inl e
  | .inr (n, r') => rdC n r'
def lscS : Sum Int (List Int) → Sum Int (List CV × List Int)
  | .inl e => .inl e
  | .inr r => lscV r
def contC (l : List CV) (res : Sum Int (List CV × List Int)) : Sum Int (List CV × List Int) :=
  match res with
  | .inl e => .inl e
  | .inr (m, r) => .inr (l ++ m, r)
theorem contC_nil (res : Sum Int (List CV × List Int)) : contC [] res = res := by cases res <;> rfl
theorem contC_contC (l : List CV) (x : CV) (res : Sum Int (List CV × List Int)) : contC l (contC [x] res) = contC (l ++ [x]) res := by
  cases res with
  | inl e => rfl
  | inr p => simp [contC]
theorem rdC_step {n : Nat} {r r1 : List Int} {x : CV} (h : compV r = .inr (x, r1)) : rdC (n + 1) r = contC [x] (rdC n r1) := by
  rw [rdC, h]
  simp only
  cases rdC n r1 <;> rfl
theorem rdC_err {n : Nat} {r : List Int} {e : Int} (h : compV r = .inl e) : rdC (n + 1) r = .inl e := by rw [rdC, h]
def ListC (w : World) (base : Nat) (v : Value) : Sum Int (List CV × List Int) → Prop
  | .inl _ => v = .slice none 0 0
  | .inr (l, _) => OwnC w base v l
set_option maxHeartbeats 4000000 in
theorem getComps_any {w : World} {rb B : Nat} {s : Sum Int (List Int)} (h : StR w rb B s) (hrb : rb < w.heap.size) :
    Calls Try.prog 93 #[.pointer (some ⟨rb, 0, none⟩), .func (.func 94) #[.pointer (some ⟨rb, 0, none⟩)] #[]] w fun en w' => ∃ A n c, en = .returned (.slice A n c) ∧ StR w' rb B (restS (lscS s)) ∧ ListC w' w.heap.size (.slice A n c) (lscS s) ∧ w.grownBy w' (some rb) := by
  cases s with
  | inl e =>
    obtain ⟨he, r, hr⟩ := h
    have HC := Lib.hid (count_err hr (by omega))
    have HE := Lib.hid he
    clear hr he
    go_enter Try.func93, Try.ntmps93
    go_wp2_with fail
    refine HC.out.mono ?_
    rintro en w1 ⟨rfl, h1, hg1⟩
    have HF : Hid (StR w1 rb B (.inl e) ∧ w.grownBy w1 (some rb)) := Lib.hid ⟨⟨HE.out, r, h1⟩, hg1⟩
    clear h1 hg1 HC
    go_wp2
    refine wp_loop_rounds 1 ?_
    rw [rounds_succ]
    go_wp2
    go_ret
    exact ⟨none, 0, 0, rfl, HF.out.1, rfl, HF.out.2⟩
  | inr rest =>
    obtain ⟨hr, hb, hl⟩ := h
    have HC := Lib.hid (count_any hr hb hl)
    have HBY := Lib.hid hb
    have HL := Lib.hid hl
    clear hr hb hl
    go_enter Try.func93, Try.ntmps93
    go_wp2_with fail
    refine HC.out.mono ?_
    rintro en w1 ⟨n, rfl, hn⟩
    cases hres : cnt rest with
    | inl e =>
      rw [hres] at hn
      obtain ⟨hg, rfl, r, hrd⟩ := hn
      have HE : Hid (lscS (.inr rest) = .inl e) := Lib.hid (by show lscV rest = _; unfold lscV; rw [hres])
      have HF : Hid (StR w1 rb B (.inl e) ∧ w.grownBy w1 (some rb)) := Lib.hid ⟨⟨cnt_err hres, r, hrd⟩, hg⟩
      clear hg hrd hres HC
      go_wp2
      refine wp_loop_rounds 1 ?_
      rw [rounds_succ]
      go_wp2
      go_ret
      rw [HE.out]
      exact ⟨none, 0, 0, rfl, HF.out.1, rfl, HF.out.2⟩
    | inr p =>
      obtain ⟨m, r0⟩ := p
      rw [hres] at hn
      obtain ⟨hg, rfl, hrd⟩ := hn
      obtain ⟨hnum, hm⟩ := cnt_ok hres
      have hrl1 := rest_len HBY.out hnum
      have hLL := HL.out
      have HST : Hid (StR w1 rb B (.inr r0)) := Lib.hid ⟨hrd, num_bytes HBY.out hnum, by omega⟩
      have HB1 : Hid (w.grownBy w1 (some rb)) := Lib.hid hg
      have HLS : Hid (lscS (.inr rest) = rdC m r0) := Lib.hid (by show lscV rest = _; unfold lscV; rw [hres])
      have hz1 := hg.size
      have hmm : m ≤ 1000000000 := by omega
      clear hg hrd hres hnum hLL hrl1 HC hm
      go_wp2
      go_loopw [5, 6, 9] (fun v5 _ v9 wr => ∃ (j : Nat) (l : List CV) (r : List Int) (A : Option Addr) (c : Nat), j ≤ m ∧ v9 = .int .i64 (j : Int) ∧ v5 = .slice A j c ∧ Hid (OwnC wr w.heap.size (.slice A j c) l) ∧ Hid (l.length = j) ∧ Hid (StR wr rb B (.inr r)) ∧ Hid (contC l (rdC (m - j) r) = rdC m r0) ∧ Hid (w.grownBy wr (some rb)) ∧ rb < wr.heap.size) (fun _ _ v _ => m - (intOf v).toNat)
      case atStart => exact ⟨0, [], r0, none, 0, Nat.zero_le _, rfl, rfl, Lib.hid (OwnC.nil_ _ _), Lib.hid rfl, HST, Lib.hid (by rw [contC_nil]; rfl), HB1, by omega⟩
      case round =>
        obtain ⟨j, l, r, A, c, hj, rfl, rfl, HO, HLE, HR, HN, HB, hlt⟩ := hrel
        by_cases hjm : j < m
        · have hd : decide ((j : Int) < (m : Int)) = true := by simp; omega
          have hadd : IntKind.i64.wrap ((j : Int) + 1) = ((j + 1 : Nat) : Int) := by rw [IntWalk.i64_in _ (by omega)]; omega
          have HNG := Lib.hid (compS_any HR.out hlt)
          go_wp2_with fail
          refine HNG.out.mono ?_
          rintro en w2 ⟨op, a, b, c2, t, rfl, hs, hg, hval⟩
          clear HNG
          have e0 : cpS (.inr r) = compV r := rfl
          rw [e0] at hs hval
          cases hres : compV r with
          | inl e =>
            rw [hres] at hs
            obtain ⟨he, r2, hrd⟩ := hs
            have hne : (e != 0) = true := by rcases he with h | h <;> subst h <;> rfl
            have HF : Hid (rdC m r0 = .inl e) := Lib.hid (by
              rw [← HN.out, show m - j = (m - j - 1) + 1 by omega, rdC_err hres]; rfl)
            have HF2 : Hid (StR (w2.alloc (ccell 155 op a b c2 t)) rb B (.inl e) ∧ w.grownBy (w2.alloc (ccell 155 op a b c2 t)) (some rb)) := Lib.hid ⟨⟨he, r2, hrd.alloc _⟩, grown_add (grown_add HB.out hg) (grown_alloc1 w2 _ _)⟩
            obtain ⟨A', c', hrow, _, _⟩ := (hrd.alloc (ccell 155 op a b c2 t)).row
            obtain ⟨hc0, hc1, _, _⟩ := row2 hrow
            simp only [ccell] at hc0 hc1
            clear hg hrd hres hrow he hval e0
            go_wp2
            go_ret
            rw [HLS.out, HF.out]
            exact ⟨none, 0, 0, rfl, HF2.out.1, rfl, HF2.out.2⟩
          | inr p =>
            obtain ⟨x, r2⟩ := p
            rw [hres] at hs
            obtain rfl := hval x r2 hres
            have HS2 : Hid (StR w2 rb B (.inr r2)) := Lib.hid hs
            obtain ⟨hrd, _, _⟩ := hs
            have HB2 : Hid (w.grownBy w2 (some rb)) := Lib.hid (grown_add HB.out hg)
            have hzz := HB2.out.size
            have HO2 : Hid (OwnC w2 w.heap.size (.slice A j c) l) := Lib.hid (HO.out.kept hg (fun g hg' e => by injection e with e; have := HO.out.ge g hg'; omega))
            have HN2 : Hid (contC (l ++ [⟨op, a, b, c2, t⟩]) (rdC (m - (j + 1)) r2) = rdC m r0) := Lib.hid (by
              rw [← HN.out, show m - j = (m - (j + 1)) + 1 by omega, rdC_step hres, contC_contC])
            have hlt2 := hrd.here
            have hb1 := heap_new (w2.alloc (ccell 155 op a b c2 t)) (ccell 155 op a b c2 t)
            have hsz : (w2.alloc (ccell 155 op a b c2 t)).heap.size = w2.heap.size + 1 := by simp
            rw [hsz] at hb1
            have hdd := cc_cells hb1
            simp only [ccell] at hdd
            have HD := Lib.hid hdd
            obtain ⟨A', c', hrow, _, _⟩ := (hrd.alloc (ccell 155 op a b c2 t)).row
            obtain ⟨hc0, hc1, _, _⟩ := row2 hrow
            simp only [ccell] at hc0 hc1
            have HLN := HLE.out
            clear hg hrd hres hrow hb1 hval e0 hdd
            go_wp2_with (at_builtin; refine wpl_appC rfl (.tmp 18) (.tmp 20) rfl w.heap.size (.slice A j c) l rfl ((HO2.out.alloc _).alloc _) (w2.heap.size + 1) ⟨op, a, b, c2, t⟩ rfl HD.out.1 HD.out.2.1 HD.out.2.2.1 HD.out.2.2.2.1 HD.out.2.2.2.2.1 (by omega) (by simp; omega) ?_; intro g c3 w3 hown3 hgr3)
            have HO3 : Hid (OwnC w3 w.heap.size (.slice (some ⟨g, 0, none⟩) (l.length + 1) c3) (l ++ [⟨op, a, b, c2, t⟩])) := Lib.hid hown3
            have HR3 : Hid (StR w3 rb B (.inr r2)) := Lib.hid (((HS2.out.grown (row := none) (grown_alloc1 w2 _ none) (fun g hg => by cases hg)).grown (row := none) (grown_alloc1 _ _ none) (fun g hg => by cases hg)).grown hgr3 (fun g hg => by have := HO2.out.ge g hg; omega))
            have HB3 : Hid (w.grownBy w3 (some rb)) := Lib.hid (grown_new (grown_add (grown_add HB2.out (grown_alloc1 w2 _ _)) (grown_alloc1 _ _ _)) hgr3 (fun g hg => HO2.out.ge g hg))
            have hz3 := hgr3.size
            have hlt3 : rb < w3.heap.size := by simp at hz3; omega
            rw [HLN] at HO3
            clear hown3 hgr3 hz3
            go_roundw
            case rel => exact ⟨j + 1, l ++ [⟨op, a, b, c2, t⟩], r2, some ⟨g, 0, none⟩, c3, by omega, rfl, rfl, HO3, Lib.hid (by rw [List.length_append, HLE.out]; rfl), HR3, HN2, HB3, hlt3⟩
            case measure => simp [intOf]; omega
        · have hd : decide ((j : Int) < (m : Int)) = false := by simp; omega
          obtain rfl : j = m := by omega
          have HF : Hid (rdC j r0 = .inr (l, r)) := Lib.hid (by
            rw [← HN.out, Nat.sub_self]
            simp [rdC, contC])
          go_wp2
          go_ret
          rw [HLS.out, HF.out]
          exact ⟨A, _, c, rfl, HR.out, HO.out, HB.out⟩
end
section
open Go.RowKit
open ByteP CodeP
set_option linter.unusedVariables false
set_option maxRecDepth 10000
theorem compsS_any {w : World} {rb B : Nat} {s : Sum Int (List Int)} (h : StR w rb B s) (hrb : rb < w.heap.size) :
    Calls Try.prog 90 #[.pointer (some ⟨rb, 0, none⟩)] w fun en w' => ∃ A n c, en = .returned (.slice A n c) ∧ StR w' rb B (restS (lscS s)) ∧ ListC w' w.heap.size (.slice A n c) (lscS s) ∧ w.grownBy w' (some rb) := by
  have HC := Lib.hid (getComps_any h hrb)
  clear h
  go_enter Try.func90, Try.ntmps90
  go_wp2_with fail
  refine HC.out.mono ?_
  rintro en w1 ⟨A, n, c, rfl, h1, h2, h3⟩
  have H1 := Lib.hid (And.intro h1 (And.intro h2 h3))
  clear h1 h2 h3 HC
  go_wp2
  go_ret
  exact ⟨A, n, c, rfl, H1.out.1, H1.out.2.1, H1.out.2.2⟩
theorem numQ_any {w : World} {rb B : Nat} {bs : List Int} {s : Sum Int (List Int)} (h : StQ w rb B bs s) (hb : Bytes bs) (hl : bs.length ≤ 1000000000) :
    Calls Try.prog 54 #[.pointer (some ⟨rb, 0, none⟩)] w fun en w' => ∃ n, en = .returned (.int .i64 n) ∧ StQ w' rb B bs (restS (numS s)) ∧ w.grownBy w' (some rb) ∧ (∀ x r, numS s = .inr (x, r) → n = (x : Int)) ∧ (∀ e, numS s = .inl e → n = 0) := by
  cases s with
  | inl e =>
    obtain ⟨he, p, hp⟩ := h
    refine (numR_err hp (by omega)).mono ?_
    rintro en w' ⟨rfl, h1, h2⟩
    exact ⟨0, rfl, ⟨he, p, h1⟩, h2, (fun x r h => by cases h), (fun e h => rfl)⟩
  | inr r =>
    obtain ⟨p, hp, rfl⟩ := h
    refine (numR_go hp hb hl).mono ?_
    rintro en w' ⟨n, rfl, hg, hn⟩
    have e0 : numS (.inr (bs.drop p)) = num (bs.drop p) := rfl
    rw [e0]
    cases hres : num (bs.drop p) with
    | inl e =>
      rw [hres] at hn
      obtain ⟨rfl, q, h1⟩ := hn
      exact ⟨0, rfl, ⟨num_err hres, q, h1⟩, hg, (fun x r h => by cases h), (fun e h => rfl)⟩
    | inr pr =>
      obtain ⟨m, r1⟩ := pr
      rw [hres] at hn
      obtain ⟨rfl, q, h1, h2⟩ := hn
      exact ⟨(m : Int), rfl, ⟨q, h1, h2⟩, hg, (fun x r h => by injection h with h; injection h with h1 h2; rw [h1]), (fun e h => by cases h)⟩
end
end Go.Proofs.Ytmfoammkcokcoaa
