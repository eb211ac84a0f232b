/-
  CONTRACTS of package dock, over this translation: Append.
-/
import Derived.Test.YtfpcfbolpnfacaaKSync
import Derived.IntWalk
namespace Go.Proofs.Ytfpcfbolpnfacaa
open Go.RowKit
open ByteP
set_option linter.unusedVariables false
set_option maxRecDepth 10000

/-- A slice of bytes that is only read, and lies in no block of some. -/
def RdK (w : World) (M : Nat → Prop) (D : Option Addr) (m : Nat) (ys : List Int) : Prop :=
  ys.length = m ∧ (0 < m → ∃ b off, D = some ⟨b, off, none⟩ ∧ b < w.heap.size ∧ ¬ M b ∧ ∀ j, j < m → w.cell? ⟨b, off + j, none⟩ = some (.int .u8 (ix ys j)))
section
variable {w w' : World} {M : Nat → Prop} {D : Option Addr} {m : Nat} {ys : List Int}
theorem RdK.rd (h : RdK w M D m ys) : RdY w w.heap.size D m ys := ⟨h.1, fun hm => by
  obtain ⟨b, off, e, hb, _, hc⟩ := h.2 hm
  exact ⟨b, off, e, hb, hc⟩⟩
theorem RdK.fr (h : RdK w M D m ys) (hf : Fr w w' M) : RdK w' M D m ys := ⟨h.1, fun hm => by
  obtain ⟨b, off, e, hb, hn, hc⟩ := h.2 hm
  exact ⟨b, off, e, Nat.lt_of_lt_of_le hb hf.size, hn, fun j hj => (World.cell?_of_block (a := ⟨b, off + j, none⟩) (hf.block b hb hn)).trans (hc j hj)⟩⟩
theorem RdK.below (h : RdK w M D m ys) (hb : Below w.heap.size w w') : RdK w' M D m ys := h.fr (Fr.of_below hb)
theorem RdK.of_rd {B : Nat} (h : RdY w B D m ys) (hB : B ≤ w.heap.size) (hM : ∀ b, b < B → ¬ M b) : RdK w M D m ys := ⟨h.1, fun hm => by
  obtain ⟨b, off, e, hb, hc⟩ := h.2 hm
  exact ⟨b, off, e, by omega, hM b hb, hc⟩⟩
end
def noFi : Fi := ⟨none, 0, 0, [], 0⟩
def fileAt (F : Int → Option Fi) (k : Int) : Fi := (F k).getD noFi
section
variable {w : World} {db mb K : Nat} {n : Nm} {F : Int → Option Fi}
theorem Dk.look0 (h : Dk w db mb K n F) {k : Int} (h0 : -9223372036854775808 ≤ k) (h1 : k ≤ 9223372036854775807) :
    (Instr.lookup 44 (.map (some mb)) (.int .i64 k) false).run Try.prog w = .ok (.agg #[.slice (fileAt F k).A (fileAt F k).n (fileAt F k).c, .int .i64 ((fileAt F k).s : Int)]) w := by
  cases hf : F k with
  | some f => rw [show fileAt F k = f by unfold fileAt; rw [hf]; rfl]; exact (h.look h0 h1 hf).2
  | none => rw [show fileAt F k = noFi by unfold fileAt; rw [hf]; rfl]; exact (h.miss h0 h1 hf).2
theorem Dk.own0 (h : Dk w db mb K n F) (k : Int) : OwnY w (db + 1) (fileAt F k).v (fileAt F k).n (fileAt F k).bs := by
  cases hf : F k with
  | some f => rw [show fileAt F k = f by unfold fileAt; rw [hf]; rfl]; exact h.own k f hf
  | none => rw [show fileAt F k = noFi by unfold fileAt; rw [hf]; rfl]; exact OwnY.nil_ _ _
theorem Dk.mine0 (h : Dk w db mb K n F) (k : Int) : ∀ g, (fileAt F k).v.ownBlock = some g → Mine db mb F g := fun g hg => by
  cases hf : F k with
  | some f => rw [show fileAt F k = f by unfold fileAt; rw [hf]; rfl] at hg; exact .inr (.inr ⟨k, f, hf, hg⟩)
  | none => rw [show fileAt F k = noFi by unfold fileAt; rw [hf]; rfl] at hg; cases hg
theorem Dk.good0 (h : Dk w db mb K n F) (k : Int) : (fileAt F k).s ≤ (fileAt F k).n ∧ Bytes (fileAt F k).bs := by
  cases hf : F k with
  | some f => rw [show fileAt F k = f by unfold fileAt; rw [hf]; rfl]; have := h.good k f hf; exact ⟨this.2.2.1, this.2.2.2.1⟩
  | none => rw [show fileAt F k = noFi by unfold fileAt; rw [hf]; rfl]; exact ⟨Nat.le_refl _, fun i => by simp [noFi, ix]⟩
theorem Dk.apart0 (h : Dk w db mb K n F) (k : Int) : ∀ k' f', k' ≠ k → F k' = some f' → ∀ g, (fileAt F k).v.ownBlock = some g → f'.v.ownBlock ≠ some g := fun k' f' hne hf' g hg => by
  cases hf : F k with
  | some f => rw [show fileAt F k = f by unfold fileAt; rw [hf]; rfl] at hg; exact h.apart k k' f f' (fun e => hne e.symm) hf hf' g hg
  | none => rw [show fileAt F k = noFi by unfold fileAt; rw [hf]; rfl] at hg; cases hg
theorem bytes_append {xs ys : List Int} (hx : Bytes xs) (hy : Bytes ys) : Bytes (xs ++ ys) := fun i => by
  by_cases h : i < xs.length
  · rw [ix_append_lt h]; exact hx i
  · have e : ix (xs ++ ys) i = ix ys (i - xs.length) := by
      unfold ix; simp [List.getD, List.getElem?_append_right (Nat.le_of_not_lt h)]
    rw [e]; exact hy _
theorem gd_size (n : Nm) : (gd n).size = n.size ∧ (gd n).cap = n.cap := by
  unfold gd
  by_cases h1 : n.left = -1
  · rw [if_pos h1]; exact ⟨rfl, rfl⟩
  · by_cases h2 : n.left = 0
    · rw [if_neg h1, if_pos h2]; exact ⟨rfl, rfl⟩
    · rw [if_neg h1, if_neg h2]; exact ⟨rfl, rfl⟩
/-- 'append(s, x...)', the new slice written out. -/
theorem wplY_apps2 {w : World} {ops : Array Oper} {rest : List Oper} {o : Oper} {a : Act} {Q : Exit → Act → World → Prop} (hgd : o.guard = none) (s x : Operand)
    (ho : o.op = .call { callee := .builtin .append, args := #[s, x], argTypes := #[30, 30] })
    (base : Nat) (v : Value) (n : Nat) (xs : List Int) (hs : a.eval s = v) (hown : OwnY w base v n xs)
    (B : Nat) (D : Option Addr) (m d : Nat) (ys : List Int) (hx : a.eval x = .slice D m d) (hr : RdY w B D m ys) (hn : n + m ≤ 1099511627776) (hbase : base ≤ w.heap.size)
    (h : ∀ A' c' w', OwnY w' base (.slice A' (n + m) c') (n + m) (xs ++ ys) → w.grownBy w' v.ownBlock → ((Value.slice A' (n + m) c').ownBlock = v.ownBlock ∨ (Value.slice A' (n + m) c').ownBlock = some w.heap.size) → wpList Try.prog ops Q rest (a.put o.dst (.slice A' (n + m) c')) w') :
    wpList Try.prog ops Q (o :: rest) a w := by
  refine wplY_apps hgd s x ho base v n xs hs hown B D m d ys hx hr hn hbase ?_
  intro v' w' hown' hg hat
  obtain ⟨A', c', rfl, _⟩ := hown'.shape
  exact h A' c' w' hown' hg hat

set_option maxHeartbeats 1000000 in
theorem append_any (h : Dk w db mb K n F) (hK : K ≤ 1000000000) (hd : n.down = false) (hl0 : -1 ≤ n.left) (hl1 : n.left ≤ 9223372036854775807) (hs0 : -4611686018427387904 ≤ n.size) (hc : n.cap ≤ 16777216) {k : Int} (hk0 : 0 ≤ k) (hk1 : k ≤ 999999)
    {D : Option Addr} {m d : Nat} {ys : List Int} (hy : RdK w (Mine db mb F) D m ys) (hb : Bytes ys) (hfit : n.size + m ≤ n.cap) (hfit2 : (fileAt F k).n + m ≤ 16777216) :
    Calls Try.prog 8 #[.pointer (some ⟨db, 0, none⟩), .int .i64 k, .slice D m d] w fun e w' => e = .returned (.int .i64 (if n.left = 0 then 51 else 0)) ∧
      ∃ f', f'.bs = (fileAt F k).bs ++ ys ∧ f'.n = (fileAt F k).n + m ∧ f'.s = (fileAt F k).s ∧ Dk w' db mb (K + 1) { gd n with size := n.size + m } (putF F k f') ∧ Fr w w' (Mine db mb F) ∧ (∀ b, Mine db mb (putF F k f') b → Mine db mb F b ∨ w.heap.size ≤ b) := by
  have H := Lib.hid h
  have HY := Lib.hid hy
  have HBY := Lib.hid hb
  have HF2 := Lib.hid hfit2
  have c0 := h.c0
  have c1 := h.c1
  have c4 := h.c4
  rw [hd] at c4
  have hsum : IntKind.i64.wrap (n.size + (m : Int)) = n.size + (m : Int) := IntWalk.i64_in _ (by omega)
  have hgt : decide (n.cap < n.size + (m : Int)) = false := by simp; omega
  have HM : m ≤ 16777216 := by omega
  have HS := Lib.hid (gd_size n)
  clear h hy hb hfit2 hd
  go_enter Try.func8, Try.ntmps8
  go_wp2_with fail
  go_quiet (fail)
  rename_i nq
  have H1 := Lib.hid (H.out.drewN nq)
  have HFR1 := Lib.hid (Fr.drewN w (Mine db mb F) nq)
  clear c0 c1 c4 hsum hgt
  go_wp2_with fail
  refine (goesDown_any H1.out hl0 hl1).mono ?_
  rintro e w2 ⟨rfl, hk2, hfr2⟩
  have H2 := Lib.hid hk2
  have HFR2 : Hid (Fr w w2 (Mine db mb F)) := Lib.hid (HFR1.out.trans hfr2 (fun b hb => .inl hb))
  have c2 := hk2.c2
  have hlk := hk2.look0 (k := k) (by omega) (by omega)
  clear hk2 hfr2
  generalize hf0 : fileAt F k = f0 at *
  have HF0 := Lib.hid hf0
  clear hf0
  have HO0 : Hid (OwnY w2 (db + 1) f0.v f0.n f0.bs) := Lib.hid (by rw [← HF0.out]; exact H2.out.own0 k)
  have HM0 : Hid (∀ g, f0.v.ownBlock = some g → Mine db mb F g) := Lib.hid (by rw [← HF0.out]; exact H2.out.mine0 k)
  have HYR : Hid (RdY w2 w2.heap.size D m ys) := Lib.hid ((HY.out.fr HFR2.out).rd)
  have HNM : Hid (¬ Mine db mb F w2.heap.size) := Lib.hid (H2.out.notMine (Nat.le_refl _))
  go_wp2_with (at_builtin; refine wplY_apps2 rfl (.tmp 43) (.tmp 44) rfl (db + 1) _ f0.n f0.bs rfl (HO0.out.alloc _) w2.heap.size D m d ys rfl (HYR.out.alloc (Nat.le_refl _) _) (by have := HF2.out; omega) (by have := H2.out.dlt; simp; omega) ?_; intro A' c' w4 hown4 hgr4 hat4; (have hbx := (hgr4.block w2.heap.size (by simp) (fun e => HNM.out (HM0.out _ e.symm))).trans (heap_alloc_new w2 (.cells #[.slice f0.A f0.n f0.c, .int .i64 (f0.s : Int)] 57))); (have x0 := cellK_of_heap hbx (i := 0) (x := .slice f0.A f0.n f0.c) rfl); (have xf := freeK_of_heap (i := 0) hbx); (have HBX := Lib.hid hbx); clear hbx)
  obtain ⟨w5, HW5⟩ : ∃ w5, Hid (w5 = w4.setCell ⟨w2.heap.size, 0, none⟩ (.slice A' (f0.n + m) c')) := ⟨_, Lib.hid rfl⟩
  have HAP : Hid (∀ k' f', k' ≠ k → F k' = some f' → ∀ g, f0.v.ownBlock = some g → f'.v.ownBlock ≠ some g) := Lib.hid (by rw [← HF0.out]; exact H2.out.apart0 k)
  have HX5 : Hid (DkX w5 db mb K (gd n) F k) := Lib.hid (by
    have hx := (H2.out.alloc (.cells #[.slice f0.A f0.n f0.c, .int .i64 (f0.s : Int)] 57)).x k
    have hge := HO0.out.ge
    have hlt2 := H2.out.lt
    have hdl := H2.out.dlt
    have hx4 : DkX w4 db mb K (gd n) F k := hx.of_heap (hgr4.block db (by simp; omega) (fun e => by have := hge db e.symm; omega)) (hgr4.block mb (by simp; omega) (fun e => by have := hge mb e.symm; omega))
      (fun k' f' hne hf' g hg => hgr4.block g (by have := H2.out.rowLt hf' g hg; simp; omega) (fun e => HAP.out k' f' hne hf' g e.symm hg))
    rw [HW5.out]
    have hb : ∀ g, g < w2.heap.size → (w4.setCell ⟨w2.heap.size, 0, none⟩ (.slice A' (f0.n + m) c')).heap[g]? = w4.heap[g]? := fun g hg => heap_setCell_other w4 _ g _ (fun e => by simp at e; omega)
    exact hx4.of_heap (hb db hdl) (hb mb (by omega)) (fun k' f' hne hf' g hg => hb g (H2.out.rowLt hf' g hg)))
  have HBX5 : Hid (w5.heap[w2.heap.size]? = some (.cells #[.slice A' (f0.n + m) c', .int .i64 (f0.s : Int)] 57 (0, 0))) := Lib.hid (by
    rw [HW5.out]
    exact heap_setCell_same w4 w2.heap.size 0 _ _ _ HBX.out)
  have HOW5 : Hid (OwnY w5 (db + 1) (.slice A' (f0.n + m) c') (f0.n + m) (f0.bs ++ ys)) := Lib.hid (by
    rw [HW5.out]
    refine own_heap hown4 (fun g hg hg2 => heap_setCell_other w4 _ g _ (fun e => ?_))
    simp at e
    subst e
    rcases hat4 with e | e
    · rw [e] at hg; exact HNM.out (HM0.out _ hg)
    · rw [e] at hg; injection hg with hg; simp at hg)
  have HAT : Hid ((Value.slice A' (f0.n + m) c').ownBlock = f0.v.ownBlock ∨ (Value.slice A' (f0.n + m) c').ownBlock = some (w2.heap.size + 1)) := Lib.hid (by
    rcases hat4 with e | e
    · exact .inl e
    · refine .inr (e.trans ?_); simp)
  have HFR5 : Hid (Fr w w5 (Mine db mb F)) := Lib.hid (by
    have h1 : Fr w w4 (Mine db mb F) := HFR2.out.trans (M' := Mine db mb F) (Fr.of_below_then ((Below.refl _ _).alloc (Nat.le_refl _) _) (Fr.grown hgr4 HM0.out)) (fun b hb => .inl hb)
    have hs2 := HFR2.out.size
    refine h1.trans (M' := fun b => b = w2.heap.size) ?_ (fun b hb => .inr (by rw [hb]; exact hs2))
    rw [HW5.out]
    exact Fr.setCell w4 (fun b => b = w2.heap.size) (p := ⟨w2.heap.size, 0, none⟩) rfl _)
  have y0 := cellK_of_heap HBX5.out (i := 0) (x := .slice A' (f0.n + m) c') rfl
  have y1 := cellK_of_heap HBX5.out (i := 1) (x := .int .i64 (f0.s : Int)) rfl
  have d2 := HX5.out.c2
  rw [← HW5.out]
  clear x0 xf HW5 HBX hown4 hgr4 hat4 c2 hlk
  go_still_tail 6, (by kernel_rfl)
  obtain ⟨w6, HW6⟩ : ∃ w6, Hid (w6 = w5.drewN 1) := ⟨_, Lib.hid rfl⟩
  have e6 : ({ heap := w5.heap, tape := w5.tape, drawn := w5.drawn + 1, os := w5.os, output := w5.output } : World) = w6 := HW6.out.symm
  have HX6 : Hid (DkX w6 db mb K (gd n) F k) := Lib.hid (by rw [HW6.out]; exact HX5.out.drewN 1)
  have HOW6 : Hid (OwnY w6 (db + 1) (.slice A' (f0.n + m) c') (f0.n + m) (f0.bs ++ ys)) := Lib.hid (by rw [HW6.out]; exact HOW5.out)
  have HFR6 : Hid (Fr w w6 (Mine db mb F)) := Lib.hid (by rw [HW6.out]; exact HFR5.out.trans (Fr.drewN w5 _ 1) (fun b hb => .inl hb))
  have HGO : Hid (f0.s ≤ f0.n ∧ Bytes f0.bs) := Lib.hid (by rw [← HF0.out]; exact H2.out.good0 k)
  rw [e6]
  clear e6 HW6 y0 y1 d2 HX5 HOW5 HFR5 HBX5
  refine wplK_put rfl (.tmp 50) (.tmp 51) (.tmp 52) rfl HX6.out (by omega) rfl rfl hk0 hk1 ⟨A', f0.n + m, c', f0.bs ++ ys, f0.s⟩ rfl HOW6.out ⟨(by have := HGO.out.1; show f0.s ≤ f0.n + m; omega), bytes_append HGO.out.2 HBY.out, HF2.out⟩ (fun k' f' hne hf' g hg => ?_) ?_
  · rcases HAT.out with e | e
    · exact HAP.out k' f' hne hf' g (e ▸ hg)
    · have hg' : some (w2.heap.size + 1) = some g := e ▸ hg
      injection hg' with hg'
      intro h3
      have := H2.out.rowLt hf' g h3
      omega
  intro w7 hk7 hfr7
  have HK7 := Lib.hid hk7
  have HFR7 : Hid (Fr w w7 (Mine db mb F)) := Lib.hid (HFR6.out.trans hfr7 (fun b hb => .inl hb))
  have HMI : Hid (∀ b, Mine db mb (putF F k ⟨A', f0.n + m, c', f0.bs ++ ys, f0.s⟩) b → Mine db mb F b ∨ w.heap.size ≤ b) := Lib.hid (fun b hb => by
    have hs2 := HFR2.out.size
    rcases hb with e | e | ⟨k', f', hf', e⟩
    · exact .inl (.inl e)
    · exact .inl (.inr (.inl e))
    · unfold putF at hf'
      by_cases hkk : k' = k
      · rw [if_pos hkk] at hf'
        injection hf' with hf'
        subst hf'
        rcases HAT.out with h3 | h3
        · exact .inl (HM0.out b (h3 ▸ e))
        · have h4 : some (w2.heap.size + 1) = some b := h3 ▸ e
          injection h4 with h4
          right; omega
      · rw [if_neg hkk] at hf'
        exact .inl (.inr (.inr ⟨k', f', hf', e⟩)))
  have d1 := hk7.c1
  have df := hk7.fz 1
  rw [HS.out.1] at d1
  clear hk7 hfr7 HX6 HOW6 HFR6 HAT
  by_cases hz : n.left = 0
  · have hzd : decide (n.left = 0) = true := decide_eq_true hz
    have HZ := Lib.hid hz
    rw [hzd]
    clear hz hzd
    go_wp2
    go_ret
    exact ⟨(by first | rfl | (rw [if_pos HZ.out]; rfl)), ⟨A', f0.n + m, c', f0.bs ++ ys, f0.s⟩, by rw [HF0.out], by rw [HF0.out], by rw [HF0.out], HK7.out.setSize _, HFR7.out.trans (Fr.setCell w7 (Mine db mb F) (.inl rfl) _) (fun b hb => .inl hb), HMI.out⟩
  · have hzd : decide (n.left = 0) = false := decide_eq_false hz
    have HZ := Lib.hid hz
    rw [hzd]
    clear hz hzd
    go_wp2
    go_ret
    exact ⟨(by first | rfl | (rw [if_neg HZ.out]; rfl)), ⟨A', f0.n + m, c', f0.bs ++ ys, f0.s⟩, by rw [HF0.out], by rw [HF0.out], by rw [HF0.out], HK7.out.setSize _, HFR7.out.trans (Fr.setCell w7 (Mine db mb F) (.inl rfl) _) (fun b hb => .inl hb), HMI.out⟩
end
end Go.Proofs.Ytfpcfbolpnfacaa
