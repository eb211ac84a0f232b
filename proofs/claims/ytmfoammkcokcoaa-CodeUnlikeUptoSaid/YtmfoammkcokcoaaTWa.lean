/-
  Texts that are written.
  Versions that are written.
  Comparisons, lists of them and ranges that are written by the program.
-/
import Derived.Test.YtmfoammkcokcoaaPRp
import Derived.Lib.AppendStr
namespace Go.Proofs.Ytmfoammkcokcoaa
section
open Go.RowKit
open ByteP CodeP
open Go.Lib
set_option linter.unusedVariables false
set_option maxRecDepth 10000
/-- A text's bytes, as numbers. -/
def bsS (s : ByteArray) : List Int := s.data.toList.map (fun b => (b.toNat : Int))
theorem bsS_len (s : ByteArray) : (bsS s).length = s.size := by
  rw [bsS, List.length_map, Array.length_toList]; rfl
theorem strCells_bsS (s : ByteArray) : strCells s = (bsS s).map (Value.int .u8) := by
  simp [strCells, bsS, List.map_map]
theorem bsS_bytes (s : ByteArray) : Bytes (bsS s) := by
  have key : ∀ l : List UInt8, Bytes (l.map (fun b => (b.toNat : Int))) := by
    intro l
    induction l with
    | nil => exact bytes_nil
    | cons b l ih =>
      have := b.toNat_lt
      show Bytes ((b.toNat : Int) :: l.map (fun b => (b.toNat : Int)))
      exact bytes_cons (by omega) (by omega) ih
  exact key _
theorem run_str_at {P : Program} (w : World) (base : Nat) (t u ty e : TypeId) (i : TypeInfo) (ht : P.underlying t = some (.slice e)) (hu : P.underlying u = some .string) (hi : P.info? e = some i) (hz : i.zero = some (.int .u8 0))
    (hsize : i.size = 1) (hby : i.bytes = 1) (v : Value) (n : Nat) (xs : List Value) (hown : w.ownsRow base e 1 v n xs) (s : ByteArray)
    (hn : n + s.size ≤ 1099511627776) (hbase : base ≤ w.heap.size) :
    ∃ v' w', (Builtin.append_ #[t, u] ty #[v, .string s]).run P w = .ok v' w' ∧ w'.ownsRow base e 1 v' (n + s.size) (xs ++ strCells s) ∧ w.grownBy w' v.ownBlock ∧ (v'.ownBlock = v.ownBlock ∨ v'.ownBlock = some w.heap.size) := by
  obtain ⟨v', w', hr, h2, h3, h4⟩ := run_append_own_string (P := P) w base t u ty e i ht hu hi hz hsize hby v n xs hown s (by unfold maxLen; omega) (by omega) hbase
  refine ⟨v', w', hr, h2, h3, ?_⟩
  have hxl : xs.length = n := by simpa using hown.1
  rcases hown.2 with ⟨rfl, rfl⟩ | ⟨g, cap, cur, rfl, hbg, hg, hnc, hcm, hcs, htake⟩
  · by_cases hm : s.size = 0
    · left; rw [h4.2 ⟨rfl, hm⟩]
    · right
      have hr2 := run_append_nil_string (P := P) w t u ty e i (.int .u8 0) ht hu hi hz s (by omega) (by omega) (by rw [hby]; omega)
      rw [hr] at hr2
      injection hr2 with e1 e2
      rw [e1]; rfl
  · by_cases hroom : n + s.size ≤ cap
    · left
      have hcs' : cur.size = cap := by simpa using hcs
      have hr2 := run_append_room_string (P := P) w t u ty e i ht hu hi hsize g n cap cur hg s hroom (by omega)
      rw [hr] at hr2
      injection hr2 with e1 e2
      rw [e1]; rfl
    · right
      have holds : ∀ j u, xs[j]? = some u → w.cell? ((⟨g, 0, none⟩ : Addr).add j) = some u := hown.cells (g := g) rfl
      have hr2 := run_append_grow_string (P := P) w t u ty e i (.int .u8 0) ht hu hi hz ⟨g, 0, none⟩ n cap xs (by rw [hsize]; simpa using hxl) holds s (by omega) (by omega) (by rw [hby]; exact growslice_fits (by omega) (by omega))
      rw [hr] at hr2
      injection hr2 with e1 e2
      rw [e1]; rfl
/-- 'append(b, s...)': a text's bytes more. -/
theorem wplY_str {w : World} {ops : Array Oper} {rest : List Oper} {o : Oper} {a : Act} {Q : Exit → Act → World → Prop} (hgd : o.guard = none) (s x : Operand)
    (ho : o.op = .call { callee := .builtin .append, args := #[s, x], argTypes := #[32, 9] })
    (base : Nat) (v : Value) (n : Nat) (xs : List Int) (hs : a.eval s = v) (hown : OwnY w base v n xs) (t : ByteArray) (hx : a.eval x = .string t) (hn : n + t.size ≤ 1099511627776) (hbase : base ≤ w.heap.size) (nr : Nat) (hnr : n + t.size = nr)
    (h : ∀ A' c' w', OwnY w' base (.slice A' nr c') nr (xs ++ bsS t) → w.grownBy w' v.ownBlock → ((Value.slice A' nr c').ownBlock = v.ownBlock ∨ (Value.slice A' nr c').ownBlock = some w.heap.size) → wpList Try.prog ops Q rest (a.put o.dst (.slice A' nr c')) w') :
    wpList Try.prog ops Q (o :: rest) a w := by
  obtain ⟨i0, hi, hz0, hz1, hz2⟩ := info_parts infoByte
  refine wpList_plain hgd fun K hK => ?_
  obtain ⟨v', w', hr, h2, h3, h4⟩ := run_str_at (P := Try.prog) w base 32 9 o.type 5 i0 Try.underlying32 Try.underlying9 hi hz0 hz1 hz2 v n _ hown t hn hbase
  unfold Oper.wp
  simp only [execOp, ho, resolve, invoke, builtin, Sem.run_bind, Sem.run_pure, Result.andThen_ok, List.map_toArray, List.map_cons, List.map_nil, hs, hx, hr]
  subst hnr
  have ho2 : OwnY w' base v' (n + t.size) (xs ++ bsS t) := by
    unfold OwnY
    rw [List.map_append, ← strCells_bsS]
    exact h2
  obtain ⟨A', c', rfl, _⟩ := OwnY.shape ho2
  exact hK _ _ (h A' c' w' ho2 h3 h4)
/-- A writer's row behind an append of whatever and a store. -/
theorem Wr.pushV {T : TypeId} {wr w2 : World} {wb k c n2 : Nat} {A : Option Addr} {f : Bool} {ys zs : List Int} {v2 : Value} (hrow : wr.heap[wb]? = some (.cells #[.slice A k c, .bool f] T (0, 0))) (hown : OwnY wr (wb + 1) (.slice A k c) k ys)
    (hgr : wr.grownBy w2 (Value.slice A k c).ownBlock) (hat : v2.ownBlock = (Value.slice A k c).ownBlock ∨ ∃ g, v2.ownBlock = some g ∧ wr.heap.size ≤ g) (hown2 : OwnY w2 (wb + 1) v2 n2 zs) :
    Wr T (w2.setCell ⟨wb, 0, none⟩ v2) wb zs f ∧ Below wb wr (w2.setCell ⟨wb, 0, none⟩ v2) ∧ KeepW wr (w2.setCell ⟨wb, 0, none⟩ v2) wb := by
  have hlt := heapE_lt hrow
  have hr2 : w2.heap[wb]? = some (.cells #[.slice A k c, .bool f] T (0, 0)) := (hgr.block wb hlt (fun e => by have := hown.ge wb e.symm; omega)).trans hrow
  have hs := heap_setCell_same w2 wb 0 _ _ v2 hr2
  have hl := hown2.len
  obtain ⟨A2, c2, rfl, _⟩ := OwnY.shape hown2
  refine ⟨⟨A2, c2, by rw [hl]; exact hs, ?_⟩, ?_, ?_⟩
  · rw [hl]
    refine hown2.other (row := some wb) ⟨rfl, rfl, rfl, by simp, fun i hi hne => Below.heap_setCell w2 _ _ i (fun e => hne (by rw [e]))⟩ (fun g' hg' e => ?_)
    have := hown2.ge g' hg'
    injection e with e
    omega
  · have h1 : Below wb wr w2 := (Below.refl _ wr).grown hgr (by omega) (fun g' hg' => by have := hown.ge g' hg'; omega)
    exact h1.setCell (Nat.le_refl _) _
  · refine ⟨fun b hb hne ho => ?_, fun b ho => ?_, by have := hgr.size; simp at this ⊢; omega⟩
    · rw [heap_setCell_other w2 ⟨wb, 0, none⟩ b _ hne]
      exact hgr.block b hb (fun e => ho ⟨_, _, _, hrow, e.symm⟩)
    · have h3 := OwnW.of hs ho
      rcases hat with h | h
      · rw [h] at h3; exact .inl ⟨_, _, _, hrow, h3⟩
      · obtain ⟨g, h, hge⟩ := h
        rw [h] at h3; injection h3 with h3; right; omega
set_option maxHeartbeats 1000000 in
/-- A text: how many bytes, and they. -/
theorem text_any {w : World} {wb : Nat} {xs : List Int} {f : Bool} (h : Wr 120 w wb xs f) (s : ByteArray) (hs : s.size ≤ 2000000) (hl : xs.length ≤ 900000000) :
    Calls Try.prog 66 #[.pointer (some ⟨wb, 0, none⟩), .string s] w fun e w' => e = .returned (.tuple #[]) ∧ Wr 120 w' wb (xs ++ (enc s.size ++ bsS s)) f ∧ Below wb w w' ∧ KeepW w w' wb := by
  have HN := Lib.hid (number_any h (s.size : Int) (by omega))
  clear h
  go_enter Try.func66, Try.ntmps66
  go_wp2_with fail
  refine HN.out.mono ?_
  rintro e w1 ⟨rfl, h1, hb1, hk1⟩
  rw [outI_nat (by omega), okI_nat (by omega)] at h1
  obtain ⟨ys, HYS⟩ : ∃ ys, Hid (ys = xs ++ enc s.size) := ⟨_, Lib.hid rfl⟩
  have h1' : Wr 120 w1 wb ys f := by rw [HYS.out]; simpa using h1
  obtain ⟨A, c, hrow, hown⟩ := h1'.row
  have hwl := heapE_lt hrow
  have HR := Lib.hid hrow
  have HO := Lib.hid hown
  have HB1 := Lib.hid hb1
  have HK1 := Lib.hid hk1
  have HL : Hid (ys.length + s.size ≤ 1099511627776) := Lib.hid (by rw [HYS.out, List.length_append]; have := enc_six (n := s.size) (by omega); omega)
  obtain ⟨nr, HNR⟩ : ∃ nr, Hid (ys.length + s.size = nr) := ⟨_, Lib.hid rfl⟩
  obtain ⟨hc0, hc1, hf0, hf1⟩ := row2 hrow
  clear hrow hown h1 h1' hb1 hk1 HN
  go_wp2_with (at_builtin; refine wplY_str rfl (.tmp 12) (.tmp 13) rfl (wb + 1) (.slice A ys.length c) ys.length ys rfl HO.out s rfl HL.out (by omega) nr HNR.out ?_; intro A2 c2 w2 hown2 hgr2 hat2; have HAT2 := Lib.hid hat2; clear hat2; obtain ⟨hz0, hz1, hzf0, hzf1⟩ := row2 ((hgr2.block wb hwl (fun e => by have := HO.out.ge wb e.symm; omega)).trans HR.out))
  have hp := Wr.pushV HR.out HO.out hgr2 (HAT2.out.imp id (fun h => ⟨_, h, Nat.le_refl _⟩)) hown2
  rw [HYS.out, List.append_assoc] at hp
  have HP := Lib.hid hp
  clear hp hown2 hgr2 hz0 hz1 hzf0 hzf1
  go_end0
  exact ⟨rfl, HP.out.1, HB1.out.trans HP.out.2.1, HK1.out.trans HP.out.2.2⟩
/-- 'append(b, x)' as one step of a region that draws: one byte more. -/
theorem stepY_app {w : World} {ops : Array Oper} {o : Oper} {a : Act} {K : Act → World → Prop} {Q : Exit → Act → World → Prop} {Ex : Prop} (hgd : o.guard = none) (s x : Operand)
    (ho : o.op = .call { callee := .builtin .append, args := #[s, x], argTypes := #[32, 32] })
    (base : Nat) (v : Value) (n : Nat) (xs : List Int) (hs : a.eval s = v) (hown : OwnY w base v n xs)
    (b : Nat) (u : Int) (hx : a.eval x = .slice (some ⟨b, 0, none⟩) 1 1) (hc : w.cell? ⟨b, 0, none⟩ = some (.int .u8 u)) (hn : n ≤ 1099511627776) (hbase : base ≤ w.heap.size) (nr : Nat) (hnr : n + 1 = nr)
    (h : ∀ g c w', OwnY w' base (.slice (some ⟨g, 0, none⟩) nr c) nr (xs ++ [u]) → w.grownBy w' v.ownBlock → (v.ownBlock = some g ∨ g = w.heap.size) → K (a.put o.dst (.slice (some ⟨g, 0, none⟩) nr c)) w') :
    if Region.wanted o (yielded ops a.tmps) = true then Oper.wp Try.prog o a w K Q else Ex := by
  have hw : Region.wanted o (yielded ops a.tmps) = true := by simp [Region.wanted, hgd]
  rw [if_pos hw]
  subst hnr
  obtain ⟨i0, hi, hz0, hz1, hz2⟩ := info_parts infoByte
  obtain ⟨v', w', hrun, hown', hg, _, hat⟩ := run_append_own_at (P := Try.prog) w base 32 o.type 5 i0 (.int .u8 0) 1 1 Try.underlying32 hi hz0 hz1 hz2 rfl (by decide) v n _ hown ⟨b, 0, none⟩ 1 1 [.int .u8 u] rfl (by
    intro j z hj
    match j, hj with
    | 0, hj => simp at hj; subst hj; simpa [Addr.add] using hc) (by
    intro z hz; simp at hz; subst hz; rfl) (by unfold maxLen; omega) (by omega) hbase
  have ho' : OwnY w' base v' (n + 1) (xs ++ [u]) := by unfold OwnY; rw [List.map_append]; exact hown'
  obtain ⟨g, c, rfl, hbg, _⟩ := ho'.form (by omega)
  unfold Oper.wp
  simp only [execOp, ho, resolve, invoke, builtin, Sem.run_bind, Sem.run_pure, Result.andThen_ok, List.map_toArray, List.map_cons, List.map_nil, hs, hx, hrun]
  refine h g c w' ho' hg ?_
  rcases hat with h | h
  · exact .inl h.symm
  · right; have : some g = some w.heap.size := h; injection this
theorem bsS_take {s : ByteArray} {j : Nat} (h : j < s.size) : (bsS s).take (j + 1) = (bsS s).take j ++ [((s[j]'h).toNat : Int)] := by
  have hl : j < (bsS s).length := by rw [bsS_len]; exact h
  rw [List.take_add_one, List.getElem?_eq_getElem hl]
  congr 1
  simp [bsS]
  rfl
set_option maxHeartbeats 2000000 in
theorem textW_any {w : World} {wb : Nat} {xs : List Int} {f : Bool} (h : Wr 34 w wb xs f) (s : ByteArray) (hs : s.size ≤ 2000000) (hl : xs.length ≤ 900000000) :
    Calls Try.prog 33 #[.pointer (some ⟨wb, 0, none⟩), .string s] w fun e w' => e = .returned (.tuple #[]) ∧ Wr 34 w' wb (xs ++ (enc s.size ++ bsS s)) f ∧ Below wb w w' ∧ KeepW w w' wb := by
  have HN := Lib.hid (numW_any h (s.size : Int) (by omega))
  have hE : (enc s.size).length ≤ 6 := enc_six (n := s.size) (by omega)
  clear h
  go_enter Try.func33, Try.ntmps33
  go_wp2_with fail
  refine HN.out.mono ?_
  rintro e w1 ⟨rfl, h1, hb1, hk1⟩
  rw [outI_nat (by omega), okI_nat (by omega)] at h1
  have H1 : Hid (Wr 34 w1 wb (xs ++ enc s.size) f) := Lib.hid (by simpa using h1)
  have HB1 := Lib.hid hb1
  have HK1 := Lib.hid hk1
  clear h1 hb1 hk1 HN
  go_wp2_with fail
  go_loopw [4] (fun v wr => ∃ j : Nat, j ≤ s.size ∧ v = .int .i64 (j : Int) ∧ Hid (Wr 34 wr wb (xs ++ enc s.size ++ (bsS s).take j) f) ∧ Hid (Below wb w wr) ∧ Hid (KeepW w wr wb)) (fun v _ => s.size - (intOf v).toNat)
  case atStart => exact ⟨0, Nat.zero_le _, rfl, Lib.hid (by simpa using H1.out), HB1, HK1⟩
  case round =>
    obtain ⟨j, hj, rfl, HW, HB, HK⟩ := hrel
    by_cases hjn : j < s.size
    · have hd : decide ((j : Int) < (s.size : Int)) = true := by simp; omega
      have hi : (j : Int) < (s.size : Int) := by omega
      have hadd : IntKind.i64.wrap ((j : Int) + 1) = ((j + 1 : Nat) : Int) := by rw [IntWalk.i64_in _ (by omega)]; omega
      obtain ⟨ys, HYS⟩ : ∃ ys, Hid (ys = xs ++ enc s.size ++ (bsS s).take j) := ⟨_, Lib.hid rfl⟩
      have HL : Hid (ys.length ≤ 1000000000) := Lib.hid (by
        rw [HYS.out, List.length_append, List.length_append, List.length_take, bsS_len]; omega)
      rw [← HYS.out] at HW
      obtain ⟨A, c, hrow, hown⟩ := HW.out.row
      have hwl := heapE_lt hrow
      have HR := Lib.hid hrow
      have HO := Lib.hid hown
      obtain ⟨hc0, hc1, hf0, hf1⟩ := row2 hrow
      obtain ⟨nr, HNR⟩ : ∃ nr, Hid (ys.length + 1 = nr) := ⟨_, Lib.hid rfl⟩
      have hal := heap_alloc_new wr (.cells #[.int .u8 ((s[j]'hjn).toNat : Int)] 5)
      have HCL : Hid ((wr.alloc (.cells #[.int .u8 ((s[j]'hjn).toNat : Int)] 5)).drew.cell? ⟨wr.heap.size, 0, none⟩ = some (.int .u8 ((s[j]'hjn).toNat : Int))) := Lib.hid ((by simp only [World.cell?, hal]; rfl : (wr.alloc (.cells #[.int .u8 ((s[j]'hjn).toNat : Int)] 5)).cell? ⟨wr.heap.size, 0, none⟩ = some (.int .u8 ((s[j]'hjn).toNat : Int))))
      have HOA : Hid (OwnY (wr.alloc (.cells #[.int .u8 ((s[j]'hjn).toNat : Int)] 5)).drew (wb + 1) (.slice A ys.length c) ys.length ys) := Lib.hid (hown.alloc _)
      have HSZ : Hid (wb + 1 ≤ (wr.alloc (.cells #[.int .u8 ((s[j]'hjn).toNat : Int)] 5)).drew.heap.size) := Lib.hid (by show wb + 1 ≤ (wr.alloc _).heap.size; rw [World.size_alloc]; omega)
      have hc0' : (wr.alloc (.cells #[.int .u8 ((s[j]'hjn).toNat : Int)] 5)).cell? ⟨wb, 0, none⟩ = some (.slice A ys.length c) := (World.cell?_alloc_lt wr _ ⟨wb, 0, none⟩ hwl).trans hc0
      clear hrow hown hal H1
      go_wp2_with fail
      go_region_law (first
            | (refine stepY_app (by rfl) (.tmp 19) (.tmp 23) (by rfl) (wb + 1) (.slice A ys.length c) ys.length ys (by rfl) HOA.out wr.heap.size _ (by rfl) HCL.out (by have := HL.out; omega) HSZ.out nr HNR.out ?_; intro g2 c2 w2 hown2 hgr2 hat2; (have HAT2 := Lib.hid hat2); (have hgr3 : (wr.alloc (.cells #[.int .u8 ((s[j]'hjn).toNat : Int)] 5)).grownBy w2 (Value.slice A ys.length c).ownBlock := ⟨hgr2.os, hgr2.tape, hgr2.output, hgr2.size, hgr2.block⟩); (have HGR2 := Lib.hid hgr3); (have HO2 := Lib.hid hown2); (obtain ⟨hz0, hz1, hzf0, hzf1⟩ := row2 (wr_row HR.out HO.out _ hgr3)); clear hown2 hgr2 hgr3 hat2)
            )
      all_goals (have hp := Wr.pushV (v2 := .slice (some ⟨g2, 0, none⟩) nr c2) HR.out HO.out (grown_add (grown_alloc1 wr _ _) HGR2.out) (HAT2.out.elim (fun h => Or.inl h.symm) (fun h => Or.inr ⟨g2, rfl, by rw [h]; show wr.heap.size ≤ (wr.alloc _).heap.size; rw [World.size_alloc]; omega⟩)) HO2.out)
      all_goals (have HP := Lib.hid hp; clear hp hz0 hz1 hzf0 hzf1 hc0 hc1 hf0 hf1 hc0')
      all_goals (go_wp2_with fail; go_roundw)
      all_goals (first | (case rel => exact ⟨j + 1, by omega, by go_num, Lib.hid (by rw [bsS_take hjn, ← List.append_assoc, ← HYS.out]; exact HP.out.1), Lib.hid (HB.out.trans HP.out.2.1), Lib.hid (HK.out.trans HP.out.2.2)⟩) | (case measure => simp [intOf]; omega))
    · have hd : decide ((j : Int) < (s.size : Int)) = false := by simp; omega
      obtain rfl : j = s.size := by omega
      go_wp2_with fail
      go_end0
      refine ⟨rfl, ?_, HB.out, HK.out⟩
      have := HW.out
      rw [List.take_of_length_le (by rw [bsS_len]; omega), List.append_assoc] at this
      exact this
end
section
open Go.RowKit
open ByteP CodeP
set_option linter.unusedVariables false
set_option maxRecDepth 10000
def verO (a b c : Int) (s : ByteArray) : List Int := outI a ++ (outI b ++ (outI c ++ (enc s.size ++ bsS s)))
def verB (a b c : Int) : Bool := !okI a || (!okI b || !okI c)
theorem verO_len (a b c : Int) (s : ByteArray) (hs : s.size ≤ 2000000) : (verO a b c s).length ≤ 24 + s.size := by
  have h1 := outI_len a
  have h2 := outI_len b
  have h3 := outI_len c
  have h4 := enc_six (n := s.size) (by omega)
  simp only [verO, List.length_append, bsS_len]
  omega
theorem row4t {w : World} {g : Nat} {x y z u : Value} {t : TypeId} (h : w.heap[g]? = some (.cells #[x, y, z, u] t (0, 0))) : w.cell? ⟨g, 0, none⟩ = some x ∧ w.cell? ⟨g, 1, none⟩ = some y ∧ w.cell? ⟨g, 2, none⟩ = some z ∧ w.cell? ⟨g, 3, none⟩ = some u :=
  ⟨by rw [cell_of_row w g 0 _ _ _ h]; rfl, by rw [cell_of_row w g 1 _ _ _ h]; rfl, by rw [cell_of_row w g 2 _ _ _ h]; rfl, by rw [cell_of_row w g 3 _ _ _ h]; rfl⟩
set_option maxHeartbeats 1000000 in
theorem version_any {w : World} {wb : Nat} {xs : List Int} {f : Bool} (h : Wr 120 w wb xs f) (a b c : Int) (s : ByteArray) (hs : s.size ≤ 2000000) (hl : xs.length ≤ 800000000) :
    Calls Try.prog 80 #[.pointer (some ⟨wb, 0, none⟩), .agg #[.int .i64 a, .int .i64 b, .int .i64 c, .string s]] w fun e w' => e = .returned (.tuple #[]) ∧ Wr 120 w' wb (xs ++ verO a b c s) (f || verB a b c) ∧ Below wb w w' ∧ KeepW w w' wb := by
  have hlt := h.lt
  obtain ⟨W, hW⟩ : ∃ W, W = w.alloc (.cells #[.int .i64 a, .int .i64 b, .int .i64 c, .string s] 95) := ⟨_, rfl⟩
  have HA : Wr 120 W wb xs f := by rw [hW]; exact h.alloc _
  have HK0 : Hid (KeepW w W wb) := Lib.hid (by rw [hW]; exact KeepW.alloc hlt _)
  have HB0 : Hid (Below wb w W) := Lib.hid (by rw [hW]; exact ((Below.refl _ w).alloc (Nat.le_refl _) _).mono (by omega))
  have hab : W.heap[w.heap.size]? = some (.cells #[.int .i64 a, .int .i64 b, .int .i64 c, .string s] 95 (0, 0)) := by rw [hW]; exact heap_alloc_new w _
  have HNO : Hid (¬ OwnW W wb w.heap.size) := Lib.hid (by rw [hW]; exact ownW_new h (Nat.le_refl _) (Below.heap_alloc w _ wb hlt))
  have HROW := Lib.hid hab
  have hz : w.heap.size < W.heap.size := by rw [hW]; simp
  have HBX : Hid (∀ w', KeepW W w' wb → w'.heap[w.heap.size]? = some (.cells #[.int .i64 a, .int .i64 b, .int .i64 c, .string s] 95 (0, 0))) := Lib.hid (fun w' hk => (hk.block w.heap.size hz (by omega) HNO.out).trans HROW.out)
  obtain ⟨c0, c1, c2, c3⟩ := row4t hab
  have HF := Lib.hid (number_any HA a (by omega))
  have HWE := Lib.hid hW
  clear h hab HA hW
  go_enter Try.func80, Try.ntmps80
  go_upto_region 1 with fail
  rw [← HWE.out]
  go_wp2_with fail
  refine HF.out.mono ?_
  rintro e w1 ⟨rfl, h1, hb1, hk1⟩
  obtain ⟨d0, d1, d2, d3⟩ := row4t (HBX.out w1 hk1)
  have HB1 := Lib.hid (HB0.out.trans hb1)
  have HK1 := Lib.hid hk1
  have HF2 := Lib.hid (number_any h1 b (by rw [List.length_append]; have := outI_len a; omega))
  clear h1 hb1 hk1 c0 c1 c2 c3
  go_wp2_with fail
  refine HF2.out.mono ?_
  rintro e w2 ⟨rfl, h2, hb2, hk2⟩
  have HK2 := Lib.hid (HK1.out.trans hk2)
  obtain ⟨c0, c1, c2, c3⟩ := row4t (HBX.out w2 HK2.out)
  have HB2 := Lib.hid (HB1.out.trans hb2)
  have HF3 := Lib.hid (number_any h2 c (by rw [List.length_append, List.length_append]; have := outI_len a; have := outI_len b; omega))
  clear h2 hb2 hk2 d0 d1 d2 d3
  go_wp2_with fail
  refine HF3.out.mono ?_
  rintro e w3 ⟨rfl, h3, hb3, hk3⟩
  have HK3 := Lib.hid (HK2.out.trans hk3)
  obtain ⟨d0, d1, d2, d3⟩ := row4t (HBX.out w3 HK3.out)
  have HB3 := Lib.hid (HB2.out.trans hb3)
  have HF4 := Lib.hid (text_any h3 s hs (by rw [List.length_append, List.length_append, List.length_append]; have := outI_len a; have := outI_len b; have := outI_len c; omega))
  clear h3 hb3 hk3 c0 c1 c2 c3
  go_wp2_with fail
  refine HF4.out.mono ?_
  rintro e w4 ⟨rfl, h4, hb4, hk4⟩
  have H4 : Hid (Wr 120 w4 wb (xs ++ verO a b c s) (f || verB a b c)) := Lib.hid (by
    have e1 : xs ++ verO a b c s = xs ++ outI a ++ outI b ++ outI c ++ (enc s.size ++ bsS s) := by unfold verO; simp only [List.append_assoc]
    have e2 : (f || verB a b c) = (f || !okI a || !okI b || !okI c) := by unfold verB; simp only [Bool.or_assoc]
    rw [e1, e2]; exact h4)
  have HB4 := Lib.hid (HB3.out.trans hb4)
  have HK4 := Lib.hid (HK0.out.trans (HK3.out.trans hk4))
  clear h4 hb4 hk4 d0 d1 d2 d3
  go_wp2
  go_end0
  exact ⟨rfl, H4.out, HB4.out, HK4.out⟩
set_option maxHeartbeats 1000000 in
theorem versionW_any {w : World} {wb : Nat} {xs : List Int} {f : Bool} (h : Wr 34 w wb xs f) (a b c : Int) (s : ByteArray) (hs : s.size ≤ 2000000) (hl : xs.length ≤ 800000000) :
    Calls Try.prog 34 #[.pointer (some ⟨wb, 0, none⟩), .agg #[.int .i64 a, .int .i64 b, .int .i64 c, .string s]] w fun e w' => e = .returned (.tuple #[]) ∧ Wr 34 w' wb (xs ++ verO a b c s) (f || verB a b c) ∧ Below wb w w' ∧ KeepW w w' wb := by
  have hlt := h.lt
  obtain ⟨W, hW⟩ : ∃ W, W = w.alloc (.cells #[.int .i64 a, .int .i64 b, .int .i64 c, .string s] 99) := ⟨_, rfl⟩
  have HA : Wr 34 W wb xs f := by rw [hW]; exact h.alloc _
  have HK0 : Hid (KeepW w W wb) := Lib.hid (by rw [hW]; exact KeepW.alloc hlt _)
  have HB0 : Hid (Below wb w W) := Lib.hid (by rw [hW]; exact ((Below.refl _ w).alloc (Nat.le_refl _) _).mono (by omega))
  have hab : W.heap[w.heap.size]? = some (.cells #[.int .i64 a, .int .i64 b, .int .i64 c, .string s] 99 (0, 0)) := by rw [hW]; exact heap_alloc_new w _
  have HNO : Hid (¬ OwnW W wb w.heap.size) := Lib.hid (by rw [hW]; exact ownW_new h (Nat.le_refl _) (Below.heap_alloc w _ wb hlt))
  have HROW := Lib.hid hab
  have hz : w.heap.size < W.heap.size := by rw [hW]; simp
  have HBX : Hid (∀ w', KeepW W w' wb → w'.heap[w.heap.size]? = some (.cells #[.int .i64 a, .int .i64 b, .int .i64 c, .string s] 99 (0, 0))) := Lib.hid (fun w' hk => (hk.block w.heap.size hz (by omega) HNO.out).trans HROW.out)
  obtain ⟨c0, c1, c2, c3⟩ := row4t hab
  have HF := Lib.hid (numW_any HA a (by omega))
  have HWE := Lib.hid hW
  clear h hab HA hW
  go_enter Try.func34, Try.ntmps34
  go_upto_region 1 with fail
  rw [← HWE.out]
  go_wp2_with fail
  refine HF.out.mono ?_
  rintro e w1 ⟨rfl, h1, hb1, hk1⟩
  obtain ⟨d0, d1, d2, d3⟩ := row4t (HBX.out w1 hk1)
  have HB1 := Lib.hid (HB0.out.trans hb1)
  have HK1 := Lib.hid hk1
  have HF2 := Lib.hid (numW_any h1 b (by rw [List.length_append]; have := outI_len a; omega))
  clear h1 hb1 hk1 c0 c1 c2 c3
  go_wp2_with fail
  refine HF2.out.mono ?_
  rintro e w2 ⟨rfl, h2, hb2, hk2⟩
  have HK2 := Lib.hid (HK1.out.trans hk2)
  obtain ⟨c0, c1, c2, c3⟩ := row4t (HBX.out w2 HK2.out)
  have HB2 := Lib.hid (HB1.out.trans hb2)
  have HF3 := Lib.hid (numW_any h2 c (by rw [List.length_append, List.length_append]; have := outI_len a; have := outI_len b; omega))
  clear h2 hb2 hk2 d0 d1 d2 d3
  go_wp2_with fail
  refine HF3.out.mono ?_
  rintro e w3 ⟨rfl, h3, hb3, hk3⟩
  have HK3 := Lib.hid (HK2.out.trans hk3)
  obtain ⟨d0, d1, d2, d3⟩ := row4t (HBX.out w3 HK3.out)
  have HB3 := Lib.hid (HB2.out.trans hb3)
  have HF4 := Lib.hid (textW_any h3 s hs (by rw [List.length_append, List.length_append, List.length_append]; have := outI_len a; have := outI_len b; have := outI_len c; omega))
  clear h3 hb3 hk3 c0 c1 c2 c3
  go_wp2_with fail
  refine HF4.out.mono ?_
  rintro e w4 ⟨rfl, h4, hb4, hk4⟩
  have H4 : Hid (Wr 34 w4 wb (xs ++ verO a b c s) (f || verB a b c)) := Lib.hid (by
    have e1 : xs ++ verO a b c s = xs ++ outI a ++ outI b ++ outI c ++ (enc s.size ++ bsS s) := by unfold verO; simp only [List.append_assoc]
    have e2 : (f || verB a b c) = (f || !okI a || !okI b || !okI c) := by unfold verB; simp only [Bool.or_assoc]
    rw [e1, e2]; exact h4)
  have HB4 := Lib.hid (HB3.out.trans hb4)
  have HK4 := Lib.hid (HK0.out.trans (HK3.out.trans hk4))
  clear h4 hb4 hk4 d0 d1 d2 d3
  go_wp2
  go_end0
  exact ⟨rfl, H4.out, HB4.out, HK4.out⟩
end
section
open Go.RowKit
open ByteP CodeP
set_option linter.unusedVariables false
set_option maxRecDepth 10000
/-- A comparison. -/
structure CV where
  op : Int
  a : Int
  b : Int
  c : Int
  s : ByteArray
instance : Inhabited CV := ⟨⟨0, 0, 0, 0, ⟨#[]⟩⟩⟩
theorem toL_inj {s t : ByteArray} (e : s.toList = t.toList) : s = t := by
  rw [ByteArray.toList_eq, ByteArray.toList_eq] at e
  cases s; cases t
  simp at e
  congr 1
def zeroV (a b c : Int) (s : ByteArray) : Bool := decide (a = 0 ∧ b = 0 ∧ c = 0 ∧ s = ⟨#[]⟩)
def compO (x : CV) : List Int := outI x.op ++ (if x.op = 0 then [] else verO x.a x.b x.c x.s)
def compB (x : CV) : Bool := !okI x.op || (if x.op = 0 then !zeroV x.a x.b x.c x.s else verB x.a x.b x.c)
theorem eqComp0 (w : World) (a b c : Int) (s : ByteArray) : (Op.equalIn 10000 155 (.agg #[.int .i64 0, .int .i64 a, .int .i64 b, .int .i64 c, .string s]) (.agg #[.int .i64 0, .int .i64 0, .int .i64 0, .int .i64 0, .string ⟨#[]⟩])).run Try.prog w = .ok (zeroV a b c s) w := by
  unfold zeroV
  rw [show (10000 : Nat) = 9998 + 1 + 1 from rfl]
  go_simp
  by_cases h1 : a = 0
  · by_cases h2 : b = 0
    · by_cases h3 : c = 0
      · by_cases h4 : s = ⟨#[]⟩
        · subst h1 h2 h3 h4; simp
        · have h5 : s.toList ≠ [] := fun e => h4 (toL_inj (e.trans (by simp [ByteArray.toList_eq])))
          simp [h1, h2, h3, h4, h5]
      · simp [h1, h2, h3]
    · simp [h1, h2]
  · simp [h1]
theorem cells5 {w : World} {g : Nat} {x y z u v : Value} {T : TypeId} (h : w.heap[g]? = some (.cells #[x, y, z, u, v] T (0, 0))) : w.cell? ⟨g, 0, none⟩ = some x ∧ w.cell? ⟨g, 1, none⟩ = some y ∧ w.cell? ⟨g, 2, none⟩ = some z ∧ w.cell? ⟨g, 3, none⟩ = some u ∧ w.cell? ⟨g, 4, none⟩ = some v :=
  ⟨by simp [World.cell?, h], by simp [World.cell?, h], by simp [World.cell?, h], by simp [World.cell?, h], by simp [World.cell?, h]⟩
/-- A writer that has met what has no form. -/
theorem Wr.bad {T : TypeId} {w : World} {wb : Nat} {xs : List Int} {f : Bool} (h : Wr T w wb xs f) : Wr T (w.setCell ⟨wb, 1, none⟩ (.bool true)) wb xs true ∧ Below wb w (w.setCell ⟨wb, 1, none⟩ (.bool true)) ∧ KeepW w (w.setCell ⟨wb, 1, none⟩ (.bool true)) wb := by
  obtain ⟨A, c, hrow, hown⟩ := h.row
  have hr2 : (w.setCell ⟨wb, 1, none⟩ (.bool true)).heap[wb]? = some (.cells #[.slice A xs.length c, .bool true] T (0, 0)) := heap_setCell_same w wb 1 _ _ _ hrow
  exact ⟨⟨A, c, hr2, hown.other (row := some wb) ⟨rfl, rfl, rfl, by simp, fun i hi hne => Below.heap_setCell w _ _ i (fun e => hne (by rw [e]))⟩ (fun g' hg' e => by have := hown.ge g' hg'; injection e with e; omega)⟩, (Below.refl wb w).setCell (p := ⟨wb, 1, none⟩) (Nat.le_refl wb) _, fun b hb hne _ => heap_setCell_other w ⟨wb, 1, none⟩ b _ hne, fun b ho => .inl ⟨_, _, _, hrow, OwnW.of hr2 ho⟩, by simp⟩
section
attribute [local go_sem ↓] eqComp0
set_option maxHeartbeats 2000000 in
theorem comp_any {w : World} {wb : Nat} {xs : List Int} {f : Bool} (h : Wr 120 w wb xs f) (op a b c : Int) (s : ByteArray) (hs : s.size ≤ 2000000) (hl : xs.length ≤ 700000000) :
    Calls Try.prog 92 #[.pointer (some ⟨wb, 0, none⟩), .agg #[.int .i64 op, .int .i64 a, .int .i64 b, .int .i64 c, .string s]] w fun e w' => e = .returned (.tuple #[]) ∧ Wr 120 w' wb (xs ++ compO ⟨op, a, b, c, s⟩) (f || compB ⟨op, a, b, c, s⟩) ∧ Below wb w w' ∧ KeepW w w' wb := by
  have hlt := h.lt
  obtain ⟨W, hW⟩ : ∃ W, W = w.alloc (.cells #[.int .i64 op, .int .i64 a, .int .i64 b, .int .i64 c, .string s] 155) := ⟨_, rfl⟩
  have HA : Wr 120 W wb xs f := by rw [hW]; exact h.alloc _
  have HK0 : Hid (KeepW w W wb) := Lib.hid (by rw [hW]; exact KeepW.alloc hlt _)
  have HB0 : Hid (Below wb w W) := Lib.hid (by rw [hW]; exact ((Below.refl _ w).alloc (Nat.le_refl _) _).mono (by omega))
  have hab : W.heap[w.heap.size]? = some (.cells #[.int .i64 op, .int .i64 a, .int .i64 b, .int .i64 c, .string s] 155 (0, 0)) := by rw [hW]; exact heap_alloc_new w _
  have HNO : Hid (¬ OwnW W wb w.heap.size) := Lib.hid (by rw [hW]; exact ownW_new h (Nat.le_refl _) (Below.heap_alloc w _ wb hlt))
  have HROW := Lib.hid hab
  have hz : w.heap.size < W.heap.size := by rw [hW]; simp
  have HBX : Hid (∀ w', KeepW W w' wb → w'.heap[w.heap.size]? = some (.cells #[.int .i64 op, .int .i64 a, .int .i64 b, .int .i64 c, .string s] 155 (0, 0))) := Lib.hid (fun w' hk => (hk.block w.heap.size hz (by omega) HNO.out).trans HROW.out)
  obtain ⟨c0, c1, c2, c3, c4⟩ := cells5 hab
  have HF := Lib.hid (number_any HA op (by omega))
  have HWE := Lib.hid hW
  clear h hab HA hW
  go_enter Try.func92, Try.ntmps92
  go_upto_region 1 with fail
  rw [← HWE.out]
  go_wp2_with fail
  refine HF.out.mono ?_
  rintro e w1 ⟨rfl, h1, hb1, hk1⟩
  obtain ⟨d0, d1, d2, d3, d4⟩ := cells5 (HBX.out w1 hk1)
  have HB1 := Lib.hid (HB0.out.trans hb1)
  have HK1 := Lib.hid hk1
  have HKK1 := Lib.hid (HK0.out.trans hk1)
  have H1 := Lib.hid h1
  have hlo : (xs ++ outI op).length ≤ 800000000 := by rw [List.length_append]; have := outI_len op; omega
  clear h1 hb1 hk1 c0 c1 c2 c3 c4
  by_cases h0 : op = 0
  · subst h0
    cases hzv : zeroV a b c s with
    | true =>
      have HE : Hid (Wr 120 w1 wb (xs ++ compO ⟨0, a, b, c, s⟩) (f || compB ⟨0, a, b, c, s⟩)) := Lib.hid (by
        have e1 : compO ⟨0, a, b, c, s⟩ = outI 0 := by simp [compO]
        have e2 : compB ⟨0, a, b, c, s⟩ = !okI 0 := by simp [compB, hzv]
        rw [e1, e2]; exact H1.out)
      clear hlo
      go_wp2
      go_end0
      exact ⟨rfl, HE.out, HB1.out, HKK1.out⟩
    | false =>
      have HE : Hid (Wr 120 (w1.setCell ⟨wb, 1, none⟩ (.bool true)) wb (xs ++ compO ⟨0, a, b, c, s⟩) (f || compB ⟨0, a, b, c, s⟩)) := Lib.hid (by
        have e1 : compO ⟨0, a, b, c, s⟩ = outI 0 := by simp [compO]
        have e2 : (f || compB ⟨0, a, b, c, s⟩) = true := by simp [compB, hzv]
        rw [e1, e2]; exact (Wr.bad H1.out).1)
      have HE2 := Lib.hid (Wr.bad H1.out).2
      obtain ⟨AW, cW, hrow, _⟩ := H1.out.row
      obtain ⟨g0, g1, g2, g3⟩ := row2 hrow
      clear hlo hrow
      go_wp2
      go_end0
      exact ⟨rfl, HE.out, HB1.out.trans HE2.out.1, HKK1.out.trans HE2.out.2⟩
  · have hne : (op != 0) = true := by simp [h0]
    have HV := Lib.hid (version_any H1.out a b c s hs hlo)
    have HEQ : Hid (xs ++ outI op ++ verO a b c s = xs ++ compO ⟨op, a, b, c, s⟩ ∧ (f || !okI op || verB a b c) = (f || compB ⟨op, a, b, c, s⟩)) := Lib.hid ⟨by simp [compO, h0, List.append_assoc], by simp [compB, h0, Bool.or_assoc]⟩
    clear hlo
    go_wp2_with fail
    refine HV.out.mono ?_
    rintro e w2 ⟨rfl, h2, hb2, hk2⟩
    rw [HEQ.out.1, HEQ.out.2] at h2
    have H2 := Lib.hid h2
    have HB2 := Lib.hid (HB1.out.trans hb2)
    have HK2 := Lib.hid (HKK1.out.trans hk2)
    clear h2 hb2 hk2 d0 d1 d2 d3 d4
    go_wp2
    go_end0
    exact ⟨rfl, H2.out, HB2.out, HK2.out⟩
end
end
end Go.Proofs.Ytmfoammkcokcoaa
