/-
  CONTRACT of slices.SortFunc with the closure of Due, over this translation.
-/
import Derived.Test.YtinphdphloddmabCNext
import Derived.Test.YtinphdphloddmabCLay
import Derived.Shelf.SlSortCmp.NoneTotal
namespace Go.Proofs.Ytinphdphloddmab
open Go.RowKit Go.Sort
open ByteP
set_option linter.unusedVariables false
set_option maxRecDepth 10000

/-- A number that an int holds. -/
abbrev I64 : Type := { x : Int // -9223372036854775808 ≤ x ∧ x ≤ 9223372036854775807 }
def encI (x : I64) : Value := .int .i64 x.1
def tOf (G : Int → Option Int) (x : Int) : Int := (G x).getD 0
def cfI (G : Int → Option Int) (x y : I64) : Int := orI (cmpI (tOf G x.1) (tOf G y.1)) (cmpI x.1 y.1)
theorem lt_cf (G : Int → Option Int) (x y : I64) : ltOf (cfI G) x y = decide (tOf G x.1 < tOf G y.1 ∨ (tOf G x.1 = tOf G y.1 ∧ x.1 < y.1)) := by
  unfold ltOf cfI
  generalize tOf G x.1 = a
  generalize tOf G y.1 = b
  generalize x.1 = p
  generalize y.1 = q
  rcases Int.lt_trichotomy a b with h | h | h
  · rw [show cmpI a b = -1 from if_pos h, show orI (-1) (cmpI p q) = -1 from if_neg (by decide)]; simp [h]
  · subst h
    rw [show cmpI a a = 0 by unfold cmpI; simp, show orI 0 (cmpI p q) = cmpI p q from if_pos rfl]
    rcases Int.lt_trichotomy p q with h | h | h
    · rw [show cmpI p q = -1 from if_pos h]; simp [h]
    · subst h; rw [show cmpI p p = 0 by unfold cmpI; simp]; simp
    · rw [show cmpI p q = 1 by unfold cmpI; rw [if_neg (by omega), if_pos h]]; simp; omega
  · rw [show cmpI a b = 1 by unfold cmpI; rw [if_neg (by omega), if_pos h], show orI 1 (cmpI p q) = 1 from if_neg (by decide)]; simp; omega
theorem swo_cf (G : Int → Option Int) : SWO (ltOf (cfI G)) where
  irrefl x := by rw [lt_cf]; simp
  trans x y z h1 h2 := by rw [lt_cf] at *; simp at *; omega
  ntrans x y z h1 h2 := by rw [lt_cf] at *; simp at *; omega
theorem look_al {w : World} {bm n : Nat} {D : DataW Unit} {G : Int → Option Int} (hown : w.ownsMap Try.prog 3 (plainElem Try.prog 3) bm n D) (hG : AlD D G) (x : I64) :
    (Instr.lookup 95 (.map (some bm)) (.int .i64 x.1) false).run Try.prog w = .ok (.int .i64 (tOf G x.1)) w := by
  obtain ⟨v2, ps2, hrun2, hv2⟩ := hown.lookup lawI Try.underlying95 (zeroI w) (zd := .lit (.int .i64 0)) (zp := []) (plainElem_int Try.underlying3 (i64_wf 0 (by omega) (by omega))) (keyI x.2.1 x.2.2)
  have hat : D.atKey (kI x.1) (.lit (.int .i64 0)) = .lit (.int .i64 (tOf G x.1)) := by
    unfold tOf
    cases hg : G x.1 with
    | some t => exact (hG x.1).2 t hg _
    | none => rw [Maps.atKey_of_not_has (by rw [(hG x.1).1, hg]; rfl)]; rfl
  rw [hat] at hv2
  obtain ⟨c, rfl, hcc⟩ := plainElem_int_inv Try.underlying3 hv2
  have e : tOf G x.1 = c := by
    have h := hcc.1
    injection h with h1 h2
    injection h1 with h1
    injection h1
  rw [e]; exact hrun2
theorem sortW_block {α : Type} [Inhabited α] {enc : α → Value} {w : World} {blk off m : Nat} {dk : Array α} {os : Array Obj} {i : Nat} (hi : i < w.heap.size) (hne : i ≠ blk) : (sortWorld enc w blk off m dk os).heap[i]? = w.heap[i]? := by
  unfold sortWorld
  rw [heap_grow_old _ _ (by simpa using hi)]
  have : blk ≠ i := fun e => hne e.symm
  simp [putRow, mapBlock, Sort.ahead, Array.getElem?_modify, this]
theorem sortW_grown {α : Type} [Inhabited α] {enc : α → Value} {w : World} {blk off m : Nat} {dk : Array α} {os : Array Obj} : w.grownBy (sortWorld enc w blk off m dk os) (some blk) :=
  ⟨rfl, rfl, rfl, by unfold sortWorld; simp [putRow, mapBlock, Sort.ahead], fun i hi hne => sortW_block hi (fun e => hne (by rw [e]))⟩
theorem alloc_grow (w : World) (o : Obj) : w.alloc o = grow w #[o] := by
  unfold grow World.alloc
  simp
section
variable [Inhabited I64]
theorem cmp_lays {w : World} {vb cb bm n blk : Nat} {now : Int} {D : DataW Unit} {G : Int → Option Int} (hv : w.cell? ⟨vb, 0, none⟩ = some (.pointer (some ⟨cb, 0, none⟩))) (hvl : vb < w.heap.size) (hvb : vb ≠ blk) (hc : Clk w cb bm now n D) (hcb : cb ≠ blk) (hbm : bm ≠ blk) (hG : AlD D G) (size : Nat) :
    CmpLays1 Try.prog 55 #[.pointer (some ⟨vb, 0, none⟩)] encI (cfI G) blk 0 size w := by
  intro m os dk hs x y
  have hg := sortW_grown (enc := encI) (w := w) (blk := blk) (off := 0) (m := m) (dk := dk) (os := os)
  generalize sortWorld encI w blk 0 m dk os = W at *
  have own : W.ownsMap Try.prog 3 (plainElem Try.prog 3) bm n D := hc.own.kept hg (fun e => hbm (by injection e))
  have hvW : W.cell? ⟨vb, 0, none⟩ = some (.pointer (some ⟨cb, 0, none⟩)) := (World.cell?_of_block (a := ⟨vb, 0, none⟩) (hg.block vb hvl (fun e => hvb (by injection e)))).trans hv
  have h1W : W.cell? ⟨cb, 1, none⟩ = some (.map (some bm)) := (World.cell?_of_block (a := ⟨cb, 1, none⟩) (hg.block cb hc.lt (fun e => hcb (by injection e)))).trans hc.c1
  have own' : W.drew.ownsMap Try.prog 3 (plainElem Try.prog 3) bm n D := own
  refine (closure_any (x := x.1) (y := y.1) hvW h1W (look_al own' hG x) (look_al own' hG y)).mono ?_
  rintro e w' ⟨rfl, o, rfl⟩
  exact ⟨rfl, 1, #[o], alloc_grow _ _⟩
theorem sortF_any {w : World} {base vb cb bm n k c : Nat} {A : Option Addr} {xs : List Int} {now : Int} {D : DataW Unit} {G : Int → Option Int} (h : Own w base (.slice A k c) k xs) (hk : k ≤ 1099511627776) (hx : ∀ x ∈ xs, -9223372036854775808 ≤ x ∧ x ≤ 9223372036854775807)
    (hv : w.cell? ⟨vb, 0, none⟩ = some (.pointer (some ⟨cb, 0, none⟩))) (hvl : vb < base) (hc : Clk w cb bm now n D) (hcb : cb < base) (hbm : bm < base) (hb : base ≤ w.heap.size) (hG : AlD D G) :
    Calls Try.prog 54 #[.slice A k c, .func (.func 55) #[] #[.pointer (some ⟨vb, 0, none⟩)]] w fun e w' => e = .returned (.tuple #[]) ∧ w.grownBy w' (Value.slice A k c).ownBlock := by
  have hl := h.len
  by_cases hk0 : k = 0
  · subst hk0
    refine (Go.Proofs.AnyF.slices_SortFunc_none (P := Try.prog) (ρ := Try.laysSF_ren) { Try.laysSF with } A c _ w).mono ?_
    rintro e w' ⟨rfl, rfl⟩
    exact ⟨rfl, (World.grownBy.refl _ _)⟩
  · obtain ⟨g, c', hvv, hge, hlt⟩ := h.form (by omega)
    injection hvv with h1 h2 h3
    subst h1 h3
    obtain ⟨d, hd⟩ : ∃ d : Array I64, d = (xs.pmap (fun x hx => (⟨x, hx⟩ : I64)) hx).toArray := ⟨_, rfl⟩
    have hds : d.size = k := by rw [hd, List.size_toArray, List.length_pmap]; exact hl
    have hH : Holds encI w g 0 d := by
      intro j hj
      have hj' : j < xs.length := by rw [hl, ← hds]; exact hj
      refine ⟨?_, by rw [Nat.zero_add]; exact h.free j⟩
      rw [Nat.zero_add, h.cell (by omega)]
      have e : d[j]! = ⟨xs[j], hx _ (List.getElem_mem hj')⟩ := by
        rw [getElem!_pos d j hj]
        subst hd
        rw [List.getElem_toArray, List.getElem_pmap]
      rw [e]
      unfold encI ix
      simp [List.getD, hj']
    have eg : ∀ args w, (callFunc 55 args).run Try.prog w = .ok (.enter 55 args) w := enters_of Try.func55 (by kernel_rfl) rfl
    have hS := Go.Proofs.Any.slices_SortFunc Try.laysSF encI (fun _ => rfl) (cfI G) (swo_cf G) 55 #[.pointer (some ⟨vb, 0, none⟩)] g 0 c d w eg (cmp_lays hv (by omega) (by omega) hc (by omega) (by omega) hG d.size) hH hlt (by omega)
    rw [hds] at hS
    refine hS.mono ?_
    rintro e w' ⟨rfl, d', m, os, _, _, rfl⟩
    exact ⟨rfl, sortW_grown⟩
end
end Go.Proofs.Ytinphdphloddmab
