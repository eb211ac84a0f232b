/-
  CONTRACTS of package dock, over this translation: Crash.
-/
import Derived.Test.YtfpcfbolpnfacaaKNames
namespace Go.Proofs.Ytfpcfbolpnfacaa
open Go.RowKit
open ByteP
set_option linter.unusedVariables false
set_option maxRecDepth 10000

/-- A slice of int that is only read, and lies in no block of some. -/
def RdZ (w : World) (M : Nat → Prop) (D : Option Addr) (m : Nat) (ys : List Int) : Prop :=
  ys.length = m ∧ (0 < m → ∃ b off, D = some ⟨b, off, none⟩ ∧ b < w.heap.size ∧ ¬ M b ∧ ∀ j, j < m → w.cell? ⟨b, off + j, none⟩ = some (.int .i64 (ix ys j)))
section
variable {w w' : World} {M : Nat → Prop} {D : Option Addr} {m : Nat} {ys : List Int}
theorem RdZ.fr (h : RdZ w M D m ys) (hf : Fr w w' M) : RdZ w' M D m ys := ⟨h.1, fun hm => by
  obtain ⟨b, off, e, hb, hn, hc⟩ := h.2 hm
  exact ⟨b, off, e, Nat.lt_of_lt_of_le hb hf.size, hn, fun j hj => (World.cell?_of_block (a := ⟨b, off + j, none⟩) (hf.block b hb hn)).trans (hc j hj)⟩⟩
theorem RdZ.below (h : RdZ w M D m ys) (hb : Below w.heap.size w w') : RdZ w' M D m ys := h.fr (Fr.of_below hb)
theorem RdZ.at_ (h : RdZ w M D m ys) {k : Nat} (hk : k < m) : ∃ b off, D = some ⟨b, off, none⟩ ∧ w.cell? ⟨b, off + k, none⟩ = some (.int .i64 (ix ys k)) := by
  obtain ⟨b, off, e, hb, hn, hc⟩ := h.2 (by omega)
  exact ⟨b, off, e, hc k hk⟩
theorem RdZ.of_rd {B : Nat} (h : Rd w B D m ys) (hB : B ≤ w.heap.size) (hM : ∀ b, b < B → ¬ M b) : RdZ w M D m ys := ⟨h.1, fun hm => by
  obtain ⟨b, off, e, hb, hc⟩ := h.2 hm
  exact ⟨b, off, e, by omega, hM b hb, hc⟩⟩
theorem RdZ.of_own {base n c : Nat} {A : Option Addr} (h : Own w base (.slice A n c) n ys) (hM : ∀ b, base ≤ b → ¬ M b) : RdZ w M A n ys := ⟨h.len, fun hm => by
  obtain ⟨g, c', hv, hge, hlt⟩ := h.form hm
  injection hv with h1 h2 h3
  subst h1 h3
  exact ⟨g, 0, rfl, hlt, hM g hge, fun j hj => by rw [Nat.zero_add]; exact h.cell hj⟩⟩
end

theorem ix_mem {xs : List Int} {j : Nat} (h : j < xs.length) : ix xs j ∈ xs := by
  have e : ix xs j = xs[j] := by unfold ix; simp [List.getD, h]
  rw [e]; exact List.getElem_mem h
/-- How many bytes of a file stay behind its safe ones, and the dock behind so many files. -/
def kpt (ks : List Int) (l : Nat) (f : Fi) : Nat := if l < ks.length then (min (max (ix ks l) 0) ((f.n : Int) - (f.s : Int))).toNat else 0
structure Cr where
  F : Int → Option Fi
  d : Int
  l : Nat
def crS (ks : List Int) (x : Int) (c : Cr) : Cr :=
  if (fileAt c.F x).s = (fileAt c.F x).n then c
  else ⟨putF c.F x (cutTo (fileAt c.F x) ((fileAt c.F x).s + kpt ks c.l (fileAt c.F x)) ((fileAt c.F x).s + kpt ks c.l (fileAt c.F x))), c.d - (((fileAt c.F x).n : Int) - ((fileAt c.F x).s + kpt ks c.l (fileAt c.F x) : Nat)), c.l + 1⟩
def crK (F : Int → Option Fi) (ks ns : List Int) : Nat → Cr
  | 0 => ⟨F, 0, 0⟩
  | j + 1 => crS ks (ix ns j) (crK F ks ns j)
theorem crS_same {ks : List Int} {x : Int} {c : Cr} {f : Fi} (hf : c.F x = some f) (h : f.s = f.n) : crS ks x c = c := by
  have e : fileAt c.F x = f := by unfold fileAt; rw [hf]; rfl
  unfold crS; rw [e, if_pos h]
theorem crS_cut {ks : List Int} {x : Int} {c : Cr} {f : Fi} (hf : c.F x = some f) (h : ¬ f.s = f.n) : crS ks x c = ⟨putF c.F x (cutTo f (f.s + kpt ks c.l f) (f.s + kpt ks c.l f)), c.d - ((f.n : Int) - (f.s + kpt ks c.l f : Nat)), c.l + 1⟩ := by
  have e : fileAt c.F x = f := by unfold fileAt; rw [hf]; rfl
  unfold crS; rw [e, if_neg h]
theorem putF_some {F : Int → Option Fi} {k x : Int} {f f' : Fi} (hf : F k = some f') : (putF F k f x).isSome = (F x).isSome := by
  unfold putF
  by_cases e : x = k
  · rw [if_pos e, e, hf]; rfl
  · rw [if_neg e]
theorem crS_some (ks : List Int) (x : Int) (c : Cr) (hx : (c.F x).isSome = true) (y : Int) : ((crS ks x c).F y).isSome = (c.F y).isSome := by
  obtain ⟨f, hf⟩ := Option.isSome_iff_exists.1 hx
  by_cases h : f.s = f.n
  · rw [crS_same hf h]
  · rw [crS_cut hf h]; exact putF_some hf
theorem crK_some {F : Int → Option Fi} {ks ns : List Int} (hns : ∀ x, x ∈ ns → (F x).isSome = true) : ∀ j, j ≤ ns.length → ∀ y, ((crK F ks ns j).F y).isSome = (F y).isSome
  | 0, _, y => rfl
  | j + 1, hj, y => by
    have ih := crK_some (ks := ks) hns j (by omega)
    show ((crS ks (ix ns j) (crK F ks ns j)).F y).isSome = _
    rw [crS_some _ _ _ (by rw [ih]; exact hns _ (ix_mem (by omega)))]
    exact ih y
theorem kpt_le (ks : List Int) (l : Nat) (f : Fi) (h : f.s ≤ f.n) : f.s + kpt ks l f ≤ f.n := by
  unfold kpt
  by_cases e : l < ks.length
  · rw [if_pos e]; omega
  · rw [if_neg e]; omega
theorem mine_put {db mb : Nat} {F : Int → Option Fi} {k : Int} {f : Fi} (hf : F k = some f) (p s : Nat) (b : Nat) (h : Mine db mb (putF F k (cutTo f p s)) b) : Mine db mb F b := by
  rcases h with e | e | ⟨k', f', hf', e⟩
  · exact .inl e
  · exact .inr (.inl e)
  · unfold putF at hf'
    by_cases hk : k' = k
    · rw [if_pos hk] at hf'
      injection hf' with hf'
      subst hf'
      refine .inr (.inr ⟨k, f, hf, ?_⟩)
      obtain ⟨A, n, c, bs, s'⟩ := f
      cases A with
      | none => cases e
      | some a => exact e
    · rw [if_neg hk] at hf'
      exact .inr (.inr ⟨k', f', hf', e⟩)
theorem Fr.less {w w' : World} {M M' : Nat → Prop} (h : Fr w w' M') (hm : ∀ b, M' b → M b) : Fr w w' M := ⟨h.os, h.tape, h.output, h.size, fun b hb hn => h.block b hb (fun e => hn (hm b e))⟩

/-- What holds behind so many names. -/
structure CrAt (wr w : World) (db mb K : Nat) (n : Nm) (F : Int → Option Fi) (ks ns : List Int) (j : Nat) : Prop where
  dk : Dk wr db mb (K + j) { n with size := n.size + (crK F ks ns j).d } (crK F ks ns j).F
  fr : Fr w wr (Mine db mb F)
  mine : ∀ b, Mine db mb (crK F ks ns j).F b → Mine db mb F b
  d0 : -(16777216 * (j : Int)) ≤ (crK F ks ns j).d
  d1 : (crK F ks ns j).d ≤ 0
  l : (crK F ks ns j).l ≤ j

theorem Dk.moreK {w : World} {db mb K K' : Nat} {n : Nm} {F : Int → Option Fi} (h : Dk w db mb K n F) (hK : K ≤ K') : Dk w db mb K' n F := by
  obtain ⟨D, hm, hD⟩ := h.map
  exact ⟨h.lt, h.cells, ⟨D, hm.mono hK, hD⟩, h.own, h.good, h.apart⟩
section
variable {wr wr' w : World} {db mb K j : Nat} {n : Nm} {F : Int → Option Fi} {ks ns : List Int}
theorem CrAt.next_same (h : CrAt wr w db mb K n F ks ns j) (he : crK F ks ns (j + 1) = crK F ks ns j) (o : Obj) : CrAt (wr.alloc o) w db mb K n F ks ns (j + 1) := by
  constructor
  · rw [he]; exact (h.dk.alloc o).moreK (by omega)
  · exact h.fr.then_below ((Below.refl _ _).alloc (Nat.le_refl _) _)
  · rw [he]; exact h.mine
  · rw [he]; have := h.d0; omega
  · rw [he]; exact h.d1
  · rw [he]; have := h.l; omega
theorem CrAt.next_cut (h : CrAt wr w db mb K n F ks ns j) {x : Int} {f : Fi} {l : Nat} (hx : ix ns j = x) (hl : (crK F ks ns j).l = l) (hf : (crK F ks ns j).F x = some f) (hne : ¬ f.s = f.n) (hsn : f.s ≤ f.n) (hfn : f.n ≤ 16777216)
    {wx w' : World} (hX : Fr wr wx (Mine db mb F)) (hk : Dk w' db mb (K + j + 1) { n with size := n.size + (crK F ks ns j).d - ((f.n : Int) - (f.s + kpt ks l f : Nat)) } (putF (crK F ks ns j).F x (cutTo f (f.s + kpt ks l f) (f.s + kpt ks l f))))
    (hfr : Fr wx w' (Mine db mb (crK F ks ns j).F)) : CrAt w' w db mb K n F ks ns (j + 1) ∧ (crK F ks ns (j + 1)).l = l + 1 := by
  have he : crK F ks ns (j + 1) = ⟨putF (crK F ks ns j).F x (cutTo f (f.s + kpt ks l f) (f.s + kpt ks l f)), (crK F ks ns j).d - ((f.n : Int) - (f.s + kpt ks l f : Nat)), l + 1⟩ := by
    show crS ks (ix ns j) _ = _
    rw [hx, crS_cut hf hne, hl]
  have hle := kpt_le ks l f hsn
  refine ⟨⟨?_, ?_, ?_, ?_, ?_, ?_⟩, by rw [he]⟩
  · rw [he]
    have e : n.size + (crK F ks ns j).d - ((f.n : Int) - (f.s + kpt ks l f : Nat)) = n.size + ((crK F ks ns j).d - ((f.n : Int) - (f.s + kpt ks l f : Nat))) := by omega
    rw [e] at hk
    exact hk
  · exact (h.fr.trans hX (fun b hb => .inl hb)).trans hfr (fun b hb => .inl (h.mine b hb))
  · rw [he]; exact fun b hb => h.mine b (mine_put hf _ _ b hb)
  · rw [he]; have := h.d0; simp only; omega
  · rw [he]; have := h.d1; simp only; omega
  · rw [he]; have := h.l; simp only; omega
end
section
variable {w : World} {db mb K : Nat} {n : Nm} {F : Int → Option Fi}
set_option maxHeartbeats 2000000 in
theorem crash_any (h : Dk w db mb K n F) (hK : K ≤ 400000000) (hs0 : -1000000000000000000 ≤ n.size) (hs1 : n.size ≤ 1099511627776) {Ak : Option Addr} {nk ck : Nat} {ks : List Int} (hks : RdZ w (Mine db mb F) Ak nk ks) (hnk : nk ≤ 9223372036854775807) :
    Calls Try.prog 10 #[.pointer (some ⟨db, 0, none⟩), .slice Ak nk ck] w fun e w' => e = .returned (.tuple #[]) ∧ ∃ ns : List Int, Asc ns ∧ (∀ x, x ∈ ns ↔ (F x).isSome = true) ∧ ns.length ≤ K ∧
      Dk w' db mb (K + ns.length) { n with size := n.size + (crK F ks ns ns.length).d, left := -1, down := false } (crK F ks ns ns.length).F ∧ Fr w w' (Mine db mb F) ∧ (∀ b, Mine db mb (crK F ks ns ns.length).F b → Mine db mb F b) := by
  have H := Lib.hid h
  have HKS := Lib.hid hks
  have hkl := hks.1
  clear h hks
  go_enter Try.func10, Try.ntmps10
  go_wp2_with fail
  refine (names_any H.out (by omega)).mono ?_
  rintro e w1 ⟨A, c, ns, rfl, hown, hasc, hmem, hnl, hb1⟩
  have HASC := Lib.hid hasc
  have HMEM := Lib.hid hmem
  have HB1 := Lib.hid hb1
  have H1 := Lib.hid (H.out.below hb1)
  have HNS : Hid (RdZ w1 (Mine db mb F) A ns.length ns) := Lib.hid (RdZ.of_own hown (fun b hb => H.out.notMine hb))
  have HKS1 : Hid (RdZ w1 (Mine db mb F) Ak nk ks) := Lib.hid (HKS.out.below hb1)
  have HSM : Hid (∀ x, x ∈ ns → (F x).isSome = true) := Lib.hid (fun x hx => (hmem x).1 hx)
  clear hown hasc hmem hb1
  go_wp2
  go_loopw [4, 12] (fun lo i wr => ∃ j : Nat, j ≤ ns.length ∧ i = .int .i64 (j : Int) ∧ lo = .int .i64 ((crK F ks ns j).l : Int) ∧ Hid (CrAt wr w1 db mb K n F ks ns j)) (fun _ i _ => ns.length - (intOf i).toNat)
  case atStart => exact ⟨0, by omega, rfl, rfl, Lib.hid ⟨by simpa [crK] using H1.out, Fr.refl _ _, fun b hb => hb, by simp [crK], by simp [crK], by simp [crK]⟩⟩
  case round =>
    obtain ⟨j, hj, rfl, rfl, hat⟩ := hrel
    by_cases hjm : j < ns.length
    · have hd : decide ((j : Int) < (ns.length : Int)) = true := by simp; omega
      obtain ⟨nb, no, hA, hcell⟩ := (HNS.out.fr hat.out.fr).at_ hjm
      subst hA
      obtain ⟨f, hf⟩ := Option.isSome_iff_exists.1 ((crK_some (ks := ks) HSM.out j (by omega) (ix ns j)).trans (HSM.out _ (ix_mem hjm)))
      have HF := Lib.hid hf
      have hg := hat.out.dk.good _ _ hf
      have HG := Lib.hid hg
      have hc2 := hat.out.dk.c2
      have hlk := (hat.out.dk.look (k := ix ns j) (by omega) (by omega) hf).2
      have HLK := Lib.hid hat.out.l
      have hadd : IntKind.i64.wrap ((j : Int) + 1) = ((j + 1 : Nat) : Int) := by rw [IntWalk.i64_in _ (by omega)]; omega
      have hlb : j < 1099511627776 := by omega
      clear hf hg
      generalize hx : ix ns j = x at *
      have HX := Lib.hid hx
      clear hx
      generalize hl : (crK F ks ns j).l = l at *
      have HL := Lib.hid hl
      clear hl
      by_cases hsn : f.s = f.n
      · have hq : ((f.s : Int) == (f.n : Int)) = true := by simp; omega
        go_wp2
        go_roundw
        case rel =>
          have HE : crK F ks ns (j + 1) = crK F ks ns j := by show crS ks (ix ns j) _ = _; rw [HX.out]; exact crS_same HF.out hsn
          refine ⟨j + 1, by omega, rfl, by rw [HE, HL.out], Lib.hid ?_⟩
          exact hat.out.next_same HE _
        case measure => simp [intOf]; omega
      · have hq : ((f.s : Int) == (f.n : Int)) = false := by simp; omega
        have hle := kpt_le ks l f HG.out.2.2.1
        have hfn : f.n ≤ 16777216 := HG.out.2.2.2.2
        have hadd2 : IntKind.i64.wrap ((f.s : Int) + (kpt ks l f : Int)) = ((f.s + kpt ks l f : Nat) : Int) := by rw [IntWalk.i64_in _ (by omega)]; omega
        have hadd3 : IntKind.i64.wrap ((l : Int) + 1) = ((l + 1 : Nat) : Int) := by rw [IntWalk.i64_in _ (by have := HLK.out; omega)]; omega
        have hbx := heap_alloc_new wr (.cells #[.slice f.A f.n f.c, .int .i64 (f.s : Int)] 57)
        have x0 := cellK_of_heap hbx (i := 0) (x := .slice f.A f.n f.c) rfl
        have x1 := cellK_of_heap hbx (i := 1) (x := .int .i64 (f.s : Int)) rfl
        clear hbx
        by_cases hlk2 : l < nk
        · have hd2 : decide ((l : Int) < (nk : Int)) = true := by simp; omega
          obtain ⟨kb, ko, hKA, hkc⟩ := ((HKS1.out.fr hat.out.fr).below ((Below.refl _ _).alloc (Nat.le_refl _) (.cells #[.slice f.A f.n f.c, .int .i64 (f.s : Int)] 57))).at_ hlk2
          subst hKA
          have hi2 : (l : Int) < (nk : Int) := by omega
          have hsub : IntKind.i64.wrap ((f.n : Int) - (f.s : Int)) = (f.n : Int) - (f.s : Int) := IntWalk.i64_in _ (by omega)
          go_wp2_with fail
          go_quiet (fail)
          rename_i nq
          go_wp2_with fail
          have ek : (f.s : Int) + min (max (ix ks l) 0) ((f.n : Int) - (f.s : Int)) = ((f.s + kpt ks l f : Nat) : Int) := by
            unfold kpt; rw [if_pos (by omega)]; have := HG.out.2.2.1; omega
          rw [ek]
          have HAT := Lib.hid hat
          have HD0 := Lib.hid hat.out.d0
          have HD1 := Lib.hid hat.out.d1
          refine (keep_any (p := f.s + kpt ks l f) (s := f.s + kpt ks l f) ((hat.out.dk.alloc _).drewN nq) (by omega) (by have := HD0.out; simp only; omega) (by have := HD1.out; simp only; omega) HF.out hle (Nat.le_refl _)).mono ?_
          rintro e w5 ⟨rfl, hk5, hfr5⟩
          obtain ⟨hc5, hl5⟩ := hat.out.next_cut HX.out HL.out HF.out hsn HG.out.2.2.1 hfn ((Fr.of_below ((Below.refl _ _).alloc (Nat.le_refl _) _)).trans (Fr.drewN _ (Mine db mb F) nq) (fun b hb => .inl hb)) hk5 hfr5
          have HC5 := Lib.hid hc5
          clear hk5 hfr5 hc5
          go_wp2
          go_roundw
          case rel => exact ⟨j + 1, by omega, rfl, by rw [hl5, Int.natCast_add]; rfl, HC5⟩
          case measure => simp [intOf]; omega
        · have hd2 : decide ((l : Int) < (nk : Int)) = false := by simp; omega
          have hk0 : kpt ks l f = 0 := by unfold kpt; rw [if_neg (by omega)]
          go_wp2_with fail
          have ek : f.s = f.s + kpt ks l f := by rw [hk0]; rfl
          have HC : ∀ (wx : World) Q, Calls Try.prog 28 #[.pointer (some ⟨db, 0, none⟩), .int .i64 x, .int .i64 ((f.s + kpt ks l f : Nat) : Int), .int .i64 ((f.s + kpt ks l f : Nat) : Int)] wx Q → Calls Try.prog 28 #[.pointer (some ⟨db, 0, none⟩), .int .i64 x, .int .i64 (f.s : Int), .int .i64 (f.s : Int)] wx Q := fun wx Q hq => by rw [← ek] at hq; exact hq
          apply HC
          clear HC ek
          have HAT := Lib.hid hat
          have HD0 := Lib.hid hat.out.d0
          have HD1 := Lib.hid hat.out.d1
          refine (keep_any (p := f.s + kpt ks l f) (s := f.s + kpt ks l f) (hat.out.dk.alloc _) (by omega) (by have := HD0.out; simp only; omega) (by have := HD1.out; simp only; omega) HF.out hle (Nat.le_refl _)).mono ?_
          rintro e w5 ⟨rfl, hk5, hfr5⟩
          obtain ⟨hc5, hl5⟩ := hat.out.next_cut HX.out HL.out HF.out hsn HG.out.2.2.1 hfn (Fr.of_below ((Below.refl _ _).alloc (Nat.le_refl _) _)) hk5 hfr5
          have HC5 := Lib.hid hc5
          clear hk5 hfr5 hc5
          go_wp2
          go_roundw
          case rel => exact ⟨j + 1, by omega, rfl, by rw [hl5, Int.natCast_add]; rfl, HC5⟩
          case measure => simp [intOf]; omega
    · have hd : decide ((j : Int) < (ns.length : Int)) = false := by simp; omega
      obtain rfl : j = ns.length := by omega
      have hdk := hat.out.dk
      have hf3 := (hdk.setDown false).fz 3
      have hf4 := hdk.fz 4
      have hc4 := hdk.c4
      have hc3 := (hdk.setDown false).c3
      have HDK := Lib.hid hdk
      clear hdk
      go_wp2
      go_end0
      exact ⟨rfl, ns, HASC.out, HMEM.out, hnl, (HDK.out.setDown false).setLeft (-1), Fr.of_below_then HB1.out ((hat.out.fr.trans (M' := Mine db mb F) (Fr.setCell _ _ (.inl rfl) _) (fun b hb => .inl hb)).trans (M' := Mine db mb F) (Fr.setCell _ _ (.inl rfl) _) (fun b hb => .inl hb)), hat.out.mine⟩
end
end Go.Proofs.Ytfpcfbolpnfacaa
