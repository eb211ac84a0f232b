/-
  CONTRACT of the document's From, over this translation.
-/
import Derived.Test.YtfcabdgidlnljaaDoorDQue
import Derived.Test.YtfcabdgidlnljaaDoorLOwnB
import Derived.Test.YtfcabdgidlnljaaDoorDFromP
import Derived.Deep.LoopGhost
import Derived.Deep.DeepCutAuto
namespace Go.Proofs.YtfcabdgidlnljaaDoor
open Go.RowKit
open DiP
set_option linter.unusedVariables false

/-- Where From stands: gb the graph, ob what was found. -/
structure FrAt (wr w : World) (B gb ob N m c : Nat) (A : Option Addr) (g : List (Nat × Nat)) (f : Nat → Bool) : Prop where
  own : OwnB wr ob (.slice (some ⟨ob, 0, none⟩) N N) N (blL N f)
  box : Boxed wr gb (N : Int) A m c
  rd : RdG wr B A m g
  bel : Below w.heap.size w wr
  l1 : gb < ob
  l2 : B ≤ gb
  l3 : w.heap.size ≤ gb
  l4 : ob < wr.heap.size
section
variable {wr w w2 : World} {B gb ob N m c : Nat} {A : Option Addr} {g : List (Nat × Nat)} {f : Nat → Bool}
theorem FrAt.grown {row : Option Nat} (h : FrAt wr w B gb ob N m c A g f) (hg : wr.grownBy w2 row) (hr : ∀ z, row = some z → ob < z) : FrAt w2 w B gb ob N m c A g f := by
  have hne : ∀ x, x ≤ ob → some x ≠ row := fun x hx e => by have := hr x e.symm; omega
  have l1 := h.l1
  have l2 := h.l2
  have l3 := h.l3
  have l4 := h.l4
  refine ⟨?_, ⟨?_, ?_⟩, ?_, h.bel.grown hg h.bel.size (fun z hz => by have := hr z hz; omega), h.l1, h.l2, h.l3, Nat.lt_of_lt_of_le h.l4 hg.size⟩
  · refine ⟨h.own.1, ?_⟩
    rcases h.own.2 with h' | ⟨g', cap, cur, hv, hbg, hh, r⟩
    · exact .inl h'
    · refine .inr ⟨g', cap, cur, hv, hbg, ?_, r⟩
      have e : g' = ob := by injection hv with e1; injection e1 with e1; injection e1 with e1; exact e1.symm
      subst e
      rw [hg.block g' l4 (hne g' (Nat.le_refl _))]
      exact hh
  · exact (World.cell?_of_block (a := ⟨gb, 0, none⟩) (hg.block gb (by omega) (hne gb (by omega)))).trans h.box.1
  · exact (World.cell?_of_block (a := ⟨gb, 1, none⟩) (hg.block gb (by omega) (hne gb (by omega)))).trans h.box.2
  · exact RdE.keep h.rd (fun p hp => World.cell?_of_block (hg.block p.block (by omega) (hne p.block (by omega))))
theorem FrAt.alloc (h : FrAt wr w B gb ob N m c A g f) (o : Obj) : FrAt (wr.alloc o) w B gb ob N m c A g f :=
  h.grown (row := none) ⟨rfl, rfl, rfl, by simp, fun k hk _ => by first | exact heap_alloc_old wr o hk | exact Go.heap_alloc_old wr o k hk⟩ nofun
theorem FrAt.set (h : FrAt wr w B gb ob N m c A g f) (i : Nat) (hi : i < N) : FrAt (wr.setCell ⟨ob, i, none⟩ (.bool true)) w B gb ob N m c A g (updF f i) := by
  have l1 := h.l1
  have l2 := h.l2
  have l3 := h.l3
  have l4 := h.l4
  refine ⟨?_, ⟨?_, ?_⟩, RdE.keep h.rd (fun p hp => World.cell?_setCell_other _ _ _ _ (fun e => by subst e; simp at hp; omega)), h.bel.setCell (by simp; omega) _, h.l1, h.l2, h.l3, by simpa using h.l4⟩
  · have e : blL N (updF f i) = (blL N f).set i true := by rw [blL_set f true hi]; rfl
    rw [e]; exact h.own.store i true
  · rw [World.cell?_setCell_other _ _ _ _ (fun e => by injection e; omega)]; exact h.box.1
  · rw [World.cell?_setCell_other _ _ _ _ (fun e => by injection e; omega)]; exact h.box.2
theorem OwnQ.ge {v : Value} {base : Nat} {l : List Int} (h : OwnQ wr base v l) : ∀ z, v.ownBlock = some z → base ≤ z := by
  obtain ⟨g, off, c, cur, rfl, hb, _⟩ := h
  intro z hz
  simp [Value.ownBlock] at hz
  omega
end

set_option maxRecDepth 100000 in
set_option maxHeartbeats 2000000 in
theorem from_any {w : World} {B m c N a : Nat} {A : Option Addr} {g : List (Nat × Nat)} (hx : RdG w B A m g) (hi : InN N g) (hn : N ≤ 64) (hm : m ≤ 4096) (hB : B ≤ w.heap.size) (ha : a < N) :
    Calls Tryd.prog 25 #[.agg #[.int .i64 (N : Int), .slice A m c], .int .i64 (a : Int)] w fun e w' =>
      ∃ ob, e = .returned (.slice (some ⟨ob, 0, none⟩) N N) ∧ OwnB w' w.heap.size (.slice (some ⟨ob, 0, none⟩) N N) N (blL N (fun v => bt (rchG N g a) v)) ∧ Below w.heap.size w w' := by
  have HX := Lib.hid hx
  have HI := Lib.hid hi
  have HL := Lib.hid hx.len
  have HA := Lib.hid ha
  clear hx hi
  go_enter Tryd.func25, Tryd.ntmps25
  go_wp2_with (at_make; refine wpl_makeB rfl (.tmp 11) (.tmp 11) rfl (w.heap.size + 1) N rfl rfl (by omega) (by simp) ?_; intro w1 hown1 hgr1)
  have HF1 : Hid (FrAt w1 w B w.heap.size (w.heap.size + 1) N m c A g (fun _ => false)) := Lib.hid (by
    have hb0 := boxed_alloc w (N : Int) A m c 26
    have hs : (w.alloc (.cells #[.int .i64 (N : Int), .slice A m c] 26)).heap.size = w.heap.size + 1 := by simp
    rw [blL_none] at hown1
    refine ⟨by rw [hs] at hown1; exact hown1, ⟨?_, ?_⟩, ?_, ?_, by omega, hB, Nat.le_refl _, ?_⟩
    · exact (World.cell?_of_block (a := ⟨w.heap.size, 0, none⟩) (hgr1.block w.heap.size (by omega) nofun)).trans hb0.1
    · exact (World.cell?_of_block (a := ⟨w.heap.size, 1, none⟩) (hgr1.block w.heap.size (by omega) nofun)).trans hb0.2
    · exact RdE.keep (RdE.alloc HX.out hB _) (fun p hp => World.cell?_of_block (hgr1.block p.block (by omega) nofun))
    · exact ((Below.refl _ _).alloc (Nat.le_refl _) _).grown hgr1 (by omega) nofun
    · have := World.ownsRow.lt hown1 _ rfl |>.2; rw [hs] at this; exact this)
  clear hown1 hgr1
  generalize w.heap.size + 1 = ob at *
  go_wp2_with fail
  go_loopg [6] (togo N (fun _ => false) [a]) (fun K v wr => ∃ (f : Nat → Bool) (q : List Nat), K = togo N f q ∧ Hid (FrO g N a f q) ∧ Hid (FrAt wr w B w.heap.size ob N m c A g f) ∧ Hid (OwnQ wr (ob + 1) v (ints q)))
  case atStart =>
    refine ⟨_, [a], rfl, Lib.hid (FrO.start ha), Lib.hid (HF1.out.alloc _), Lib.hid ?_⟩
    have h := Own.lit w1 (ob + 1) [(a : Int)] HF1.out.l4 (by simp)
    exact OwnQ.of_own h (by simp)
  case round =>
    clear HF1
    obtain ⟨f, q, rfl, HO, HF, HQ⟩ := hrel
    cases q with
    | nil =>
      have hq := HQ.out
      obtain ⟨G, off, cq, cur, rfl, _⟩ := hq
      have HALL := Lib.hid (HO.out.all HI.out HA.out)
      go_wp2
      go_ret
      refine ⟨ob, rfl, ?_, HF.out.bel⟩
      have e : (fun v => bt (rchG N g a) v) = f := funext fun v => (HALL.out v).symm
      rw [e]
      have hl := HF.out.l1
      exact ⟨HF.out.own.1, HF.out.own.2.elim .inl fun ⟨g', cap, cur, hv, hb, r⟩ => .inr ⟨g', cap, cur, hv, by omega, r⟩⟩
    | cons x q =>
      have HK : Hid (togo N f q + 1 = togo N f (x :: q)) := Lib.hid (togo_pop N f x q)
      have HI0 := Lib.hid HO.out.pop
      have hlq : q.length ≤ 64 := by have := HI0.out.len; have := cf_le f N; omega
      have hxN : x < N := HO.out.inq x (List.mem_cons_self ..)
      have hq := HQ.out
      obtain ⟨G, off, cq, cur, rfl, hG, hh, hnc, hcm, hsz, hcc⟩ := hq
      have hx0 := cell_of_heap hh (hcc 0 (by simp [ints]))
      have e0 : ix (ints (x :: q)) 0 = (x : Int) := rfl
      rw [e0, Nat.add_zero] at hx0
      have hlen : (ints (x :: q)).length = q.length + 1 := by simp [ints]
      rw [hlen] at hnc HQ ⊢
      have hlq2 : (ints q).length = q.length := by simp [ints]
      have hcm' : cq ≤ 9223372036854775807 := by unfold maxLen at hcm; omega
      have HPOP : Hid (OwnQ wr (ob + 1) (.slice (some ⟨G, if cq = 1 then off else off + 1, none⟩) q.length (cq - 1)) (ints q)) := Lib.hid (by
        have h := HQ.out
        have e1 : ints (x :: q) = (x : Int) :: ints q := rfl
        rw [e1, ← hlq2] at h
        have := h.pop
        rw [hlq2] at this
        exact this)
      clear hh hcc e0 hlen hsz HQ HO
      go_upto_region 5 with fail
      go_cut [6] (fun v w' => w' = wr ∧ Hid (OwnQ wr (ob + 1) v (ints q)))
      case first =>
        by_cases h1 : cq = 1
        · subst h1
          have hq0 : q = [] := List.eq_nil_of_length_eq_zero (by omega)
          subst hq0
          have H : Hid (OwnQ wr (ob + 1) (.slice (some ⟨G, off, none⟩) 0 0) (ints [])) := Lib.hid (by simpa using HPOP.out)
          go_wp2_with fail
          go_meet
          exact ⟨rfl, H⟩
        · have H : Hid (OwnQ wr (ob + 1) (.slice (some ⟨G, off + 1, none⟩) q.length (cq - 1)) (ints q)) := Lib.hid (by have h := HPOP.out; rw [if_neg h1] at h; exact h)
          go_wp2_with fail
          go_meet
          exact ⟨rfl, H⟩
      case rest =>
        obtain ⟨rfl, HQ1⟩ := hcut
        clear HPOP hG hnc hcm hx0 hlq2 hcm'
        go_wp2_with fail
        obtain ⟨wo, hwo⟩ : ∃ wo : World, wo = wc := ⟨_, rfl⟩
        go_loopw [6, 8] (fun v i wr => ∃ (k : Nat) (f' : Nat → Bool) (q' : List Nat), k ≤ m ∧ i = .int .i64 (k : Int) ∧ Hid (FrI g N a f' q' x k) ∧ Hid (FrAt wr w B w.heap.size ob N m c A g f') ∧ Hid (OwnQ wr (ob + 1) v (ints q')) ∧ Hid (togo N f' q' ≤ togo N f q)) (fun _ i _ => m - (intOf i).toNat)
        case atStart => exact ⟨0, f, q, Nat.zero_le _, rfl, HI0, HF, HQ1, Lib.hid (Nat.le_refl _)⟩
        case round =>
          clear HI0 HF HQ1
          obtain ⟨k, f', q', hk, rfl, HI0, HF, HQ, HT⟩ := hrel
          obtain ⟨hbx0, hbx1⟩ := HF.out.box
          have hgb : w.heap.size < wr.heap.size := Nat.lt_trans HF.out.l1 HF.out.l4
          by_cases hlt : k < m
          · obtain ⟨b, off, rfl, hbb, hca, hcb⟩ := HF.out.rd.at_ hlt
            obtain ⟨hfa, hfb⟩ := HI.out k (by rw [HL.out]; exact hlt)
            have hlq' : q'.length ≤ 64 := by have := HI0.out.len; have := cf_le f' N; omega
            have hx2 : (0 : Int) ≤ (fb g k : Int) := by omega
            have hx3 : (fb g k : Int) < (N : Int) := by omega
            have hbl := HF.out.own.cell (j := fb g k) hfb
            have hbf := HF.out.own.free (fb g k)
            rw [blL_bx _ hfb] at hbl
            by_cases he : fa g k = x
            · have hE : ((fa g k : Int) == (x : Int)) = true := by rw [he]; simp
              have HE := Lib.hid he
              clear he
              cases hff : f' (fb g k) with
              | true =>
                rw [hff] at hbl
                have HN := Lib.hid (HI0.out.skip (fun _ => hff))
                clear hff
                go_wp2
                go_roundw
                case rel => exact ⟨k + 1, f', q', by omega, by go_num, HN, HF, HQ, HT⟩
                case measure => simp [intOf]; omega
              | false =>
                rw [hff] at hbl
                have HN := Lib.hid (HI0.out.push HI.out (by rw [HL.out]; exact hlt) HE.out hff)
                have HT' : Hid (togo N (updF f' (fb g k)) (q' ++ [fb g k]) ≤ togo N f q) := Lib.hid (by have := togo_push q' hff hfb; have := HT.out; omega)
                clear hff
                have hl4 := HF.out.l4
                have HCL : Hid (((wr.setCell ⟨ob, fb g k, none⟩ (.bool true)).alloc (.cells #[.int .i64 (fb g k : Int)] 3)).cell? ⟨wr.heap.size, 0, none⟩ = some (.int .i64 (fb g k : Int))) := Lib.hid (by
                  have h := cell_of_heap (i := 0) (x := .int .i64 (fb g k : Int)) (heap_alloc_new (wr.setCell ⟨ob, fb g k, none⟩ (.bool true)) (.cells #[.int .i64 (fb g k : Int)] 3)) rfl
                  rw [World.size_setCell] at h
                  exact h)
                have HSZ : Hid (ob + 1 ≤ ((wr.setCell ⟨ob, fb g k, none⟩ (.bool true)).alloc (.cells #[.int .i64 (fb g k : Int)] 3)).heap.size) := Lib.hid (by simp; omega)
                go_wp2_with (at_builtin; refine wpl_appQ rfl (.tmp 54) (.tmp 56) rfl (ob + 1) _ (ints q') rfl ((HQ.out.far (p := ⟨ob, fb g k, none⟩) (Nat.lt_succ_self _) _).alloc _) wr.heap.size (fb g k : Int) rfl HCL.out (by rw [ints_len]; omega) HSZ.out ?_; intro v' w2 hown2 hgr2)
                rw [← ints_snoc] at hown2
                have HQ2 := Lib.hid hown2
                have HF2 : Hid (FrAt w2 w B w.heap.size ob N m c (some ⟨b, off, none⟩) g (updF f' (fb g k))) := Lib.hid (((HF.out.set (fb g k) hfb).alloc _).grown hgr2 (fun z hz => by have := HQ.out.ge z hz; omega))
                clear hown2 hgr2
                go_wp2
                go_roundw
                case rel => exact ⟨k + 1, _, _, by omega, by go_num, HN, HF2, HQ2, HT'⟩
                case measure => simp [intOf]; omega
            · have hE : ((fa g k : Int) == (x : Int)) = false := by simp; omega
              have HN := Lib.hid (HI0.out.skip (fun e => absurd e he))
              clear he
              go_wp2
              go_roundw
              case rel => exact ⟨k + 1, f', q', by omega, by go_num, HN, HF, HQ, HT⟩
              case measure => simp [intOf]; omega
          · obtain rfl : k = m := by omega
            have HEND : Hid (FrO g N a f' q') := Lib.hid (by have h := HI0.out; rw [← HL.out] at h; exact h.end_)
            go_wp2
            go_roundg (togo N f' q')
            case measure => have := HT.out; have := HK.out; omega
            case rel => exact ⟨f', q', rfl, HEND, HF, HQ⟩
end Go.Proofs.YtfcabdgidlnljaaDoor
