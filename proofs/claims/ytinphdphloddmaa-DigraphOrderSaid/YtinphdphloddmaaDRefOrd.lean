/-
  CONTRACT of the document's Order, over this translation.
-/
import Derived.Test.YtinphdphloddmaaDRef
import Derived.Test.YtinphdphloddmaaDPrefixes
import Derived.Deep.LoopGhost
namespace Go.Proofs.Ytinphdphloddmaa
open Go.RowKit
open DiP
set_option linter.unusedVariables false

/-- The lowest of the nodes from j on that are ready, or -1. -/
def DiP.LowR (bef : Nat → Nat) (s n j : Nat) (x : Int) : Prop :=
  (x = -1 ∧ ∀ u, j ≤ u → u < n → rdy bef s u = false) ∨ ∃ v : Nat, x = (v : Int) ∧ j ≤ v ∧ v < n ∧ rdy bef s v = true ∧ ∀ u, j ≤ u → u < v → rdy bef s u = false
theorem lowR_start (bef : Nat → Nat) (s n : Nat) : LowR bef s n n (-1) := .inl ⟨rfl, fun u h1 h2 => by omega⟩
theorem lowR_yes {bef : Nat → Nat} {s n j : Nat} (hj : j < n) (hr : rdy bef s j = true) : LowR bef s n j (j : Int) := .inr ⟨j, rfl, Nat.le_refl _, hj, hr, fun u h1 h2 => by omega⟩
theorem lowR_no {bef : Nat → Nat} {s n j : Nat} {x : Int} (h : LowR bef s n (j + 1) x) (hr : rdy bef s j = false) : LowR bef s n j x := by
  rcases h with ⟨h1, h2⟩ | ⟨v, h1, h2, h3, h4, h5⟩
  · refine .inl ⟨h1, fun u hu hn => ?_⟩
    by_cases e : u = j
    · subst e; exact hr
    · exact h2 u (by omega) hn
  · refine .inr ⟨v, h1, by omega, h3, h4, fun u hu hn => ?_⟩
    by_cases e : u = j
    · subst e; exact hr
    · exact h5 u (by omega) hn
theorem lowR_end {bef : Nat → Nat} {s n v : Nat} {x : Int} (h : LowR bef s n 0 x) (hl : lowest bef s n = some v) : x = (v : Int) := by
  obtain ⟨h1, h2, h3⟩ := lowest_spec hl
  rcases h with ⟨_, k2⟩ | ⟨u, k1, _, k3, k4, k5⟩
  · have := k2 v (Nat.zero_le _) h1; rw [h2] at this; cases this
  · rcases Nat.lt_trichotomy u v with e | e | e
    · have := h3 u e; rw [k4] at this; cases this
    · subst e; exact k1
    · have := k5 v (Nat.zero_le _) e; rw [h2] at this; cases this

set_option maxRecDepth 100000 in
set_option maxHeartbeats 1000000 in
theorem refOrder_any {w : World} {B m c N : Nat} {A : Option Addr} {g : List (Nat × Nat)} (hx : RdG w B A m g) (hi : InN N g) (hn : N ≤ 64) (hm : m ≤ 4096) (hB : B ≤ w.heap.size) (hG : Goes (befG g) N N) :
    Calls Try.prog 24 #[.agg #[.int .i64 (N : Int), .slice A m c]] w fun e w' => ∃ v, e = .returned v ∧ Own w' w.heap.size v N (ints (ordA (befG g) N)) ∧ Below w.heap.size w w' := by
  have HX := Lib.hid hx
  have HI := Lib.hid hi
  have HL := Lib.hid hx.len
  have HG := Lib.hid hG
  clear hx hi hG
  go_enter Try.func24, Try.ntmps24
  go_wp2_with fail
  have HW : Hid (Boxed (w.alloc (.cells #[.int .i64 (N : Int), .slice A m c] 31)) w.heap.size (N : Int) A m c ∧ Below w.heap.size w (w.alloc (.cells #[.int .i64 (N : Int), .slice A m c] 31)) ∧ w.heap.size < (w.alloc (.cells #[.int .i64 (N : Int), .slice A m c] 31)).heap.size) :=
    Lib.hid ⟨boxed_alloc _ _ _ _ _ _, (Below.refl _ _).alloc (Nat.le_refl _) _, by simp⟩
  generalize (w.alloc (.cells #[.int .i64 (N : Int), .slice A m c] 31)) = W0 at HW ⊢
  have hlt0 := HW.out.2.2
  go_loopg [3, 4] N (fun K v s wr => ∃ k : Nat, k ≤ N ∧ K = N - k ∧ s = .int .u64 ((ordS (befG g) N k).1 : Int) ∧ Hid (Own wr W0.heap.size v k (ints (ordS (befG g) N k).2)) ∧ Hid (Below W0.heap.size W0 wr))
  case atStart => exact ⟨0, Nat.zero_le _, rfl, rfl, Lib.hid (Own.nil_ _ _), Lib.hid (Below.refl _ _)⟩
  case round =>
    obtain ⟨wo, rfl⟩ : ∃ wo : World, wo = wr := ⟨_, rfl⟩
    obtain ⟨k, hk, rfl, rfl, HO, HR⟩ := hrel
    have hszr := HR.out.size
    obtain ⟨hcn, hcs⟩ := Boxed.below HW.out.1 HR.out hlt0
    by_cases hlt : k < N
    · have HLO := Lib.hid (HG.out.each k hlt)
      have HLS := Lib.hid (lowest_spec HLO.out)
      have HOS := Lib.hid (ordS_some HLO.out)
      have HSL := Lib.hid (ordS_lt (befG g) hn k)
      have hv := HLS.out.1
      generalize nth (ordS (befG g) N N).2 k = v0 at HLO HLS HOS hv
      have HOR := Lib.hid (or_spell (s := (ordS (befG g) N k).1) (v := v0) HSL.out (by omega))
      have HOR2 := Lib.hid (or_spell2 (s := (ordS (befG g) N k).1) (v := v0) HSL.out (by omega))
      have HSN : Hid (add (ordS (befG g) N k).1 v0 = (ordS (befG g) N (k + 1)).1) := Lib.hid (by rw [HOS.out])
      have HSI : Hid (ints (ordS (befG g) N k).2 ++ [(v0 : Int)] = ints (ordS (befG g) N (k + 1)).2) := Lib.hid (by rw [HOS.out, ← ints_snoc])
      clear HOS
      generalize (ordS (befG g) N k).1 = s at *
      obtain ⟨Av, cvv, rfl, _⟩ := HO.out.shape
      go_wp2_with fail
      go_loopw [5, 6] (fun x i wr => ∃ (j : Nat) (y : Int), j ≤ N ∧ x = .int .i64 y ∧ i = .int .i64 ((j : Int) - 1) ∧ Hid (LowR (befG g) s N j y) ∧ Hid (Below wo.heap.size wo wr)) (fun _ i _ => (intOf i + 1).toNat)
      case atStart => exact ⟨N, -1, Nat.le_refl _, rfl, rfl, Lib.hid (lowR_start _ _ _), Lib.hid (Below.refl _ _)⟩
      case round =>
        clear hcn hcs
        obtain ⟨j, y, hj, rfl, rfl, HLR, HR2⟩ := hrel
        have hsz2 := HR2.out.size
        have HRW : Hid (Below W0.heap.size W0 wr) := Lib.hid (HR.out.trans (HR2.out.mono hszr))
        obtain ⟨hcn, hcs⟩ := Boxed.below HW.out.1 HRW.out hlt0
        cases j with
        | succ q =>
          have eq1 : ((q + 1 : Nat) : Int) - 1 = (q : Int) := by omega
          rw [eq1]
          clear eq1
          have hq64 : q < 64 := by omega
          have HXR := Lib.hid (HX.out.below ((HW.out.2.1.trans (HRW.out.mono (by omega))).mono hB))
          cases hbt : rdy (befG g) s q with
          | true =>
            have HBT := Lib.hid hbt
            have HLR' : Hid (LowR (befG g) s N q (q : Int)) := Lib.hid (lowR_yes (by omega) hbt)
            clear hbt
            go_wp2_with fail
            refine (refReady_any HXR.out HI.out hn (by omega) (by omega) HSL.out hq64).mono ?_
            rintro e w3 ⟨rfl, hb⟩
            rw [HBT.out]
            have HR3 : Hid (Below wo.heap.size wo w3) := Lib.hid (HR2.out.trans (hb.mono hsz2))
            clear hb hcn hcs
            go_wp2
            go_roundw
            case rel => exact ⟨q, (q : Int), by omega, rfl, rfl, HLR', HR3⟩
            case measure => simp [intOf]
          | false =>
            have HBT := Lib.hid hbt
            have HLR' : Hid (LowR (befG g) s N q y) := Lib.hid (lowR_no HLR.out hbt)
            clear hbt
            go_wp2_with fail
            refine (refReady_any HXR.out HI.out hn (by omega) (by omega) HSL.out hq64).mono ?_
            rintro e w3 ⟨rfl, hb⟩
            rw [HBT.out]
            have HR3 : Hid (Below wo.heap.size wo w3) := Lib.hid (HR2.out.trans (hb.mono hsz2))
            clear hb hcn hcs
            go_wp2
            go_roundw
            case rel => exact ⟨q, y, by omega, rfl, rfl, HLR', HR3⟩
            case measure => simp [intOf]
        | zero =>
          obtain rfl := lowR_end HLR.out HLO.out
          have hv1 : (v0 : Int) < 64 := by omega
          have HO2 := Lib.hid (HO.out.kept HR2.out)
          go_wp2_with (at_builtin; refine wpl_app rfl (.tmp 24) (.tmp 26) rfl W0.heap.size _ k _ rfl (HO2.out.alloc _) wr.heap.size (v0 : Int) rfl (by simp) (by omega) (by simp; omega) ?_; intro g' c' w4 hown1 hge1 hgr1 hat1)
          rw [HSI.out] at hown1
          have HO4 := Lib.hid hown1
          have HR4 : Hid (Below W0.heap.size W0 w4) := Lib.hid ((HRW.out.alloc HRW.out.size _).grown hgr1 (by have := HRW.out.size; simp; omega) (fun x hx => HO.out.ge x hx))
          clear hown1 hge1 hgr1 hat1 hcn hcs
          go_wp2
          go_roundg (N - (k + 1))
          case measure => omega
          case rel => exact ⟨k + 1, by omega, rfl, by first | rw [HOR2.out, HSN.out] | rw [HOR.out, HSN.out], HO4, HR4⟩
    · obtain rfl : k = N := by omega
      obtain ⟨Av, cvv, rfl, _⟩ := HO.out.shape
      go_wp2
      go_ret
      refine ⟨_, rfl, ?_, HW.out.2.1.trans (HR.out.mono (by omega))⟩
      have h := HO.out
      exact h.less (by omega)
end Go.Proofs.Ytinphdphloddmaa
