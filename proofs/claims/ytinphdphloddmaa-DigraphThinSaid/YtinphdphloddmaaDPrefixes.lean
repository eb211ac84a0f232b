/-
  THE WALK of the statement DigraphPrefixes: whatever the graph, the call returns true and writes nothing that was there.
-/
import Derived.Test.YtinphdphloddmaaDRight
import Derived.Test.YtinphdphloddmaaDReady
import Derived.Test.YtinphdphloddmaaDAnchor
namespace Go.Proofs.Ytinphdphloddmaa
open Go.RowKit
open DiP
set_option linter.unusedVariables false

/-- A right graph's numbers are natural ones. -/
theorem graph_nat {n : Int} {es : List (Int × Int)} (hr : GraphR n es) : ∃ (N : Nat) (g : List (Nat × Nat)), n = (N : Int) ∧ es = castE g ∧ InN N g ∧ N ≤ 64 ∧ g.length ≤ 4096 := by
  obtain ⟨h0, h1, h2, h3⟩ := hr
  obtain ⟨N, rfl⟩ := Int.eq_ofNat_of_zero_le h0
  have hes : es = castE (es.map fun e => (e.1.toNat, e.2.toNat)) := by
    unfold castE
    rw [List.map_map]
    apply List.ext_getElem?
    intro k
    rw [List.getElem?_map]
    cases hk : es[k]? with
    | none => rfl
    | some e =>
      obtain ⟨hlt, he⟩ := List.getElem?_eq_some_iff.1 hk
      obtain ⟨ha, hb⟩ := h3 k hlt
      have e1 : ea es k = e.1 := by simp [ea, List.getD, hk]
      have e2 : eb es k = e.2 := by simp [eb, List.getD, hk]
      rw [e1] at ha
      rw [e2] at hb
      have := (node_iff.1 ha).1
      have := (node_iff.1 hb).1
      simp only [Option.map_some, Function.comp]
      congr 1
      ext <;> simp <;> omega
  refine ⟨N, es.map fun e => (e.1.toNat, e.2.toNat), rfl, hes, fun k hk => ?_, by omega, by simpa using h2⟩
  have hk' : k < es.length := by simpa using hk
  obtain ⟨ha, hb⟩ := h3 k hk'
  rw [hes, ea_cast] at ha
  rw [hes, eb_cast] at hb
  have := (node_iff.1 ha).2
  have := (node_iff.1 hb).2
  omega

theorem fits_of {s n : Nat} (h : ∀ u, n ≤ u → bt s u = false) : fitsB s n = true := by
  unfold fitsB
  have : s < 2 ^ n := Nat.lt_pow_two_of_testBit s (fun i hi => h i hi)
  rw [Nat.div_eq_of_lt this]; rfl
theorem ordS_in (bef : Nat → Nat) (n : Nat) : ∀ k u, n ≤ u → bt (ordS bef n k).1 u = false := by
  intro k
  induction k with
  | zero => intro u _; exact bt_zero u
  | succ k ih =>
    intro u hu
    cases h : lowest bef (ordS bef n k).1 n with
    | none => rw [ordS_none h]; exact ih u hu
    | some v =>
      rw [ordS_some h, bt_add, ih u hu]
      have := (lowest_spec h).1
      simp; omega
theorem rdyK_none {bef : Nat → Nat} {s : Nat} {n : Nat} (hn : n ≤ 64) (h : ∀ u, u < n → bt s u = true) : rdyK bef s n = 0 := by
  apply ext_bt
  intro u
  rw [bt_rdyK, bt_zero]
  by_cases hu : u < n
  · unfold rdy; rw [h u hu]; simp
  · simp [hu]

theorem low_spell {r v : Nat} (hr : r < lim) (hv : v < 64) : (bits BinOp.and IntKind.u64 (r : Int) (IntKind.u64.wrap (IntKind.u64.wrap (2 ^ v) - 1)) != 0) = !decide (r &&& (one v - 1) = 0) := by
  have h1 := one_lt v hv
  have h2 := one_pos v
  unfold lim at h1 hr
  have e : IntKind.u64.wrap (2 ^ v) = ((one v : Nat) : Int) := by
    rw [IntKind.wrap_u64, shl_one]; omega
  have e2 : IntKind.u64.wrap (((one v : Nat) : Int) - 1) = ((one v - 1 : Nat) : Int) := by
    rw [IntKind.wrap_u64]; omega
  rw [e, e2, u64_and_nat r (one v - 1) hr (by omega)]
  by_cases h : r &&& (one v - 1) = 0
  · rw [h]; rfl
  · simp [h]

set_option maxRecDepth 100000 in
set_option maxHeartbeats 2000000 in
theorem law_prefixes_go {w : World} {B m c N : Nat} {A : Option Addr} {g : List (Nat × Nat)} (hx : RdG w B A m g) (hi : InN N g) (hn : N ≤ 20) (hm : m ≤ 100) (hB : B ≤ w.heap.size) (hG : Goes (befG g) N N) :
    Calls Try.prog 7 #[.agg #[.int .i64 (N : Int), .slice A m c]] w fun e w' => e = .returned (.bool true) ∧ Below w.heap.size w w' := by
  have HX := Lib.hid hx
  have HI := Lib.hid hi
  have HG := Lib.hid hG
  have HR := Lib.hid (graphR_cast hi (show N ≤ 64 by omega) (by rw [hx.len]; omega))
  clear hx hi hG
  go_enter Try.func7, Try.ntmps7
  go_wp2_with fail
  refine (anchor_any _).mono ?_
  rintro e w1 ⟨rfl, hb⟩
  obtain ⟨hcn, hcs⟩ := (boxed_alloc w (N : Int) A m c 24).below hb (by simp)
  have HB1 : Hid (Below w.heap.size w w1) := Lib.hid (((Below.refl _ _).alloc (Nat.le_refl _) _).trans (hb.mono (by simp)))
  have hsz1 : w.heap.size < w1.heap.size := by have := hb.size; simp at this; omega
  clear hb
  go_wp2_with fail
  refine (small_right (HX.out.below (HB1.out.mono hB)) HR.out (by omega)).mono ?_
  rintro e w2 ⟨rfl, hb⟩
  rw [show (decide (m ≤ 100) && decide ((N : Int) ≤ 20)) = true by simp; omega]
  obtain ⟨hcn2, hcs2⟩ := Boxed.below ⟨hcn, hcs⟩ hb hsz1
  have HB2 : Hid (Below w.heap.size w w2) := Lib.hid (HB1.out.trans (hb.mono (by omega)))
  have hsz2 : w.heap.size < w2.heap.size := Nat.lt_of_lt_of_le hsz1 hb.size
  clear hb hcn hcs hsz1
  go_wp2_with fail
  refine (order_any (HX.out.below (HB2.out.mono hB)) HI.out (by omega) (by omega) (by omega)).mono ?_
  rintro e w3 ⟨hb, ho⟩
  have HO : ∃ A' c', Hid (e = .returned (.tuple #[.slice A' N c', .int .i64 0])) ∧ Hid (Rd w3 w3.heap.size A' N (ints (ordA (befG g) N))) := by
    rcases ho with ⟨_, A', c', h, hown⟩ | ⟨h, _⟩
    · obtain ⟨A2, c2, hv, hrd⟩ := hown.shape
      injection hv with h1 h2 h3
      subst h1
      exact ⟨A', c', Lib.hid h, Lib.hid hrd⟩
    · exact absurd HG.out h
  clear ho
  obtain ⟨A', c', he, HO⟩ := HO
  obtain rfl := he.out
  clear he
  have HBX : Hid (Boxed w3 w.heap.size (N : Int) A m c) := Lib.hid (Boxed.below ⟨hcn2, hcs2⟩ hb hsz2)
  have HX3 : Hid (RdG w3 B A m g) := Lib.hid (HX.out.below ((HB2.out.trans (hb.mono (by omega))).mono hB))
  have HB3 : Hid (Below w.heap.size w w3) := Lib.hid (HB2.out.trans (hb.mono (by omega)))
  have hsz3 : w.heap.size < w3.heap.size := Nat.lt_of_lt_of_le hsz2 hb.size
  clear hb hcn2 hcs2 hsz2 HB1 HB2 HX
  go_wp2_with fail
  go_loopw [5, 31] (fun s i wr => ∃ j : Nat, j ≤ N ∧ i = .int .i64 (j : Int) ∧ s = .int .u64 ((ordS (befG g) N j).1 : Int) ∧ Hid (Below w3.heap.size w3 wr)) (fun _ i _ => N - (intOf i).toNat)
  case atStart => exact ⟨0, by omega, rfl, rfl, Lib.hid (Below.refl _ _)⟩
  case round =>
    obtain ⟨j, hj, rfl, rfl, HBR⟩ := hrel
    have HXR : Hid (RdG wr B A m g) := Lib.hid (HX3.out.below (HBR.out.mono (by omega)))
    have hszr : w3.heap.size ≤ wr.heap.size := HBR.out.size
    obtain ⟨hcn, hcs⟩ := Boxed.below HBX.out HBR.out hsz3
    have HSL := Lib.hid (ordS_lt (befG g) (show N ≤ 64 by omega) j)
    have HFT := Lib.hid (fits_of (ordS_in (befG g) N j))
    have HCL : Hid (closedB g (ordS (befG g) N j).1 = true) := Lib.hid ((closedB_iff _ _).2 (ordS_closed HI.out (by omega) j))
    by_cases hlt : j < N
    · have HE := Lib.hid (HG.out.each j hlt)
      obtain ⟨hv, hr, hl⟩ := lowest_spec HE.out
      have HNX := Lib.hid (HG.out.next hlt)
      obtain ⟨bo, oo, rfl, hbo, hco⟩ := HO.out.at_ (k := j) hlt
      have hco' := (HBR.out.cell (p := ⟨bo, oo + j, none⟩) hbo).trans hco
      rw [show ordA (befG g) N = (ordS (befG g) N N).2 from rfl, ix_ints] at hco'
      have HRB : Hid (bt (rdyK (befG g) (ordS (befG g) N j).1 N) (nth (ordS (befG g) N N).2 j) = true) := Lib.hid (by rw [bt_rdyK, hr]; simp; exact hv)
      have HLZ : Hid (rdyK (befG g) (ordS (befG g) N j).1 N &&& (one (nth (ordS (befG g) N N).2 j) - 1) = 0) := Lib.hid (low_zero (fun u hu => by rw [bt_rdyK, hl u hu]; simp))
      have HRL := Lib.hid (rdyK_lt (befG g) (ordS (befG g) N j).1 N (by omega))
      clear hco hr hl
      generalize nth (ordS (befG g) N N).2 j = v at hco' hv HRB HLZ HNX HE
      have hv64 : v < 64 := by omega
      have hv1 : (0 : Int) ≤ (v : Int) := by omega
      have hv2 : (v : Int) < (N : Int) := by omega
      have HOR := Lib.hid (or_spell HSL.out hv64)
      have HOR2 := Lib.hid (or_spell2 HSL.out hv64)
      go_wp2_with fail
      refine (closed_any HXR.out HI.out (by omega) (by omega) (by omega) HSL.out HFT.out).mono ?_
      rintro e w5 ⟨rfl, hb5⟩
      rw [HCL.out]
      have HX5 : Hid (RdG w5 B A m g) := Lib.hid (HXR.out.below (hb5.mono (by omega)))
      obtain ⟨hcn5, hcs5⟩ := Boxed.below ⟨hcn, hcs⟩ hb5 (by omega)
      have hsz5 := hb5.size
      have HB5 : Hid (Below w3.heap.size w3 w5) := Lib.hid (HBR.out.trans (hb5.mono hszr))
      clear hb5 hcn hcs
      go_wp2_with fail
      refine (readyM_any HX5.out HI.out (by omega) (by omega) (by omega) HSL.out HFT.out).mono ?_
      rintro e w6 ⟨rfl, hb6⟩
      obtain ⟨hcn6, hcs6⟩ := Boxed.below ⟨hcn5, hcs5⟩ hb6 (by omega)
      have HB6 : Hid (Below w3.heap.size w3 w6) := Lib.hid (HB5.out.trans (hb6.mono (by omega)))
      clear hb6 hcn5 hcs5
      have hq : (bits BinOp.and IntKind.u64 (rdyK (befG g) (ordS (befG g) N j).1 N : Int) (IntKind.u64.wrap (IntKind.u64.wrap (2 ^ v) - 1)) != 0) = false := by rw [low_spell HRL.out hv64, HLZ.out]; rfl
      go_wp2_with (go_at_call 31; refine (in_any HRL.out hv64).mono ?_; rintro e w' ⟨rfl, rfl⟩; rw [HRB.out])
      go_roundw
      case rel => exact ⟨j + 1, by omega, by go_num, by rw [HOR2.out, HNX.out], HB6⟩
      case measure => simp [intOf]; omega
    · obtain rfl : j = N := by omega
      have HZ : Hid (rdyK (befG g) (ordS (befG g) j j).1 j = 0) := Lib.hid (rdyK_none (by omega) (cnt_full j (by rw [ordS_cnt]; exact HG.out)))
      go_wp2_with fail
      refine (readyM_any HXR.out HI.out (by omega) (by omega) (by omega) HSL.out HFT.out).mono ?_
      rintro e w6 ⟨rfl, hb6⟩
      rw [HZ.out]
      obtain ⟨hcn6, hcs6⟩ := Boxed.below ⟨hcn, hcs⟩ hb6 (by omega)
      have HB6 : Hid (Below w.heap.size w w6) := Lib.hid (HB3.out.trans ((HBR.out.trans (hb6.mono hszr)).mono (by omega)))
      clear hb6
      go_wp2
      go_ret
      exact ⟨by simp, HB6.out⟩

set_option maxRecDepth 100000 in
set_option maxHeartbeats 1000000 in
theorem law_prefixes {w : World} {m c : Nat} {n : Int} {A : Option Addr} {es : List (Int × Int)} (hx : RdE w w.heap.size A m es) (hm0 : m ≤ 9223372036854775807) :
    Calls Try.prog 7 #[.agg #[.int .i64 n, .slice A m c]] w fun e w' => e = .returned (.bool true) ∧ Below w.heap.size w w' := by
  by_cases hr : GraphR n es
  · obtain ⟨N, g, rfl, rfl, hi, hN, hl⟩ := graph_nat hr
    by_cases hsm : m ≤ 100 ∧ N ≤ 20
    · by_cases hG : Goes (befG g) N N
      · exact law_prefixes_go hx hi hsm.2 hsm.1 (Nat.le_refl _) hG
      · obtain ⟨hm, hn⟩ := hsm
        have HX := Lib.hid hx
        have HI := Lib.hid hi
        have HG := Lib.hid hG
        have HR := Lib.hid hr
        clear hx hi hG hr
        go_enter Try.func7, Try.ntmps7
        go_wp2_with fail
        refine (anchor_any _).mono ?_
        rintro e w1 ⟨rfl, hb⟩
        obtain ⟨hcn, hcs⟩ := (boxed_alloc w (N : Int) A m c 24).below hb (by simp)
        have HB1 : Hid (Below w.heap.size w w1) := Lib.hid (((Below.refl _ _).alloc (Nat.le_refl _) _).trans (hb.mono (by simp)))
        have hsz1 : w.heap.size < w1.heap.size := by have := hb.size; simp at this; omega
        clear hb
        go_wp2_with fail
        refine (small_right (HX.out.below HB1.out) HR.out (by omega)).mono ?_
        rintro e w2 ⟨rfl, hb⟩
        rw [show (decide (m ≤ 100) && decide ((N : Int) ≤ 20)) = true by simp; omega]
        obtain ⟨hcn2, hcs2⟩ := Boxed.below ⟨hcn, hcs⟩ hb hsz1
        have HB2 : Hid (Below w.heap.size w w2) := Lib.hid (HB1.out.trans (hb.mono (by omega)))
        have hsz2 : w.heap.size < w2.heap.size := Nat.lt_of_lt_of_le hsz1 hb.size
        clear hb hcn hcs hsz1
        go_wp2_with fail
        refine (order_any (g := g) (HX.out.below HB2.out) HI.out (by omega) (by omega) (by omega)).mono ?_
        rintro e w3 ⟨hb, ho⟩
        have he : Hid (e = .returned (.tuple #[.slice none 0 0, .int .i64 21])) := by
          rcases ho with ⟨h, _⟩ | ⟨_, h⟩
          · exact absurd h HG.out
          · exact Lib.hid h
        clear ho
        obtain rfl := he.out
        have HB3 : Hid (Below w.heap.size w w3) := Lib.hid (HB2.out.trans (hb.mono (by omega)))
        clear hb he
        go_wp2
        go_ret
        exact ⟨rfl, HB3.out⟩
    · have HX := Lib.hid hx
      have HR := Lib.hid hr
      have HS : Hid ((decide (m ≤ 100) && decide ((N : Int) ≤ 20)) = false) := Lib.hid (by simp; omega)
      clear hx hi hr hsm
      go_enter Try.func7, Try.ntmps7
      go_wp2_with fail
      refine (anchor_any _).mono ?_
      rintro e w1 ⟨rfl, hb⟩
      obtain ⟨hcn, hcs⟩ := (boxed_alloc w (N : Int) A m c 24).below hb (by simp)
      have HB1 : Hid (Below w.heap.size w w1) := Lib.hid (((Below.refl _ _).alloc (Nat.le_refl _) _).trans (hb.mono (by simp)))
      have hsz1 : w.heap.size < w1.heap.size := by have := hb.size; simp at this; omega
      clear hb
      go_wp2_with fail
      refine (small_right (HX.out.below HB1.out) HR.out (by omega)).mono ?_
      rintro e w2 ⟨rfl, hb⟩
      rw [HS.out]
      have HB2 : Hid (Below w.heap.size w w2) := Lib.hid (HB1.out.trans (hb.mono (by omega)))
      clear hb
      go_wp2
      go_ret
      exact ⟨rfl, HB2.out⟩
  · have HX := Lib.hid hx
    have HR := Lib.hid hr
    clear hx hr
    by_cases hm : m ≤ 100
    · have HS : Hid (decide (m ≤ 100) = true) := Lib.hid (by simp; omega)
      go_enter Try.func7, Try.ntmps7
      go_wp2_with fail
      refine (anchor_any _).mono ?_
      rintro e w1 ⟨rfl, hb⟩
      obtain ⟨hcn, hcs⟩ := (boxed_alloc w n A m c 24).below hb (by simp)
      have HB1 : Hid (Below w.heap.size w w1) := Lib.hid (((Below.refl _ _).alloc (Nat.le_refl _) _).trans (hb.mono (by simp)))
      have hsz1 : w.heap.size < w1.heap.size := by have := hb.size; simp at this; omega
      clear hb
      go_wp2_with fail
      refine (small_wrong (HX.out.below HB1.out) HR.out hm0 (by omega)).mono ?_
      rintro e w2 ⟨rfl, hb⟩
      rw [HS.out]
      obtain ⟨hcn2, hcs2⟩ := Boxed.below ⟨hcn, hcs⟩ hb hsz1
      have HB2 : Hid (Below w.heap.size w w2) := Lib.hid (HB1.out.trans (hb.mono (by omega)))
      have hsz2 : w.heap.size < w2.heap.size := Nat.lt_of_lt_of_le hsz1 hb.size
      clear hb hcn hcs hsz1
      go_wp2_with fail
      refine (order_bad (HX.out.below HB2.out) HR.out hm0 (by omega)).mono ?_
      rintro e w3 ⟨rfl, hb⟩
      have HB3 : Hid (Below w.heap.size w w3) := Lib.hid (HB2.out.trans (hb.mono (by omega)))
      clear hb
      go_wp2
      go_ret
      exact ⟨rfl, HB3.out⟩
    · have HS : Hid (decide (m ≤ 100) = false) := Lib.hid (by simp; omega)
      go_enter Try.func7, Try.ntmps7
      go_wp2_with fail
      refine (anchor_any _).mono ?_
      rintro e w1 ⟨rfl, hb⟩
      obtain ⟨hcn, hcs⟩ := (boxed_alloc w n A m c 24).below hb (by simp)
      have HB1 : Hid (Below w.heap.size w w1) := Lib.hid (((Below.refl _ _).alloc (Nat.le_refl _) _).trans (hb.mono (by simp)))
      have hsz1 : w.heap.size < w1.heap.size := by have := hb.size; simp at this; omega
      clear hb
      go_wp2_with fail
      refine (small_wrong (HX.out.below HB1.out) HR.out hm0 (by omega)).mono ?_
      rintro e w2 ⟨rfl, hb⟩
      rw [HS.out]
      have HB2 : Hid (Below w.heap.size w w2) := Lib.hid (HB1.out.trans (hb.mono (by omega)))
      clear hb
      go_wp2
      go_ret
      exact ⟨rfl, HB2.out⟩
end Go.Proofs.Ytinphdphloddmaa
