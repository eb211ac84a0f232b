/-
  THE LAW RangesParses (printed by genlawrs.py).
-/
import Derived.Test.YtbmhjmdbolnbaaaDoorRParD
import Derived.Test.YtbmhjmdbolnbaaaDoorRLawH
import Derived.Test.YtbmhjmdbolnbaaaDoorRAlk
namespace Go.Proofs.YtbmhjmdbolnbaaaDoor
open Go.RowKit
open SemP
set_option linter.unusedVariables false
set_option linter.unusedSimpArgs false
set_option maxRecDepth 100000
theorem rangeR_cases {s : ByteArray} {e : Ending} {w' : World} (h : RangeR (parseG s) e w') : ∃ (A : Option Addr) (n c : Nat) (k : Int), e = .returned (.tuple #[.agg #[.slice A n c], .int .i64 k]) ∧ (parseG s = none → k = 10 ∧ n = 0) ∧ (∀ l, parseG s = some l → k = 0 ∧ n = l.length ∧ RdR w' w'.heap.size A l.length l) := by
  cases hp : parseG s with
  | none => rw [hp] at h; exact ⟨none, 0, 0, 10, h, fun _ => ⟨rfl, rfl⟩, fun l hl => by cases hl⟩
  | some l =>
    rw [hp] at h
    obtain ⟨A, c, he, hr⟩ := h
    exact ⟨A, l.length, c, 0, he, nofun, fun l2 hl => by injection hl with hl; subst hl; exact ⟨rfl, rfl, hr⟩⟩
theorem parD_cases {s : Str} {e : Ending} {w' : World} (h : ParD s e w') : ∃ (ps : List Str) (A : Option Addr) (n c : Nat) (q : Bool), Full sepL s ps ∧ e = .returned (.tuple #[.agg #[.slice A n c], .bool q]) ∧ q = (okR ps && rightR (docR ps)) ∧ (okR ps = true → n = ps.length ∧ RdR w' w'.heap.size A ps.length (docR ps)) := by
  obtain ⟨ps, hf, h0, h1⟩ := h
  cases hk : okR ps with
  | false => exact ⟨ps, none, 0, 0, false, hf, h0 hk, (by rw [hk]; rfl), (fun h => by rw [hk] at h; cases h)⟩
  | true =>
    obtain ⟨A, c, he, hr⟩ := h1 hk
    exact ⟨ps, A, ps.length, c, rightR (docR ps), hf, he, (by rw [hk]; simp), (fun _ => ⟨rfl, hr⟩)⟩
theorem docR_right {ps : List Str} (h1 : 1 ≤ ps.length) (hk : okR ps = true) : rightR (docR ps) = true ↔ (ps.length ≤ 8 ∧ ∀ p ∈ ps, (pieces 32 p).length ≤ 8) := by
  have hl : ∀ p ∈ ps, (rightL (docL p) = true ↔ (pieces 32 p).length ≤ 8) := fun p hp => by
    have hpos := (full_pieces 32 p).pos
    have hr := docL_right (List.all_eq_true.1 hk p hp)
    unfold rightL
    rw [Bool.and_eq_true, Bool.and_eq_true, decide_eq_true_eq, decide_eq_true_eq, List.all_eq_true]
    have e : (docL p).length = (pieces 32 p).length := by unfold docL; rw [List.length_map]
    rw [e]
    exact ⟨fun h => h.1.2, fun h => ⟨⟨hpos, h⟩, hr⟩⟩
  unfold rightR
  rw [Bool.and_eq_true, Bool.and_eq_true, decide_eq_true_eq, decide_eq_true_eq, List.all_eq_true]
  have e : (docR ps).length = ps.length := by unfold docR; rw [List.length_map]
  rw [e]
  refine ⟨fun h => ⟨h.1.2, fun p hp => (hl p hp).1 (h.2 _ (by unfold docR; exact List.mem_map.2 ⟨p, hp, rfl⟩))⟩, fun h => ⟨⟨h1, h.1⟩, fun l hm => ?_⟩⟩
  unfold docR at hm
  obtain ⟨p, hp, rfl⟩ := List.mem_map.1 hm
  exact (hl p hp).2 (h.2 p hp)
theorem parse_same {s : ByteArray} {ps : List Str} (hf : Full sepL (bs s) ps) : parseG s = if (okR ps && rightR (docR ps)) = true then some (docR ps) else none := by
  rw [parseG_doc hf]
  cases hk : okR ps with
  | false => rw [if_neg (fun h => by cases h.2.1), if_neg (by simp)]
  | true =>
    have h := docR_right hf.pos hk
    cases hr : rightR (docR ps) with
    | true => rw [if_pos ⟨(h.1 hr).1, rfl, (h.1 hr).2⟩, if_pos (show (true && true) = true from rfl)]
    | false => rw [if_neg (fun hh => by have := h.2 ⟨hh.1, hh.2.2⟩; rw [hr] at this; cases this), if_neg (by simp)]
theorem docR_plain {ps : List Str} (hk : okR ps = true) (hr : rightR (docR ps) = true) : plainR (docR ps) = true := by
  unfold plainR
  rw [Bool.and_eq_true, decide_eq_true_eq, List.all_eq_true]
  refine ⟨by have := rightR_len hr; omega, fun l hl => ?_⟩
  unfold plainL
  rw [Bool.and_eq_true, decide_eq_true_eq, List.all_eq_true]
  refine ⟨by have := (rightR_list hr hl).1; omega, fun x hx => ?_⟩
  have := docR_small hk l hl x hx
  exact decide_eq_true (by omega)
set_option maxHeartbeats 16000000 in
theorem law_parsesR (s : ByteArray) (w : World) (hg : SignsAt w) (hm : LenAt w) (h1 : 1 < w.heap.size) :
    Calls Tryd.prog 11 #[.string s] w fun e w' => e = .returned (.bool true) ∧ Below w.heap.size w w' := by
  have HM0 := Lib.hid (And.intro hm h1)
  have HG0 := Lib.hid hg
  have HAN := Lib.hid (ranchor_any w hg hm h1)
  clear hm hg h1
  go_enter Tryd.func11, Tryd.ntmps11
  go_wp2_with fail
  refine HAN.out.mono ?_
  rintro e W1 ⟨rfl, hb⟩
  have HB1 : Hid (Below w.heap.size w W1) := Lib.hid hb
  have HM1 := Lib.hid (HM0.out.1.below HM0.out.2 hb)
  have HG1 : Hid (SignsAt W1) := Lib.hid (HG0.out.below hb (by have := HM0.out.2; omega))
  clear hb HAN
  by_cases hsh : 600 < s.size
  · have dsh : decide (600 < (s.size : Int)) = true := decide_eq_true (by omega)
    go_wp2
    refine bodyPost_ret (results_tmp rfl _ _ _) rfl ⟨rfl, HB1.out⟩
  · have HSS : Hid (s.size ≤ 600) := Lib.hid (by omega)
    have dsh : decide (600 < (s.size : Int)) = false := decide_eq_false (by omega)
    have HP := Lib.hid (RgParse_any s W1 (by omega) HG1.out HM1.out.1 HM1.out.2)
    clear hsh
    go_wp2_with fail
    refine HP.out.mono ?_
    rintro e W2 ⟨hp, hb⟩
    obtain ⟨A, n, c, k, rfl, hp0, hp1⟩ := rangeR_cases hp
    have HP0 := Lib.hid hp0
    have HP1 := Lib.hid hp1
    obtain ⟨W3, hW3⟩ : ∃ W3, W2.alloc (.cells #[.slice A n c] 48) = W3 := ⟨_, rfl⟩
    have HB23 : Hid (Below W2.heap.size W2 W3) := Lib.hid (by rw [← hW3]; exact (Below.refl _ W2).alloc (Nat.le_refl _) _)
    have HX3 : Hid (W3.heap[W2.heap.size]? = some (.cells #[.slice A n c] 48)) := Lib.hid (by rw [← hW3]; exact World.alloc_heap_new _ _)
    have HL3 : Hid (W2.heap.size < W3.heap.size) := Lib.hid (by rw [← hW3]; simp)
    have HB13 : Hid (Below W1.heap.size W1 W3) := Lib.hid (hb.trans (HB23.out.mono hb.size))
    have HD := Lib.hid (RefRgParse_any s W3 (by have := HSS.out; omega))
    have HW3 := Lib.hid hW3
    clear hp hp0 hp1 hb HP hW3
    go_wp2_with fail
    rw [show W2.alloc (.cells #[.slice A n c] 48) = W3 from HW3.out]
    refine HD.out.mono ?_
    rintro e W4 ⟨hd, hb⟩
    obtain ⟨ps, A2, n2, c2, q, hfu, rfl, hq, hn2⟩ := parD_cases hd
    have HPS := Lib.hid (parse_same hfu)
    rw [← hq] at HPS
    have HQ := Lib.hid hq
    have HN2 := Lib.hid hn2
    have HPOS := Lib.hid hfu.pos
    obtain ⟨W5, hW5⟩ : ∃ W5, W4.alloc (.cells #[.slice A2 n2 c2] 53) = W5 := ⟨_, rfl⟩
    have HB45 : Hid (Below W4.heap.size W4 W5) := Lib.hid (by rw [← hW5]; exact (Below.refl _ W4).alloc (Nat.le_refl _) _)
    have HX5 : Hid (W5.heap[W4.heap.size]? = some (.cells #[.slice A2 n2 c2] 53)) := Lib.hid (by rw [← hW5]; exact World.alloc_heap_new _ _)
    have HL5 : Hid (W4.heap.size < W5.heap.size) := Lib.hid (by rw [← hW5]; simp)
    have HB35 : Hid (Below W3.heap.size W3 W5) := Lib.hid (hb.trans (HB45.out.mono hb.size))
    have HBw : Hid (Below w.heap.size w W5) := Lib.hid (HB1.out.trans ((HB13.out.trans (HB35.out.mono HB13.out.size)).mono HB1.out.size))
    have HX35 : Hid (W5.heap[W2.heap.size]? = some (.cells #[.slice A n c] 48)) := Lib.hid ((HB35.out.block _ HL3.out).trans HX3.out)
    have c3 := cell1 HX35.out
    rw [← hW5] at c3
    have HW5 := Lib.hid hW5
    have HBW5 : Hid (Below w.heap.size w (W4.alloc (.cells #[.slice A2 n2 c2] 53))) := Lib.hid (by rw [hW5]; exact HBw.out)
    clear hd hfu hq hn2 hb HD hW5
    cases q with
    | false =>
      obtain ⟨rfl, rfl⟩ := HP0.out (by rw [HPS.out]; rfl)
      go_wp2
      refine bodyPost_ret (results_tmp rfl _ _ _) rfl ⟨rfl, HBW5.out⟩
    | true =>
      have HQ2 : Hid (okR ps = true ∧ rightR (docR ps) = true) := Lib.hid (by have h := HQ.out.symm; rw [Bool.and_eq_true] at h; exact h)
      obtain ⟨rfl, hrd⟩ := HN2.out HQ2.out.1
      obtain ⟨rfl, hnl, hrr⟩ := HP1.out (docR ps) (by rw [HPS.out]; rfl)
      have hlen : (docR ps).length = ps.length := by unfold docR; rw [List.length_map]
      rw [hlen] at hnl hrr
      subst hnl
      have HRR5 : Hid (RdR W5 W2.heap.size A ps.length (docR ps)) := Lib.hid ((hrr.below HB23.out).below (HB35.out.mono HB23.out.size))
      have HRD5 : Hid (RdR W5 W4.heap.size A2 ps.length (docR ps)) := Lib.hid (hrd.below HB45.out)
      have HS5 : Hid (W2.heap.size ≤ W5.heap.size) := Lib.hid (Nat.le_trans HB23.out.size HB35.out.size)
      have HPC := Lib.hid (plain_any A ps.length c (docR ps) W5 W2.heap.size HRR5.out HS5.out)
      have HL8 : Hid (ps.length ≤ 8) := Lib.hid (by have := rightR_len HQ2.out.2; omega)
      clear hrd hrr hlen
      go_wp2_with fail
      try rw [show W4.alloc (.cells #[.slice A2 ps.length c2] 53) = W5 from HW5.out]
      clear c3
      refine HPC.out.mono ?_
      rintro e W6 ⟨hp, hb⟩
      unfold PlainR at hp
      rw [if_pos (docR_plain HQ2.out.1 HQ2.out.2), show (docR ps).length = ps.length by unfold docR; rw [List.length_map]] at hp
      obtain ⟨A5, c5, rfl, hrx⟩ := hp
      obtain ⟨W7, hW7⟩ : ∃ W7, W6.alloc (.cells #[.slice A5 ps.length c5] 53) = W7 := ⟨_, rfl⟩
      have HB67 : Hid (Below W6.heap.size W6 W7) := Lib.hid (by rw [← hW7]; exact (Below.refl _ W6).alloc (Nat.le_refl _) _)
      have HB57 : Hid (Below W5.heap.size W5 W7) := Lib.hid (hb.trans (HB67.out.mono hb.size))
      have HR7 : Hid (RdR W7 W6.heap.size A5 ps.length (docR ps)) := Lib.hid (hrx.below HB67.out)
      have HD7 : Hid (RdR W7 W4.heap.size A2 ps.length (docR ps)) := Lib.hid (HRD5.out.below (HB57.out.mono HB45.out.size))
      have HAL := Lib.hid (alike_any A5 A2 ps.length c5 c2 (docR ps) W7 W6.heap.size W4.heap.size HR7.out HD7.out HB67.out.size (Nat.le_trans HB45.out.size HB57.out.size) (by have := HL8.out; omega) (fun l hl => by have := (rightR_list HQ2.out.2 hl).1; omega))
      have c5' : W7.cell? ⟨W4.heap.size, 0, none⟩ = some (.slice A2 ps.length c2) := cell1 ((HB57.out.block _ HL5.out).trans HX5.out)
      have c7' : W7.cell? ⟨W6.heap.size, 0, none⟩ = some (.slice A5 ps.length c5) := by rw [← hW7]; exact cell1 (World.alloc_heap_new _ _)
      rw [← hW7] at c5' c7'
      have HW7 := Lib.hid hW7
      have HBw7 : Hid (Below w.heap.size w W7) := Lib.hid (HBw.out.trans (HB57.out.mono HBw.out.size))
      clear hb hrx hW7 HPC
      go_wp2_with fail
      try rw [show W6.alloc (.cells #[.slice A5 ps.length c5] 53) = W7 from HW7.out]
      clear c5' c7'
      refine HAL.out.mono ?_
      rintro e W8 ⟨rfl, hb⟩
      have HBw8 : Hid (Below w.heap.size w W8) := Lib.hid (HBw7.out.trans (hb.mono HBw7.out.size))
      clear hb
      go_wp2
      refine bodyPost_ret (results_tmp rfl _ _ _) rfl ⟨rfl, HBw8.out⟩
end Go.Proofs.YtbmhjmdbolnbaaaDoor
