/-
  THE LAW RangesParses (printed by genlawrs.py).
-/
import Derived.Test.YtpnbbbhbbnemlaaGreatDoorRParD
import Derived.Test.YtpnbbbhbbnemlaaGreatDoorRLawH
import Derived.Test.YtpnbbbhbbnemlaaGreatDoorRAlk
namespace Go.Proofs.YtpnbbbhbbnemlaaGreatDoor
open Go.RowKit
open SemP
set_option linter.unusedVariables false
set_option linter.unusedSimpArgs false
set_option maxRecDepth 100000
theorem rangeR_cases {s : ByteArray} {e : Ending} {w' : World} (h : RangeR (parseG s) e w') : ∃ (A : Option Addr) (n c : Nat) (k : Int), e = .returned (.tuple #[.agg #[.slice A n c], .int .i64 k]) ∧ (parseG s = none → k = 10 ∧ n = 0) ∧ (∀ l, parseG s = some l → k = 0 ∧ n = l.length ∧ RdR w' w'.heap.size A l.length l) := by
  cases hp : parseG s with
  | none => rw [hp] at h; exact ⟨none, 0, 0, 10, h, fun _ => ⟨rfl, rfl⟩, fun l hl => by cases hl⟩
  | some l =>
    rw [hp] at h
    obtain ⟨A, c, he, hr⟩ := h
    exact ⟨A, l.length, c, 0, he, nofun, fun l2 hl => by injection hl with hl; subst hl; exact ⟨rfl, rfl, hr⟩⟩
theorem parD_cases {s : Str} {e : Ending} {w' : World} (h : ParD s e w') : ∃ (ps : List Str) (A : Option Addr) (n c : Nat) (q : Bool), Full sepL s ps ∧ e = .returned (.tuple #[.agg #[.slice A n c], .bool q]) ∧ q = (okR ps && rightR (docR ps)) ∧ (okR ps = true → n = ps.length ∧ RdR w' w'.heap.size A ps.length (docR ps)) := by
  obtain ⟨ps, hf, h0, h1⟩ := h
  cases hk : okR ps with
  | false => exact ⟨ps, none, 0, 0, false, hf, h0 hk, (by rw [hk]; rfl), (fun h => by rw [hk] at h; cases h)⟩
  | true =>
    obtain ⟨A, c, he, hr⟩ := h1 hk
    exact ⟨ps, A, ps.length, c, rightR (docR ps), hf, he, (by rw [hk]; simp), (fun _ => ⟨rfl, hr⟩)⟩
theorem docR_right {ps : List Str} (h1 : 1 ≤ ps.length) (hk : okR ps = true) : rightR (docR ps) = true ↔ (ps.length ≤ 8 ∧ ∀ p ∈ ps, (pieces 32 p).length ≤ 8) := by
  have hl : ∀ p ∈ ps, (rightL (docL p) = true ↔ (pieces 32 p).length ≤ 8) := fun p hp => by
    have hpos := (full_pieces 32 p).pos
    have hr := docL_right (List.all_eq_true.1 hk p hp)
    unfold rightL
    rw [Bool.and_eq_true, Bool.and_eq_true, decide_eq_true_eq, decide_eq_true_eq, List.all_eq_true]
    have e : (docL p).length = (pieces 32 p).length := by unfold docL; rw [List.length_map]
    rw [e]
    exact ⟨fun h => h.1.2, fun h => ⟨⟨hpos, h⟩, hr⟩⟩
  unfold rightR
  rw [Bool.and_eq_true, Bool.and_eq_true, decide_eq_true_eq, decide_eq_true_eq, List.all_eq_true]
  have e : (docR ps).length = ps.length := by unfold docR; rw [List.length_map]
  rw [e]
  refine ⟨fun h => ⟨h.1.2, fun p hp => (hl p hp).1 (h.2 _ (by unfold docR; exact List.mem_map.2 ⟨p, hp, rfl⟩))⟩, fun h => ⟨⟨h1, h.1⟩, fun l hm => ?_⟩⟩
  unfold docR at hm
  obtain ⟨p, hp, rfl⟩ := List.mem_map.1 hm
  exact (hl p hp).2 (h.2 p hp)
theorem parse_same {s : ByteArray} {ps : List Str} (hf : Full sepL (bs s) ps) : parseG s = if (okR ps && rightR (docR ps)) = true then some (docR ps) else none := by
  rw [parseG_doc hf]
  cases hk : okR ps with
  | false => rw [if_neg (fun h => by cases h.2.1), if_neg (by simp)]
  | true =>
    have h := docR_right hf.pos hk
    cases hr : rightR (docR ps) with
    | true => rw [if_pos ⟨(h.1 hr).1, rfl, (h.1 hr).2⟩, if_pos (show (true && true) = true from rfl)]
    | false => rw [if_neg (fun hh => by have := h.2 ⟨hh.1, hh.2.2⟩; rw [hr] at this; cases this), if_neg (by simp)]
theorem docR_plain {ps : List Str} (hk : okR ps = true) (hr : rightR (docR ps) = true) : plainR (docR ps) = true := by
  unfold plainR
  rw [Bool.and_eq_true, decide_eq_true_eq, List.all_eq_true]
  refine ⟨by have := rightR_len hr; omega, fun l hl => ?_⟩
  unfold plainL
  rw [Bool.and_eq_true, decide_eq_true_eq, List.all_eq_true]
  refine ⟨by have := (rightR_list hr hl).1; omega, fun x hx => ?_⟩
  have := docR_small hk l hl x hx
  exact decide_eq_true (by omega)
end Go.Proofs.YtpnbbbhbbnemlaaGreatDoor
