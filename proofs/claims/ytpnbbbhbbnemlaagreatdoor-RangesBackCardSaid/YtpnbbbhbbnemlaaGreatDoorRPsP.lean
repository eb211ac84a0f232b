/-
  PURE: a text's pieces, split in full; the program's pieces are the document's.
-/
import Derived.Test.YtpnbbbhbbnemlaaGreatDoorRPl
import Derived.Lib.IndexLaws
namespace SemP
open Go.Lib
/-- ps are all pieces of s between sep. -/
inductive Full (sep : Str) : Str → List Str → Prop where
  | last (s : Str) : index s sep = -1 → Full sep s [s]
  | more (s : Str) (i : Nat) (ps : List Str) : index s sep = i → i + sep.length ≤ s.length → Full sep (s.drop (i + sep.length)) ps → Full sep s (s.take i :: ps)
theorem Full.pos {sep s : Str} {ps : List Str} (h : Full sep s ps) : 1 ≤ ps.length := by
  cases h <;> simp
theorem Full.len {sep s : Str} {ps : List Str} (hs : 1 ≤ sep.length) (h : Full sep s ps) : ps.length ≤ s.length + 1 := by
  induction h with
  | last s h => simp
  | more s i ps h hr hp ih =>
    rw [List.length_drop] at ih
    simp only [List.length_cons]
    omega
theorem Full.split {sep s : Str} {ps : List Str} (h : Full sep s ps) : ∀ k, (ps.length ≤ k + 1 → splitK sep 0 k s = ps) ∧ (k + 1 < ps.length → (splitK sep 0 k s).length = k + 1) := by
  induction h with
  | last s h =>
    intro k
    refine ⟨fun _ => ?_, fun hk => by simp at hk⟩
    cases k with
    | zero => rfl
    | succ k => unfold splitK; rw [if_pos (by rw [h]; rfl)]
  | more s i ps h hr hp ih =>
    intro k
    have hpos := hp.pos
    cases k with
    | zero => exact ⟨fun hk => by simp only [List.length_cons] at hk; omega, fun _ => rfl⟩
    | succ k =>
      have e : splitK sep 0 (k + 1) s = s.take i :: splitK sep 0 k (s.drop (i + sep.length)) := by
        rw [splitK, if_neg (by rw [h]; intro e; have := beq_iff_eq.1 e; omega), h]; rfl
      rw [e]
      have hk := ih k
      refine ⟨fun hl => ?_, fun hl => ?_⟩
      · rw [hk.1 (by simp only [List.length_cons] at hl; omega)]
      · simp only [List.length_cons]; rw [hk.2 (by simp only [List.length_cons] at hl; omega)]
theorem full_pieces (c : UInt8) : ∀ s : Str, Full [c] s (pieces c s)
  | [] => Full.last [] rfl
  | b :: l => by
    have ih := full_pieces c l
    unfold pieces
    by_cases hb : b = c
    · rw [if_pos hb]
      subst hb
      refine Full.more (b :: l) 0 (pieces b l) ?_ (by simp) (by simpa using ih)
      unfold index
      rw [if_pos (by simp)]; rfl
    · rw [if_neg hb]
      have hp : ¬ ([c].isPrefixOf (b :: l)) = true := by simp; exact fun e => hb e.symm
      revert ih
      cases hq : pieces c l with
      | nil => intro ih; cases ih
      | cons p ps =>
        intro ih
        simp only
        cases ih with
        | last _ h =>
          refine Full.last (b :: l) ?_
          unfold index
          rw [if_neg hp, if_pos (by rw [h]; rfl)]
        | more _ i _ h hr hd =>
          refine Full.more (b :: l) (i + 1) ps ?_ (by simp at hr ⊢; omega) ?_
          · unfold index
            rw [if_neg hp, if_neg (by rw [h]; intro e; have := beq_iff_eq.1 e; omega), h]; rfl
          · have e : (b :: l).drop (i + 1 + [c].length) = l.drop (i + [c].length) := by simp
            rw [e]; exact hd
end SemP
namespace Go.Proofs.YtpnbbbhbbnemlaaGreatDoor
open Go.RowKit
open SemP
set_option linter.unusedSimpArgs false
theorem texts9_map (sep s : ByteArray) : (texts9 sep s).map bs = Lib.splitK (bs sep) 0 (min 9 (s.size + 1) - 1) (bs s) := Lib.splitB_data sep 0 _ s
theorem texts9_full {sep s : ByteArray} {ps : List Str} (hs : 1 ≤ sep.size) (h : Full (bs sep) (bs s) ps) : (ps.length ≤ 8 → (texts9 sep s).map bs = ps) ∧ (8 < ps.length → 8 < (texts9 sep s).length) := by
  have hl := h.len (by rw [show (bs sep).length = sep.size from (Lib.size_eq sep).symm]; exact hs)
  rw [show (bs s).length = s.size from (Lib.size_eq s).symm] at hl
  have hk := h.split (min 9 (s.size + 1) - 1)
  have e : (texts9 sep s).length = (Lib.splitK (bs sep) 0 (min 9 (s.size + 1) - 1) (bs s)).length := by rw [← texts9_map, List.length_map]
  refine ⟨fun h8 => ?_, fun h8 => ?_⟩
  · rw [texts9_map]; exact hk.1 (by omega)
  · rw [e]
    by_cases h9 : ps.length ≤ min 9 (s.size + 1) - 1 + 1
    · rw [hk.1 h9]; exact h8
    · rw [hk.2 (by omega)]; omega
/-- The document's list of a piece, and whether all its comparisons are some. -/
def docL (p : Str) : List CV := (pieces 32 p).map (fun x => (parseC x).1)
def okL (p : Str) : Bool := (pieces 32 p).all (fun x => (parseC x).2)
theorem parseL_doc (p : ByteArray) : parseL p = if (pieces 32 (bs p)).length ≤ 8 ∧ okL (bs p) = true then some (docL (bs p)) else none := by
  have hf := texts9_full (sep := ⟨#[32]⟩) (s := p) (by decide) (full_pieces 32 (bs p))
  unfold parseL
  by_cases h8 : (pieces 32 (bs p)).length ≤ 8
  · have e := hf.1 h8
    have el : (texts9 ⟨#[32]⟩ p).length = (pieces 32 (bs p)).length := by rw [← e, List.length_map]
    rw [if_neg (by omega)]
    have e1 : (texts9 ⟨#[32]⟩ p).all (fun q => (parseC (bs q)).2) = okL (bs p) := by unfold okL; rw [← e, List.all_map]; rfl
    have e2 : (texts9 ⟨#[32]⟩ p).map (fun q => (parseC (bs q)).1) = docL (bs p) := by unfold docL; rw [← e, List.map_map]; rfl
    rw [e1, e2]
    cases hk : okL (bs p) with
    | true => rw [if_pos rfl, if_pos ⟨h8, rfl⟩]
    | false => rw [if_neg (by decide), if_neg (fun h => by cases h.2)]
  · rw [if_pos (hf.2 (by omega)), if_neg (fun h => h8 h.1)]
def docR (ps : List Str) : List (List CV) := ps.map docL
def okR (ps : List Str) : Bool := ps.all okL
theorem parseG_doc {s : ByteArray} {ps : List Str} (h : Full [32, 124, 124, 32] (bs s) ps) : parseG s = if ps.length ≤ 8 ∧ okR ps = true ∧ (∀ p ∈ ps, (pieces 32 p).length ≤ 8) then some (docR ps) else none := by
  have hf := texts9_full (sep := ⟨#[32, 124, 124, 32]⟩) (s := s) (by decide) h
  unfold parseG
  by_cases h8 : ps.length ≤ 8
  · have e := hf.1 h8
    have el : (texts9 ⟨#[32, 124, 124, 32]⟩ s).length = ps.length := by rw [← e, List.length_map]
    rw [if_neg (by omega)]
    have e1 : (texts9 ⟨#[32, 124, 124, 32]⟩ s).all (fun p => (parseL p).isSome) = ps.all (fun p => decide ((pieces 32 p).length ≤ 8) && okL p) := by
      rw [← e, List.all_map]
      congr 1
      funext p
      rw [parseL_doc]
      show _ = (decide ((pieces 32 (bs p)).length ≤ 8) && okL (bs p))
      by_cases h1 : (pieces 32 (bs p)).length ≤ 8
      · cases h2 : okL (bs p) with
        | true => rw [if_pos ⟨h1, rfl⟩, decide_eq_true h1]; rfl
        | false => rw [if_neg (fun h => by cases h.2)]; simp
      · rw [if_neg (fun h => h1 h.1), decide_eq_false h1]; rfl
    rw [e1]
    by_cases hall : okR ps = true ∧ (∀ p ∈ ps, (pieces 32 p).length ≤ 8)
    · have ha : ps.all (fun p => decide ((pieces 32 p).length ≤ 8) && okL p) = true := by
        rw [List.all_eq_true]
        intro p hp
        rw [Bool.and_eq_true, decide_eq_true_eq]
        exact ⟨hall.2 p hp, List.all_eq_true.1 hall.1 p hp⟩
      rw [if_pos ha, if_pos ⟨h8, hall⟩]
      congr 1
      unfold docR
      rw [← e, List.map_map]
      refine List.map_congr_left (fun p hp => ?_)
      have hm : bs p ∈ ps := by rw [← e]; exact List.mem_map.2 ⟨p, hp, rfl⟩
      rw [parseL_doc, if_pos ⟨hall.2 _ hm, List.all_eq_true.1 hall.1 _ hm⟩]; rfl
    · have hL : ¬ (ps.all (fun p => decide ((pieces 32 p).length ≤ 8) && okL p)) = true := by
        intro ha
        rw [List.all_eq_true] at ha
        refine hall ⟨?_, fun p hp => ?_⟩
        · unfold okR
          rw [List.all_eq_true]
          intro p hp
          have := ha p hp
          rw [Bool.and_eq_true] at this
          exact this.2
        · have := ha p hp
          rw [Bool.and_eq_true, decide_eq_true_eq] at this
          exact this.1
      rw [if_neg hL, if_neg (fun h => hall h.2)]
  · rw [if_pos (hf.2 (by omega)), if_neg (fun h => h8 h.1)]
end Go.Proofs.YtpnbbbhbbnemlaaGreatDoor
