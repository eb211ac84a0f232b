/-
  CONTRACT of SemverNumbers' own function: the digits of a number.
  PURE: Pres that are numbers. WORDS: a version's last cell set.
-/
import Derived.Test.YtpnbbbhbbnemlaaGreatDoorSGb
import Derived.Laws.BytesArg
import Derived.Test.YtpnbbbhbbnemlaaGreatDoorSAt4
namespace SemP
open Go.Lib
theorem orI_zero' (c : Int) : orI c 0 = c := by
  unfold orI; split
  · rfl
  · next h => omega
theorem dot_digits (a : Nat) : (46 : UInt8) ∉ decDigits a := dig_no (decDigits_all a) (by decide)
theorem mark_digits {a : Nat} (h : a ≤ 999999) : rightMark (decDigits a) = true := by
  have h1 := decDigits_plain a h
  have h2 := decDigits_allDig a
  have h3 : (decDigits a).length ≤ 6 := by unfold plainN at h1; simp at h1; exact h1.1
  unfold rightMark
  rw [h2, h1]
  have h4 : (decDigits a).isEmpty = false := by
    cases hd : decDigits a with
    | nil => exact absurd hd (decDigits_ne a)
    | cons x l => rfl
  rw [h4]; simp; omega
theorem pre_digits {a : Nat} (h : a ≤ 999999) : rightPre (decDigits a) = true := by
  unfold rightPre
  rw [pieces_one 46 _ (dot_digits a)]
  simp [mark_digits h]
theorem digits_inj {a b : Nat} (h : decDigits a = decDigits b) : a = b := by
  have := congrArg numOf h
  rw [decDigits_num, decDigits_num] at this; exact this
theorem cmpPre_digits {a b : Nat} (ha : a ≤ 999999) (hb : b ≤ 999999) : cmpPre (decDigits a) (decDigits b) = compareInt a b := by
  unfold cmpPre
  by_cases h : a = b
  · subst h; rw [if_pos rfl]; exact (cmp_same _).symm
  · rw [if_neg (fun e => h (digits_inj e)), if_neg (decDigits_ne a), if_neg (decDigits_ne b), pieces_one 46 _ (dot_digits a), pieces_one 46 _ (dot_digits b)]
    show orI (cmpMarks (decDigits a) (decDigits b)) 0 = _
    rw [orI_zero']
    unfold cmpMarks
    rw [decDigits_allDig, decDigits_allDig]
    simp only [Bool.and_self, if_true]
    have := compare_num (decDigits a) (decDigits b) (decDigits_allDig a) (decDigits_allDig b) (decDigits_plain a ha) (decDigits_plain b hb)
    rw [this, decDigits_num, decDigits_num]
theorem cmpPre_word {a : Nat} {t : Str} : cmpPre (decDigits a) (97 :: t) = -1 := by
  unfold cmpPre
  have hne : decDigits a ≠ 97 :: t := fun e => by
    have := decDigits_all a
    rw [e] at this
    simp [dig] at this
  rw [if_neg hne, if_neg (decDigits_ne a), if_neg (by simp), pieces_one 46 _ (dot_digits a)]
  cases hp : pieces 46 t with
  | nil => exact absurd hp (pieces_ne _ _)
  | cons p ps =>
    rw [pieces_step (by decide) hp]
    show orI (cmpMarks (decDigits a) (97 :: p)) _ = -1
    have : cmpMarks (decDigits a) (97 :: p) = -1 := by
      unfold cmpMarks
      rw [decDigits_allDig, show allDig (97 :: p) = false from by unfold allDig; simp [dig]]
      rfl
    rw [this]; rfl
theorem right_digits {x y z : Int} {a : Nat} (h : a ≤ 999999) : Ver.right ⟨x, y, z, decDigits a⟩ = (rightN x && rightN y && rightN z) := by
  unfold Ver.right
  simp only [pre_digits h, Bool.or_true, Bool.and_true]
end SemP
namespace Go.Proofs.YtpnbbbhbbnemlaaGreatDoor
section
open Go.RowKit
open SemP
set_option linter.unusedVariables false
set_option linter.unusedSimpArgs false
set_option maxRecDepth 100000

theorem dec_small {n : Nat} (h : n < 10) : Lib.decDigits n = [UInt8.ofNat (48 + n)] := by
  rw [Lib.decDigits, dif_pos h]
theorem dec_step {n : Nat} (h : 10 ≤ n) : Lib.decDigits n = Lib.decDigits (n / 10) ++ [UInt8.ofNat (48 + n % 10)] := by
  rw [Lib.decDigits, dif_neg (by omega)]
theorem bs_app (s t : ByteArray) : bs (s ++ t) = bs s ++ bs t := by
  show (s ++ t).data.toList = _
  rw [ByteArray.data_append]; simp [bs]
theorem bs_nums1 (k : Nat) (h : k < 256) : bs (strOfNums [(k : Int)]) = [UInt8.ofNat k] := by
  simp [strOfNums, bs]
theorem conv1 (w : World) (b : Nat) (x : Int) (hc : w.cell? ⟨b, 0, none⟩ = some (.int .u8 x)) : (convert 61 9 (.slice (some ⟨b, 0, none⟩) 1 1)).run Tryz.prog w = .ok (.string (strOfNums [x])) w :=
  run_convert_bytes_arg w 61 5 Tryz.underlying61 Tryz.underlying5 b 0 1 1 [x] rfl (fun i hi => by
    have : i = 0 := by omega
    subst this; exact hc) 9 Tryz.underlying9
theorem dec_len (n : Nat) (h : n ≤ 999999) : (Lib.decDigits n).length ≤ 6 := by
  have := decDigits_plain n h
  unfold plainN at this
  simp at this
  exact this.1
end
section
open Go.RowKit
open SemP
theorem At4.set3 {w : World} {g : Nat} {a b c : Int} {s s' : ByteArray} (h : At4 w g a b c s) : At4 (w.setCell ⟨g, 3, none⟩ (.string s')) g a b c s' := by
  have n03 : (⟨g, 0, none⟩ : Addr) ≠ ⟨g, 3, none⟩ := by simp
  have n13 : (⟨g, 1, none⟩ : Addr) ≠ ⟨g, 3, none⟩ := by simp
  have n23 : (⟨g, 2, none⟩ : Addr) ≠ ⟨g, 3, none⟩ := by simp
  refine ⟨?_, ?_, ?_, ?_, ?_, ?_, ?_, ?_⟩
  · rw [World.cell?_setCell_other _ _ _ _ n03.symm]; exact h.c0
  · rw [World.cell?_setCell_other _ _ _ _ n13.symm]; exact h.c1
  · rw [World.cell?_setCell_other _ _ _ _ n23.symm]; exact h.c2
  · exact World.cell?_setCell_same _ _ _ h.c3
  · simp [h.f0]
  · simp [h.f1]
  · simp [h.f2]
  · simp [h.f3]
theorem At4.other3 {w : World} {g k : Nat} {a b c : Int} {s : ByteArray} (h : At4 w g a b c s) (hne : g ≠ k) (v : Value) : At4 (w.setCell ⟨k, 3, none⟩ v) g a b c s := h.block (Below.heap_setCell _ _ _ _ hne)
end
end Go.Proofs.YtpnbbbhbbnemlaaGreatDoor
