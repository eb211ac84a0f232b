/-
  CONTRACT of SemverNumbers' own function: the digits of a number.
-/
import Derived.Test.YtbmhjmdbolnbaaaDoorSMore
import Derived.Laws.BytesArg
namespace Go.Proofs.YtbmhjmdbolnbaaaDoor
open Go.RowKit
open SemP
set_option linter.unusedVariables false
set_option linter.unusedSimpArgs false
set_option maxRecDepth 100000

theorem dec_small {n : Nat} (h : n < 10) : Lib.decDigits n = [UInt8.ofNat (48 + n)] := by
  rw [Lib.decDigits, dif_pos h]
theorem dec_step {n : Nat} (h : 10 ≤ n) : Lib.decDigits n = Lib.decDigits (n / 10) ++ [UInt8.ofNat (48 + n % 10)] := by
  rw [Lib.decDigits, dif_neg (by omega)]
theorem bs_app (s t : ByteArray) : bs (s ++ t) = bs s ++ bs t := by
  show (s ++ t).data.toList = _
  rw [ByteArray.data_append]; simp [bs]
theorem bs_nums1 (k : Nat) (h : k < 256) : bs (strOfNums [(k : Int)]) = [UInt8.ofNat k] := by
  simp [strOfNums, bs]
theorem conv1 (w : World) (b : Nat) (x : Int) (hc : w.cell? ⟨b, 0, none⟩ = some (.int .u8 x)) : (convert 43 9 (.slice (some ⟨b, 0, none⟩) 1 1)).run Tryd.prog w = .ok (.string (strOfNums [x])) w :=
  run_convert_bytes_arg w 43 5 Tryd.underlying43 Tryd.underlying5 b 0 1 1 [x] rfl (fun i hi => by
    have : i = 0 := by omega
    subst this; exact hc) 9 Tryd.underlying9
theorem dec_len (n : Nat) (h : n ≤ 999999) : (Lib.decDigits n).length ≤ 6 := by
  have := decDigits_plain n h
  unfold plainN at this
  simp at this
  exact this.1
set_option maxHeartbeats 4000000 in
theorem digits_any (n : Nat) (w : World) (hn : n ≤ 999999) :
    Calls Tryd.prog 30 #[.int .i64 (n : Int)] w fun e w' => ∃ s, e = .returned (.string s) ∧ bs s = Lib.decDigits n ∧ Below w.heap.size w w' := by
  go_enter Tryd.func30, Tryd.ntmps30
  go_wp2
  go_loopw [0, 3] (fun v0 v3 wr => ∃ (k : Nat) (s : ByteArray), v0 = .int .i64 (k : Int) ∧ v3 = .string s ∧ Hid (k ≤ 999999) ∧ Hid (Lib.decDigits n = Lib.decDigits k ++ bs s) ∧ Hid (s.size ≤ 1000000) ∧ Hid (Below w.heap.size w wr)) (fun v _ _ => (intOf v).toNat)
  case atStart => exact ⟨n, ⟨#[]⟩, rfl, rfl, Lib.hid hn, Lib.hid (by rw [show bs ⟨#[]⟩ = [] from rfl, List.append_nil]), Lib.hid (Nat.zero_le _), Lib.hid (Below.refl _ _)⟩
  case round =>
    obtain ⟨k, s, rfl, rfl, HK, HD, HS, HB⟩ := hrel
    by_cases h9 : 9 < k
    · have d9 : decide (9 < (k : Int)) = true := by simp; omega
      have hq : IntKind.i64.wrap ((k : Int) / 10) = ((k / 10 : Nat) : Int) := by rw [IntWalk.i64_in _ (by have := HK.out; omega)]; omega
      have hconv : (convert 43 9 (.slice (some ⟨wr.heap.size, 0, none⟩) 1 1)).run Tryd.prog (wr.alloc (.cells #[.int .u8 (48 + (k : Int) % 10)] 5)) = .ok (.string (strOfNums [48 + (k : Int) % 10])) _ := conv1 _ _ _ (by simp)
      have hcat := fun (w : World) => run_string_add_sum (P := Tryd.prog) (w := w) (strOfNums [48 + (k : Int) % 10]) s (by have := HS.out; rw [strOfNums_size]; simp; omega)
      have HD2 : Hid (Lib.decDigits n = Lib.decDigits (k / 10) ++ bs (strOfNums [48 + (k : Int) % 10] ++ s)) := Lib.hid (by
        rw [HD.out, dec_step (show 10 ≤ k by omega), bs_app, show (48 + (k : Int) % 10) = ((48 + k % 10 : Nat) : Int) by omega, bs_nums1 _ (by omega), List.append_assoc])
      have HS2 : Hid ((strOfNums [48 + (k : Int) % 10] ++ s).size ≤ 1000000) := Lib.hid (by
        have h1 : (bs (strOfNums [48 + (k : Int) % 10] ++ s)).length ≤ (Lib.decDigits n).length := by rw [HD2.out, List.length_append]; omega
        have h2 := dec_len n hn
        rw [Lib.size_eq]; exact Nat.le_trans h1 (Nat.le_trans h2 (by decide)))
      have HB2 : Hid (∀ o : Obj, Below w.heap.size w (wr.alloc o)) := Lib.hid (fun o => HB.out.alloc HB.out.size o)
      go_wp2
      go_roundw
      case rel => exact ⟨k / 10, _, by first | rfl | simp, rfl, Lib.hid (by have := HK.out; omega), HD2, HS2, Lib.hid (HB2.out _)⟩
      case measure => simp [intOf]; omega
    · have d9 : decide (9 < (k : Int)) = false := by simp; omega
      have hconv : (convert 43 9 (.slice (some ⟨wr.heap.size, 0, none⟩) 1 1)).run Tryd.prog (wr.alloc (.cells #[.int .u8 (48 + (k : Int))] 5)) = .ok (.string (strOfNums [48 + (k : Int)])) _ := conv1 _ _ _ (by simp)
      have hcat := fun (w : World) => run_string_add_sum (P := Tryd.prog) (w := w) (strOfNums [48 + (k : Int)]) s (by have := HS.out; rw [strOfNums_size]; simp; omega)
      have HD2 : Hid (bs (strOfNums [48 + (k : Int)] ++ s) = Lib.decDigits n) := Lib.hid (by
        rw [HD.out, dec_small (show k < 10 by omega), bs_app, show (48 + (k : Int)) = ((48 + k : Nat) : Int) by omega, bs_nums1 _ (by omega)])
      have HB2 : Hid (∀ o : Obj, Below w.heap.size w (wr.alloc o)) := Lib.hid (fun o => HB.out.alloc HB.out.size o)
      go_wp2
      refine bodyPost_ret (results_tmp rfl _ _ _) rfl ⟨_, rfl, HD2.out, HB2.out _⟩
end Go.Proofs.YtbmhjmdbolnbaaaDoor
