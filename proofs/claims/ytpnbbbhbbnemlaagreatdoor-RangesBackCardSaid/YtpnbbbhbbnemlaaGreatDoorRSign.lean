/-
  RANGES: contracts: signOf, parseComp.
-/
import Derived.Test.YtpnbbbhbbnemlaaGreatDoorRPure
import Derived.Test.YtpnbbbhbbnemlaaGreatDoorSAt4
namespace Go.Proofs.YtpnbbbhbbnemlaaGreatDoor
open Go.RowKit
open SemP
set_option linter.unusedVariables false
set_option linter.unusedSimpArgs false
set_option maxRecDepth 100000

def sgL : List Str := [[42], [61], [60], [60, 61], [62], [62, 61], [94], [126]]
abbrev sg (i : Nat) : Str := sgL.getD i []
/-- The program's table of signs. -/
def SignsAt (w : World) : Prop := ∀ i, i < 8 → w.cell? ⟨0, i, none⟩ = some (.string (mk (sg i)))
theorem SignsAt.below {w w' : World} {B : Nat} (h : SignsAt w) (hb : Below B w w') (hB : 0 < B) : SignsAt w' := fun i hi => (hb.cell (p := ⟨0, i, none⟩) hB).trans (h i hi)
def foldS (s : Str) : Nat → Nat × Bool
  | 0 => (0, false)
  | i + 1 => if Lib.hasPrefix s (sg i) && (!(foldS s i).2 || decide ((sg (foldS s i).1).length < (sg i).length)) then (i, true) else foldS s i
def signR (s : Str) : Nat × Bool := foldS s 8
theorem foldS_lt (s : Str) (i : Nat) (h : i ≤ 8) : (foldS s i).1 < 8 := by
  induction i with
  | zero => simp [foldS]
  | succ i ih =>
    unfold foldS
    split
    · show i < 8; omega
    · exact ih (by omega)
theorem idx_sign0 (W : World) : (Instr.index 123 (.agg #[.string ⟨#[42]⟩, .string ⟨#[61]⟩, .string ⟨#[60]⟩, .string ⟨#[60, 61]⟩, .string ⟨#[62]⟩, .string ⟨#[62, 61]⟩, .string ⟨#[94]⟩, .string ⟨#[126]⟩]) (.int .i64 0)).run Tryz.prog W = .ok (.string ⟨#[42]⟩) W := by kernel_rfl
theorem idx_sign1 (W : World) : (Instr.index 123 (.agg #[.string ⟨#[42]⟩, .string ⟨#[61]⟩, .string ⟨#[60]⟩, .string ⟨#[60, 61]⟩, .string ⟨#[62]⟩, .string ⟨#[62, 61]⟩, .string ⟨#[94]⟩, .string ⟨#[126]⟩]) (.int .i64 1)).run Tryz.prog W = .ok (.string ⟨#[61]⟩) W := by kernel_rfl
theorem idx_sign2 (W : World) : (Instr.index 123 (.agg #[.string ⟨#[42]⟩, .string ⟨#[61]⟩, .string ⟨#[60]⟩, .string ⟨#[60, 61]⟩, .string ⟨#[62]⟩, .string ⟨#[62, 61]⟩, .string ⟨#[94]⟩, .string ⟨#[126]⟩]) (.int .i64 2)).run Tryz.prog W = .ok (.string ⟨#[60]⟩) W := by kernel_rfl
theorem idx_sign3 (W : World) : (Instr.index 123 (.agg #[.string ⟨#[42]⟩, .string ⟨#[61]⟩, .string ⟨#[60]⟩, .string ⟨#[60, 61]⟩, .string ⟨#[62]⟩, .string ⟨#[62, 61]⟩, .string ⟨#[94]⟩, .string ⟨#[126]⟩]) (.int .i64 3)).run Tryz.prog W = .ok (.string ⟨#[60, 61]⟩) W := by kernel_rfl
theorem idx_sign4 (W : World) : (Instr.index 123 (.agg #[.string ⟨#[42]⟩, .string ⟨#[61]⟩, .string ⟨#[60]⟩, .string ⟨#[60, 61]⟩, .string ⟨#[62]⟩, .string ⟨#[62, 61]⟩, .string ⟨#[94]⟩, .string ⟨#[126]⟩]) (.int .i64 4)).run Tryz.prog W = .ok (.string ⟨#[62]⟩) W := by kernel_rfl
theorem idx_sign5 (W : World) : (Instr.index 123 (.agg #[.string ⟨#[42]⟩, .string ⟨#[61]⟩, .string ⟨#[60]⟩, .string ⟨#[60, 61]⟩, .string ⟨#[62]⟩, .string ⟨#[62, 61]⟩, .string ⟨#[94]⟩, .string ⟨#[126]⟩]) (.int .i64 5)).run Tryz.prog W = .ok (.string ⟨#[62, 61]⟩) W := by kernel_rfl
theorem idx_sign6 (W : World) : (Instr.index 123 (.agg #[.string ⟨#[42]⟩, .string ⟨#[61]⟩, .string ⟨#[60]⟩, .string ⟨#[60, 61]⟩, .string ⟨#[62]⟩, .string ⟨#[62, 61]⟩, .string ⟨#[94]⟩, .string ⟨#[126]⟩]) (.int .i64 6)).run Tryz.prog W = .ok (.string ⟨#[94]⟩) W := by kernel_rfl
theorem idx_sign7 (W : World) : (Instr.index 123 (.agg #[.string ⟨#[42]⟩, .string ⟨#[61]⟩, .string ⟨#[60]⟩, .string ⟨#[60, 61]⟩, .string ⟨#[62]⟩, .string ⟨#[62, 61]⟩, .string ⟨#[94]⟩, .string ⟨#[126]⟩]) (.int .i64 7)).run Tryz.prog W = .ok (.string ⟨#[126]⟩) W := by kernel_rfl
attribute [local go_sem] idx_sign0 idx_sign1 idx_sign2 idx_sign3 idx_sign4 idx_sign5 idx_sign6 idx_sign7
set_option maxHeartbeats 8000000 in
theorem signOf_any (s : ByteArray) (w : World) (hg : SignsAt w) :
    Calls Tryz.prog 93 #[.string s] w fun e w' => e = .returned (.tuple #[.int .i64 ((signR (bs s)).1 : Int), .bool (signR (bs s)).2]) ∧ w' = w := by
  have HG := Lib.hid hg
  have g0 : w.cell? ⟨0, 0, none⟩ = some (.string ⟨#[42]⟩) := hg 0 (by decide)
  have g1 : w.cell? ⟨0, 1, none⟩ = some (.string ⟨#[61]⟩) := hg 1 (by decide)
  have g2 : w.cell? ⟨0, 2, none⟩ = some (.string ⟨#[60]⟩) := hg 2 (by decide)
  have g3 : w.cell? ⟨0, 3, none⟩ = some (.string ⟨#[60, 61]⟩) := hg 3 (by decide)
  have g4 : w.cell? ⟨0, 4, none⟩ = some (.string ⟨#[62]⟩) := hg 4 (by decide)
  have g5 : w.cell? ⟨0, 5, none⟩ = some (.string ⟨#[62, 61]⟩) := hg 5 (by decide)
  have g6 : w.cell? ⟨0, 6, none⟩ = some (.string ⟨#[94]⟩) := hg 6 (by decide)
  have g7 : w.cell? ⟨0, 7, none⟩ = some (.string ⟨#[126]⟩) := hg 7 (by decide)
  clear hg
  go_enter Tryz.func93, Tryz.ntmps93
  go_wp2
  go_loopw [2, 3, 4, 5, 7] (fun v2 v3 v4 v5 v7 wr => ∃ (i : Nat), i ≤ 8 ∧ v7 = .int .i64 (i : Int) ∧ v2 = .int .i64 ((foldS (bs s) i).1 : Int) ∧ v3 = .bool (foldS (bs s) i).2 ∧ wr = w) (fun _ _ _ _ v _ => 8 - (intOf v).toNat)
  case atStart => exact ⟨0, Nat.zero_le _, rfl, rfl, rfl, rfl⟩
  case round =>
    obtain ⟨i, hi, rfl, rfl, rfl, rfl⟩ := hrel
    by_cases h8 : i < 8
    · have hcs : i = 0 ∨ i = 1 ∨ i = 2 ∨ i = 3 ∨ i = 4 ∨ i = 5 ∨ i = 6 ∨ i = 7 := by omega
      rcases hcs with rfl | rfl | rfl | rfl | rfl | rfl | rfl | rfl
      · have HLT := Lib.hid (foldS_lt (bs s) 0 (by omega))
        have HST := Lib.hid (show foldS (bs s) 1 = if Lib.hasPrefix (bs s) [42] && (!(foldS (bs s) 0).2 || decide ((sg (foldS (bs s) 0).1).length < 1)) then (0, true) else foldS (bs s) 0 from rfl)
        have HHP := Lib.hid (Tryz.strings_HasPrefix s ⟨#[42]⟩ wr)
        cases hhp : Lib.hasPrefix (bs s) [42] with
        | false =>
          have HN : Hid (foldS (bs s) 1 = foldS (bs s) 0) := Lib.hid (by rw [HST.out, hhp]; rfl)
          have HH := Lib.hid hhp
          clear hhp
          go_wp2_with fail
          refine HHP.out.mono ?_
          rintro e w' ⟨rfl, rfl⟩
          rw [show Lib.hasPrefix s.data.toList (⟨#[42]⟩ : ByteArray).data.toList = false from HH.out]
          go_wp2
          go_roundw
          case rel => exact ⟨1, by omega, rfl, by rw [HN.out], by rw [HN.out], trivial⟩
          case measure => simp [intOf]
        | true =>
          have HH := Lib.hid hhp
          cases hok : (foldS (bs s) 0).2 with
          | false =>
            have HN : Hid (foldS (bs s) 1 = (0, true)) := Lib.hid (by rw [HST.out, hhp, hok]; rfl)
            clear hhp
            go_wp2_with fail
            refine HHP.out.mono ?_
            rintro e w' ⟨rfl, rfl⟩
            rw [show Lib.hasPrefix s.data.toList (⟨#[42]⟩ : ByteArray).data.toList = true from HH.out]
            go_wp2
            go_roundw
            case rel => exact ⟨1, by omega, rfl, by rw [HN.out]; rfl, by rw [HN.out], trivial⟩
            case measure => simp [intOf]
          | true =>
            obtain ⟨op, hop⟩ : ∃ op, (foldS (bs s) 0).1 = op := ⟨_, rfl⟩
            have hop8 : op < 8 := by rw [← hop]; exact HLT.out
            have gop := HG.out op hop8
            obtain ⟨so, hso⟩ : ∃ so, mk (sg op) = so := ⟨_, rfl⟩
            have HSO : Hid ((sg op).length = so.size) := Lib.hid (by rw [← hso]; exact (mk_size _).symm)
            have HN0 : Hid (foldS (bs s) 1 = if decide (so.size < 1) = true then (0, true) else foldS (bs s) 0) := Lib.hid (by rw [HST.out, hhp, hok, hop, HSO.out]; rfl)
            have HOP := Lib.hid hop
            have HOK := Lib.hid hok
            rw [hso] at gop
            rw [hop]
            clear hhp hop hso hok
            cases hlt : decide (so.size < 1) with
            | true =>
              have dl : decide ((so.size : Int) < 1) = true := decide_eq_true (by have := of_decide_eq_true hlt; omega)
              have HN : Hid (foldS (bs s) 1 = (0, true)) := Lib.hid (by rw [HN0.out, hlt]; rfl)
              clear HN0
              go_wp2_with fail
              refine HHP.out.mono ?_
              rintro e w' ⟨rfl, rfl⟩
              rw [show Lib.hasPrefix s.data.toList (⟨#[42]⟩ : ByteArray).data.toList = true from HH.out]
              go_wp2
              go_roundw
              case rel => exact ⟨1, by omega, rfl, by rw [HN.out]; rfl, by rw [HN.out], trivial⟩
              case measure => simp [intOf]
            | false =>
              have dl : decide ((so.size : Int) < 1) = false := decide_eq_false (by have := of_decide_eq_false hlt; omega)
              have HN : Hid (foldS (bs s) 1 = foldS (bs s) 0) := Lib.hid (by rw [HN0.out, hlt]; rfl)
              clear HN0
              go_wp2_with fail
              refine HHP.out.mono ?_
              rintro e w' ⟨rfl, rfl⟩
              rw [show Lib.hasPrefix s.data.toList (⟨#[42]⟩ : ByteArray).data.toList = true from HH.out]
              go_wp2
              go_roundw
              case rel => exact ⟨1, by omega, rfl, by rw [HN.out, HOP.out], by rw [HN.out, HOK.out], trivial⟩
              case measure => simp [intOf]
      · have HLT := Lib.hid (foldS_lt (bs s) 1 (by omega))
        have HST := Lib.hid (show foldS (bs s) 2 = if Lib.hasPrefix (bs s) [61] && (!(foldS (bs s) 1).2 || decide ((sg (foldS (bs s) 1).1).length < 1)) then (1, true) else foldS (bs s) 1 from rfl)
        have HHP := Lib.hid (Tryz.strings_HasPrefix s ⟨#[61]⟩ wr)
        cases hhp : Lib.hasPrefix (bs s) [61] with
        | false =>
          have HN : Hid (foldS (bs s) 2 = foldS (bs s) 1) := Lib.hid (by rw [HST.out, hhp]; rfl)
          have HH := Lib.hid hhp
          clear hhp
          go_wp2_with fail
          refine HHP.out.mono ?_
          rintro e w' ⟨rfl, rfl⟩
          rw [show Lib.hasPrefix s.data.toList (⟨#[61]⟩ : ByteArray).data.toList = false from HH.out]
          go_wp2
          go_roundw
          case rel => exact ⟨2, by omega, rfl, by rw [HN.out], by rw [HN.out], trivial⟩
          case measure => simp [intOf]
        | true =>
          have HH := Lib.hid hhp
          cases hok : (foldS (bs s) 1).2 with
          | false =>
            have HN : Hid (foldS (bs s) 2 = (1, true)) := Lib.hid (by rw [HST.out, hhp, hok]; rfl)
            clear hhp
            go_wp2_with fail
            refine HHP.out.mono ?_
            rintro e w' ⟨rfl, rfl⟩
            rw [show Lib.hasPrefix s.data.toList (⟨#[61]⟩ : ByteArray).data.toList = true from HH.out]
            go_wp2
            go_roundw
            case rel => exact ⟨2, by omega, rfl, by rw [HN.out]; rfl, by rw [HN.out], trivial⟩
            case measure => simp [intOf]
          | true =>
            obtain ⟨op, hop⟩ : ∃ op, (foldS (bs s) 1).1 = op := ⟨_, rfl⟩
            have hop8 : op < 8 := by rw [← hop]; exact HLT.out
            have gop := HG.out op hop8
            obtain ⟨so, hso⟩ : ∃ so, mk (sg op) = so := ⟨_, rfl⟩
            have HSO : Hid ((sg op).length = so.size) := Lib.hid (by rw [← hso]; exact (mk_size _).symm)
            have HN0 : Hid (foldS (bs s) 2 = if decide (so.size < 1) = true then (1, true) else foldS (bs s) 1) := Lib.hid (by rw [HST.out, hhp, hok, hop, HSO.out]; rfl)
            have HOP := Lib.hid hop
            have HOK := Lib.hid hok
            rw [hso] at gop
            rw [hop]
            clear hhp hop hso hok
            cases hlt : decide (so.size < 1) with
            | true =>
              have dl : decide ((so.size : Int) < 1) = true := decide_eq_true (by have := of_decide_eq_true hlt; omega)
              have HN : Hid (foldS (bs s) 2 = (1, true)) := Lib.hid (by rw [HN0.out, hlt]; rfl)
              clear HN0
              go_wp2_with fail
              refine HHP.out.mono ?_
              rintro e w' ⟨rfl, rfl⟩
              rw [show Lib.hasPrefix s.data.toList (⟨#[61]⟩ : ByteArray).data.toList = true from HH.out]
              go_wp2
              go_roundw
              case rel => exact ⟨2, by omega, rfl, by rw [HN.out]; rfl, by rw [HN.out], trivial⟩
              case measure => simp [intOf]
            | false =>
              have dl : decide ((so.size : Int) < 1) = false := decide_eq_false (by have := of_decide_eq_false hlt; omega)
              have HN : Hid (foldS (bs s) 2 = foldS (bs s) 1) := Lib.hid (by rw [HN0.out, hlt]; rfl)
              clear HN0
              go_wp2_with fail
              refine HHP.out.mono ?_
              rintro e w' ⟨rfl, rfl⟩
              rw [show Lib.hasPrefix s.data.toList (⟨#[61]⟩ : ByteArray).data.toList = true from HH.out]
              go_wp2
              go_roundw
              case rel => exact ⟨2, by omega, rfl, by rw [HN.out, HOP.out], by rw [HN.out, HOK.out], trivial⟩
              case measure => simp [intOf]
      · have HLT := Lib.hid (foldS_lt (bs s) 2 (by omega))
        have HST := Lib.hid (show foldS (bs s) 3 = if Lib.hasPrefix (bs s) [60] && (!(foldS (bs s) 2).2 || decide ((sg (foldS (bs s) 2).1).length < 1)) then (2, true) else foldS (bs s) 2 from rfl)
        have HHP := Lib.hid (Tryz.strings_HasPrefix s ⟨#[60]⟩ wr)
        cases hhp : Lib.hasPrefix (bs s) [60] with
        | false =>
          have HN : Hid (foldS (bs s) 3 = foldS (bs s) 2) := Lib.hid (by rw [HST.out, hhp]; rfl)
          have HH := Lib.hid hhp
          clear hhp
          go_wp2_with fail
          refine HHP.out.mono ?_
          rintro e w' ⟨rfl, rfl⟩
          rw [show Lib.hasPrefix s.data.toList (⟨#[60]⟩ : ByteArray).data.toList = false from HH.out]
          go_wp2
          go_roundw
          case rel => exact ⟨3, by omega, rfl, by rw [HN.out], by rw [HN.out], trivial⟩
          case measure => simp [intOf]
        | true =>
          have HH := Lib.hid hhp
          cases hok : (foldS (bs s) 2).2 with
          | false =>
            have HN : Hid (foldS (bs s) 3 = (2, true)) := Lib.hid (by rw [HST.out, hhp, hok]; rfl)
            clear hhp
            go_wp2_with fail
            refine HHP.out.mono ?_
            rintro e w' ⟨rfl, rfl⟩
            rw [show Lib.hasPrefix s.data.toList (⟨#[60]⟩ : ByteArray).data.toList = true from HH.out]
            go_wp2
            go_roundw
            case rel => exact ⟨3, by omega, rfl, by rw [HN.out]; rfl, by rw [HN.out], trivial⟩
            case measure => simp [intOf]
          | true =>
            obtain ⟨op, hop⟩ : ∃ op, (foldS (bs s) 2).1 = op := ⟨_, rfl⟩
            have hop8 : op < 8 := by rw [← hop]; exact HLT.out
            have gop := HG.out op hop8
            obtain ⟨so, hso⟩ : ∃ so, mk (sg op) = so := ⟨_, rfl⟩
            have HSO : Hid ((sg op).length = so.size) := Lib.hid (by rw [← hso]; exact (mk_size _).symm)
            have HN0 : Hid (foldS (bs s) 3 = if decide (so.size < 1) = true then (2, true) else foldS (bs s) 2) := Lib.hid (by rw [HST.out, hhp, hok, hop, HSO.out]; rfl)
            have HOP := Lib.hid hop
            have HOK := Lib.hid hok
            rw [hso] at gop
            rw [hop]
            clear hhp hop hso hok
            cases hlt : decide (so.size < 1) with
            | true =>
              have dl : decide ((so.size : Int) < 1) = true := decide_eq_true (by have := of_decide_eq_true hlt; omega)
              have HN : Hid (foldS (bs s) 3 = (2, true)) := Lib.hid (by rw [HN0.out, hlt]; rfl)
              clear HN0
              go_wp2_with fail
              refine HHP.out.mono ?_
              rintro e w' ⟨rfl, rfl⟩
              rw [show Lib.hasPrefix s.data.toList (⟨#[60]⟩ : ByteArray).data.toList = true from HH.out]
              go_wp2
              go_roundw
              case rel => exact ⟨3, by omega, rfl, by rw [HN.out]; rfl, by rw [HN.out], trivial⟩
              case measure => simp [intOf]
            | false =>
              have dl : decide ((so.size : Int) < 1) = false := decide_eq_false (by have := of_decide_eq_false hlt; omega)
              have HN : Hid (foldS (bs s) 3 = foldS (bs s) 2) := Lib.hid (by rw [HN0.out, hlt]; rfl)
              clear HN0
              go_wp2_with fail
              refine HHP.out.mono ?_
              rintro e w' ⟨rfl, rfl⟩
              rw [show Lib.hasPrefix s.data.toList (⟨#[60]⟩ : ByteArray).data.toList = true from HH.out]
              go_wp2
              go_roundw
              case rel => exact ⟨3, by omega, rfl, by rw [HN.out, HOP.out], by rw [HN.out, HOK.out], trivial⟩
              case measure => simp [intOf]
      · have HLT := Lib.hid (foldS_lt (bs s) 3 (by omega))
        have HST := Lib.hid (show foldS (bs s) 4 = if Lib.hasPrefix (bs s) [60, 61] && (!(foldS (bs s) 3).2 || decide ((sg (foldS (bs s) 3).1).length < 2)) then (3, true) else foldS (bs s) 3 from rfl)
        have HHP := Lib.hid (Tryz.strings_HasPrefix s ⟨#[60, 61]⟩ wr)
        cases hhp : Lib.hasPrefix (bs s) [60, 61] with
        | false =>
          have HN : Hid (foldS (bs s) 4 = foldS (bs s) 3) := Lib.hid (by rw [HST.out, hhp]; rfl)
          have HH := Lib.hid hhp
          clear hhp
          go_wp2_with fail
          refine HHP.out.mono ?_
          rintro e w' ⟨rfl, rfl⟩
          rw [show Lib.hasPrefix s.data.toList (⟨#[60, 61]⟩ : ByteArray).data.toList = false from HH.out]
          go_wp2
          go_roundw
          case rel => exact ⟨4, by omega, rfl, by rw [HN.out], by rw [HN.out], trivial⟩
          case measure => simp [intOf]
        | true =>
          have HH := Lib.hid hhp
          cases hok : (foldS (bs s) 3).2 with
          | false =>
            have HN : Hid (foldS (bs s) 4 = (3, true)) := Lib.hid (by rw [HST.out, hhp, hok]; rfl)
            clear hhp
            go_wp2_with fail
            refine HHP.out.mono ?_
            rintro e w' ⟨rfl, rfl⟩
            rw [show Lib.hasPrefix s.data.toList (⟨#[60, 61]⟩ : ByteArray).data.toList = true from HH.out]
            go_wp2
            go_roundw
            case rel => exact ⟨4, by omega, rfl, by rw [HN.out]; rfl, by rw [HN.out], trivial⟩
            case measure => simp [intOf]
          | true =>
            obtain ⟨op, hop⟩ : ∃ op, (foldS (bs s) 3).1 = op := ⟨_, rfl⟩
            have hop8 : op < 8 := by rw [← hop]; exact HLT.out
            have gop := HG.out op hop8
            obtain ⟨so, hso⟩ : ∃ so, mk (sg op) = so := ⟨_, rfl⟩
            have HSO : Hid ((sg op).length = so.size) := Lib.hid (by rw [← hso]; exact (mk_size _).symm)
            have HN0 : Hid (foldS (bs s) 4 = if decide (so.size < 2) = true then (3, true) else foldS (bs s) 3) := Lib.hid (by rw [HST.out, hhp, hok, hop, HSO.out]; rfl)
            have HOP := Lib.hid hop
            have HOK := Lib.hid hok
            rw [hso] at gop
            rw [hop]
            clear hhp hop hso hok
            cases hlt : decide (so.size < 2) with
            | true =>
              have dl : decide ((so.size : Int) < 2) = true := decide_eq_true (by have := of_decide_eq_true hlt; omega)
              have HN : Hid (foldS (bs s) 4 = (3, true)) := Lib.hid (by rw [HN0.out, hlt]; rfl)
              clear HN0
              go_wp2_with fail
              refine HHP.out.mono ?_
              rintro e w' ⟨rfl, rfl⟩
              rw [show Lib.hasPrefix s.data.toList (⟨#[60, 61]⟩ : ByteArray).data.toList = true from HH.out]
              go_wp2
              go_roundw
              case rel => exact ⟨4, by omega, rfl, by rw [HN.out]; rfl, by rw [HN.out], trivial⟩
              case measure => simp [intOf]
            | false =>
              have dl : decide ((so.size : Int) < 2) = false := decide_eq_false (by have := of_decide_eq_false hlt; omega)
              have HN : Hid (foldS (bs s) 4 = foldS (bs s) 3) := Lib.hid (by rw [HN0.out, hlt]; rfl)
              clear HN0
              go_wp2_with fail
              refine HHP.out.mono ?_
              rintro e w' ⟨rfl, rfl⟩
              rw [show Lib.hasPrefix s.data.toList (⟨#[60, 61]⟩ : ByteArray).data.toList = true from HH.out]
              go_wp2
              go_roundw
              case rel => exact ⟨4, by omega, rfl, by rw [HN.out, HOP.out], by rw [HN.out, HOK.out], trivial⟩
              case measure => simp [intOf]
      · have HLT := Lib.hid (foldS_lt (bs s) 4 (by omega))
        have HST := Lib.hid (show foldS (bs s) 5 = if Lib.hasPrefix (bs s) [62] && (!(foldS (bs s) 4).2 || decide ((sg (foldS (bs s) 4).1).length < 1)) then (4, true) else foldS (bs s) 4 from rfl)
        have HHP := Lib.hid (Tryz.strings_HasPrefix s ⟨#[62]⟩ wr)
        cases hhp : Lib.hasPrefix (bs s) [62] with
        | false =>
          have HN : Hid (foldS (bs s) 5 = foldS (bs s) 4) := Lib.hid (by rw [HST.out, hhp]; rfl)
          have HH := Lib.hid hhp
          clear hhp
          go_wp2_with fail
          refine HHP.out.mono ?_
          rintro e w' ⟨rfl, rfl⟩
          rw [show Lib.hasPrefix s.data.toList (⟨#[62]⟩ : ByteArray).data.toList = false from HH.out]
          go_wp2
          go_roundw
          case rel => exact ⟨5, by omega, rfl, by rw [HN.out], by rw [HN.out], trivial⟩
          case measure => simp [intOf]
        | true =>
          have HH := Lib.hid hhp
          cases hok : (foldS (bs s) 4).2 with
          | false =>
            have HN : Hid (foldS (bs s) 5 = (4, true)) := Lib.hid (by rw [HST.out, hhp, hok]; rfl)
            clear hhp
            go_wp2_with fail
            refine HHP.out.mono ?_
            rintro e w' ⟨rfl, rfl⟩
            rw [show Lib.hasPrefix s.data.toList (⟨#[62]⟩ : ByteArray).data.toList = true from HH.out]
            go_wp2
            go_roundw
            case rel => exact ⟨5, by omega, rfl, by rw [HN.out]; rfl, by rw [HN.out], trivial⟩
            case measure => simp [intOf]
          | true =>
            obtain ⟨op, hop⟩ : ∃ op, (foldS (bs s) 4).1 = op := ⟨_, rfl⟩
            have hop8 : op < 8 := by rw [← hop]; exact HLT.out
            have gop := HG.out op hop8
            obtain ⟨so, hso⟩ : ∃ so, mk (sg op) = so := ⟨_, rfl⟩
            have HSO : Hid ((sg op).length = so.size) := Lib.hid (by rw [← hso]; exact (mk_size _).symm)
            have HN0 : Hid (foldS (bs s) 5 = if decide (so.size < 1) = true then (4, true) else foldS (bs s) 4) := Lib.hid (by rw [HST.out, hhp, hok, hop, HSO.out]; rfl)
            have HOP := Lib.hid hop
            have HOK := Lib.hid hok
            rw [hso] at gop
            rw [hop]
            clear hhp hop hso hok
            cases hlt : decide (so.size < 1) with
            | true =>
              have dl : decide ((so.size : Int) < 1) = true := decide_eq_true (by have := of_decide_eq_true hlt; omega)
              have HN : Hid (foldS (bs s) 5 = (4, true)) := Lib.hid (by rw [HN0.out, hlt]; rfl)
              clear HN0
              go_wp2_with fail
              refine HHP.out.mono ?_
              rintro e w' ⟨rfl, rfl⟩
              rw [show Lib.hasPrefix s.data.toList (⟨#[62]⟩ : ByteArray).data.toList = true from HH.out]
              go_wp2
              go_roundw
              case rel => exact ⟨5, by omega, rfl, by rw [HN.out]; rfl, by rw [HN.out], trivial⟩
              case measure => simp [intOf]
            | false =>
              have dl : decide ((so.size : Int) < 1) = false := decide_eq_false (by have := of_decide_eq_false hlt; omega)
              have HN : Hid (foldS (bs s) 5 = foldS (bs s) 4) := Lib.hid (by rw [HN0.out, hlt]; rfl)
              clear HN0
              go_wp2_with fail
              refine HHP.out.mono ?_
              rintro e w' ⟨rfl, rfl⟩
              rw [show Lib.hasPrefix s.data.toList (⟨#[62]⟩ : ByteArray).data.toList = true from HH.out]
              go_wp2
              go_roundw
              case rel => exact ⟨5, by omega, rfl, by rw [HN.out, HOP.out], by rw [HN.out, HOK.out], trivial⟩
              case measure => simp [intOf]
      · have HLT := Lib.hid (foldS_lt (bs s) 5 (by omega))
        have HST := Lib.hid (show foldS (bs s) 6 = if Lib.hasPrefix (bs s) [62, 61] && (!(foldS (bs s) 5).2 || decide ((sg (foldS (bs s) 5).1).length < 2)) then (5, true) else foldS (bs s) 5 from rfl)
        have HHP := Lib.hid (Tryz.strings_HasPrefix s ⟨#[62, 61]⟩ wr)
        cases hhp : Lib.hasPrefix (bs s) [62, 61] with
        | false =>
          have HN : Hid (foldS (bs s) 6 = foldS (bs s) 5) := Lib.hid (by rw [HST.out, hhp]; rfl)
          have HH := Lib.hid hhp
          clear hhp
          go_wp2_with fail
          refine HHP.out.mono ?_
          rintro e w' ⟨rfl, rfl⟩
          rw [show Lib.hasPrefix s.data.toList (⟨#[62, 61]⟩ : ByteArray).data.toList = false from HH.out]
          go_wp2
          go_roundw
          case rel => exact ⟨6, by omega, rfl, by rw [HN.out], by rw [HN.out], trivial⟩
          case measure => simp [intOf]
        | true =>
          have HH := Lib.hid hhp
          cases hok : (foldS (bs s) 5).2 with
          | false =>
            have HN : Hid (foldS (bs s) 6 = (5, true)) := Lib.hid (by rw [HST.out, hhp, hok]; rfl)
            clear hhp
            go_wp2_with fail
            refine HHP.out.mono ?_
            rintro e w' ⟨rfl, rfl⟩
            rw [show Lib.hasPrefix s.data.toList (⟨#[62, 61]⟩ : ByteArray).data.toList = true from HH.out]
            go_wp2
            go_roundw
            case rel => exact ⟨6, by omega, rfl, by rw [HN.out]; rfl, by rw [HN.out], trivial⟩
            case measure => simp [intOf]
          | true =>
            obtain ⟨op, hop⟩ : ∃ op, (foldS (bs s) 5).1 = op := ⟨_, rfl⟩
            have hop8 : op < 8 := by rw [← hop]; exact HLT.out
            have gop := HG.out op hop8
            obtain ⟨so, hso⟩ : ∃ so, mk (sg op) = so := ⟨_, rfl⟩
            have HSO : Hid ((sg op).length = so.size) := Lib.hid (by rw [← hso]; exact (mk_size _).symm)
            have HN0 : Hid (foldS (bs s) 6 = if decide (so.size < 2) = true then (5, true) else foldS (bs s) 5) := Lib.hid (by rw [HST.out, hhp, hok, hop, HSO.out]; rfl)
            have HOP := Lib.hid hop
            have HOK := Lib.hid hok
            rw [hso] at gop
            rw [hop]
            clear hhp hop hso hok
            cases hlt : decide (so.size < 2) with
            | true =>
              have dl : decide ((so.size : Int) < 2) = true := decide_eq_true (by have := of_decide_eq_true hlt; omega)
              have HN : Hid (foldS (bs s) 6 = (5, true)) := Lib.hid (by rw [HN0.out, hlt]; rfl)
              clear HN0
              go_wp2_with fail
              refine HHP.out.mono ?_
              rintro e w' ⟨rfl, rfl⟩
              rw [show Lib.hasPrefix s.data.toList (⟨#[62, 61]⟩ : ByteArray).data.toList = true from HH.out]
              go_wp2
              go_roundw
              case rel => exact ⟨6, by omega, rfl, by rw [HN.out]; rfl, by rw [HN.out], trivial⟩
              case measure => simp [intOf]
            | false =>
              have dl : decide ((so.size : Int) < 2) = false := decide_eq_false (by have := of_decide_eq_false hlt; omega)
              have HN : Hid (foldS (bs s) 6 = foldS (bs s) 5) := Lib.hid (by rw [HN0.out, hlt]; rfl)
              clear HN0
              go_wp2_with fail
              refine HHP.out.mono ?_
              rintro e w' ⟨rfl, rfl⟩
              rw [show Lib.hasPrefix s.data.toList (⟨#[62, 61]⟩ : ByteArray).data.toList = true from HH.out]
              go_wp2
              go_roundw
              case rel => exact ⟨6, by omega, rfl, by rw [HN.out, HOP.out], by rw [HN.out, HOK.out], trivial⟩
              case measure => simp [intOf]
      · have HLT := Lib.hid (foldS_lt (bs s) 6 (by omega))
        have HST := Lib.hid (show foldS (bs s) 7 = if Lib.hasPrefix (bs s) [94] && (!(foldS (bs s) 6).2 || decide ((sg (foldS (bs s) 6).1).length < 1)) then (6, true) else foldS (bs s) 6 from rfl)
        have HHP := Lib.hid (Tryz.strings_HasPrefix s ⟨#[94]⟩ wr)
        cases hhp : Lib.hasPrefix (bs s) [94] with
        | false =>
          have HN : Hid (foldS (bs s) 7 = foldS (bs s) 6) := Lib.hid (by rw [HST.out, hhp]; rfl)
          have HH := Lib.hid hhp
          clear hhp
          go_wp2_with fail
          refine HHP.out.mono ?_
          rintro e w' ⟨rfl, rfl⟩
          rw [show Lib.hasPrefix s.data.toList (⟨#[94]⟩ : ByteArray).data.toList = false from HH.out]
          go_wp2
          go_roundw
          case rel => exact ⟨7, by omega, rfl, by rw [HN.out], by rw [HN.out], trivial⟩
          case measure => simp [intOf]
        | true =>
          have HH := Lib.hid hhp
          cases hok : (foldS (bs s) 6).2 with
          | false =>
            have HN : Hid (foldS (bs s) 7 = (6, true)) := Lib.hid (by rw [HST.out, hhp, hok]; rfl)
            clear hhp
            go_wp2_with fail
            refine HHP.out.mono ?_
            rintro e w' ⟨rfl, rfl⟩
            rw [show Lib.hasPrefix s.data.toList (⟨#[94]⟩ : ByteArray).data.toList = true from HH.out]
            go_wp2
            go_roundw
            case rel => exact ⟨7, by omega, rfl, by rw [HN.out]; rfl, by rw [HN.out], trivial⟩
            case measure => simp [intOf]
          | true =>
            obtain ⟨op, hop⟩ : ∃ op, (foldS (bs s) 6).1 = op := ⟨_, rfl⟩
            have hop8 : op < 8 := by rw [← hop]; exact HLT.out
            have gop := HG.out op hop8
            obtain ⟨so, hso⟩ : ∃ so, mk (sg op) = so := ⟨_, rfl⟩
            have HSO : Hid ((sg op).length = so.size) := Lib.hid (by rw [← hso]; exact (mk_size _).symm)
            have HN0 : Hid (foldS (bs s) 7 = if decide (so.size < 1) = true then (6, true) else foldS (bs s) 6) := Lib.hid (by rw [HST.out, hhp, hok, hop, HSO.out]; rfl)
            have HOP := Lib.hid hop
            have HOK := Lib.hid hok
            rw [hso] at gop
            rw [hop]
            clear hhp hop hso hok
            cases hlt : decide (so.size < 1) with
            | true =>
              have dl : decide ((so.size : Int) < 1) = true := decide_eq_true (by have := of_decide_eq_true hlt; omega)
              have HN : Hid (foldS (bs s) 7 = (6, true)) := Lib.hid (by rw [HN0.out, hlt]; rfl)
              clear HN0
              go_wp2_with fail
              refine HHP.out.mono ?_
              rintro e w' ⟨rfl, rfl⟩
              rw [show Lib.hasPrefix s.data.toList (⟨#[94]⟩ : ByteArray).data.toList = true from HH.out]
              go_wp2
              go_roundw
              case rel => exact ⟨7, by omega, rfl, by rw [HN.out]; rfl, by rw [HN.out], trivial⟩
              case measure => simp [intOf]
            | false =>
              have dl : decide ((so.size : Int) < 1) = false := decide_eq_false (by have := of_decide_eq_false hlt; omega)
              have HN : Hid (foldS (bs s) 7 = foldS (bs s) 6) := Lib.hid (by rw [HN0.out, hlt]; rfl)
              clear HN0
              go_wp2_with fail
              refine HHP.out.mono ?_
              rintro e w' ⟨rfl, rfl⟩
              rw [show Lib.hasPrefix s.data.toList (⟨#[94]⟩ : ByteArray).data.toList = true from HH.out]
              go_wp2
              go_roundw
              case rel => exact ⟨7, by omega, rfl, by rw [HN.out, HOP.out], by rw [HN.out, HOK.out], trivial⟩
              case measure => simp [intOf]
      · have HLT := Lib.hid (foldS_lt (bs s) 7 (by omega))
        have HST := Lib.hid (show foldS (bs s) 8 = if Lib.hasPrefix (bs s) [126] && (!(foldS (bs s) 7).2 || decide ((sg (foldS (bs s) 7).1).length < 1)) then (7, true) else foldS (bs s) 7 from rfl)
        have HHP := Lib.hid (Tryz.strings_HasPrefix s ⟨#[126]⟩ wr)
        cases hhp : Lib.hasPrefix (bs s) [126] with
        | false =>
          have HN : Hid (foldS (bs s) 8 = foldS (bs s) 7) := Lib.hid (by rw [HST.out, hhp]; rfl)
          have HH := Lib.hid hhp
          clear hhp
          go_wp2_with fail
          refine HHP.out.mono ?_
          rintro e w' ⟨rfl, rfl⟩
          rw [show Lib.hasPrefix s.data.toList (⟨#[126]⟩ : ByteArray).data.toList = false from HH.out]
          go_wp2
          go_roundw
          case rel => exact ⟨8, by omega, rfl, by rw [HN.out], by rw [HN.out], trivial⟩
          case measure => simp [intOf]
        | true =>
          have HH := Lib.hid hhp
          cases hok : (foldS (bs s) 7).2 with
          | false =>
            have HN : Hid (foldS (bs s) 8 = (7, true)) := Lib.hid (by rw [HST.out, hhp, hok]; rfl)
            clear hhp
            go_wp2_with fail
            refine HHP.out.mono ?_
            rintro e w' ⟨rfl, rfl⟩
            rw [show Lib.hasPrefix s.data.toList (⟨#[126]⟩ : ByteArray).data.toList = true from HH.out]
            go_wp2
            go_roundw
            case rel => exact ⟨8, by omega, rfl, by rw [HN.out]; rfl, by rw [HN.out], trivial⟩
            case measure => simp [intOf]
          | true =>
            obtain ⟨op, hop⟩ : ∃ op, (foldS (bs s) 7).1 = op := ⟨_, rfl⟩
            have hop8 : op < 8 := by rw [← hop]; exact HLT.out
            have gop := HG.out op hop8
            obtain ⟨so, hso⟩ : ∃ so, mk (sg op) = so := ⟨_, rfl⟩
            have HSO : Hid ((sg op).length = so.size) := Lib.hid (by rw [← hso]; exact (mk_size _).symm)
            have HN0 : Hid (foldS (bs s) 8 = if decide (so.size < 1) = true then (7, true) else foldS (bs s) 7) := Lib.hid (by rw [HST.out, hhp, hok, hop, HSO.out]; rfl)
            have HOP := Lib.hid hop
            have HOK := Lib.hid hok
            rw [hso] at gop
            rw [hop]
            clear hhp hop hso hok
            cases hlt : decide (so.size < 1) with
            | true =>
              have dl : decide ((so.size : Int) < 1) = true := decide_eq_true (by have := of_decide_eq_true hlt; omega)
              have HN : Hid (foldS (bs s) 8 = (7, true)) := Lib.hid (by rw [HN0.out, hlt]; rfl)
              clear HN0
              go_wp2_with fail
              refine HHP.out.mono ?_
              rintro e w' ⟨rfl, rfl⟩
              rw [show Lib.hasPrefix s.data.toList (⟨#[126]⟩ : ByteArray).data.toList = true from HH.out]
              go_wp2
              go_roundw
              case rel => exact ⟨8, by omega, rfl, by rw [HN.out]; rfl, by rw [HN.out], trivial⟩
              case measure => simp [intOf]
            | false =>
              have dl : decide ((so.size : Int) < 1) = false := decide_eq_false (by have := of_decide_eq_false hlt; omega)
              have HN : Hid (foldS (bs s) 8 = foldS (bs s) 7) := Lib.hid (by rw [HN0.out, hlt]; rfl)
              clear HN0
              go_wp2_with fail
              refine HHP.out.mono ?_
              rintro e w' ⟨rfl, rfl⟩
              rw [show Lib.hasPrefix s.data.toList (⟨#[126]⟩ : ByteArray).data.toList = true from HH.out]
              go_wp2
              go_roundw
              case rel => exact ⟨8, by omega, rfl, by rw [HN.out, HOP.out], by rw [HN.out, HOK.out], trivial⟩
              case measure => simp [intOf]
    · have hd : decide ((i : Int) < 8) = false := decide_eq_false (by omega)
      have hi8 : i = 8 := by omega
      subst hi8
      go_wp2
      refine bodyPost_ret (results_tmp2 rfl _ _ _) rfl ⟨rfl, rfl⟩
end Go.Proofs.YtpnbbbhbbnemlaaGreatDoor
