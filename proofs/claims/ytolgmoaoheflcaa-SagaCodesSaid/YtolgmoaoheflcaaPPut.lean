/-
  CONTRACTS of the writers of layer 12: plans.
-/
import Derived.Test.YtolgmoaoheflcaaEQa
import Derived.Deep.Cut
namespace Go.Proofs.Ytolgmoaoheflcaa
open Go.RowKit
open ByteP CodeP
set_option linter.unusedVariables false
set_option maxRecDepth 10000

/-- A list of pairs of numbers, read at a place. -/
def px (ps : List (Int × Int)) (i : Nat) : Int := (ps.getD i (0, 0)).1
def py (ps : List (Int × Int)) (i : Nat) : Int := (ps.getD i (0, 0)).2
theorem take_px (ps : List (Int × Int)) (k : Nat) (h : k < ps.length) : ps.take (k + 1) = ps.take k ++ [(px ps k, py ps k)] := by
  rw [List.take_succ_eq_append_getElem h]
  congr 1
  simp [px, py, List.getD, h]
def RdP (w : World) (B : Nat) (A : Option Addr) (n : Nat) (ps : List (Int × Int)) : Prop :=
  ps.length = n ∧ (0 < n → ∃ b off, A = some ⟨b, off, none⟩ ∧ b < B ∧ ∀ j, j < n → w.cell? ⟨b, off + j * 2, none⟩ = some (.int .i64 (px ps j)) ∧ w.cell? ⟨b, off + j * 2 + 1, none⟩ = some (.int .i64 (py ps j)))
section
variable {w w' : World} {B n : Nat} {A : Option Addr} {ps : List (Int × Int)}
theorem RdP.len (h : RdP w B A n ps) : ps.length = n := h.1
theorem RdP.at_ {k : Nat} (h : RdP w B A n ps) (hk : k < n) : ∃ b off, A = some ⟨b, off, none⟩ ∧ b < B ∧ w.cell? ⟨b, off + k * 2, none⟩ = some (.int .i64 (px ps k)) ∧ w.cell? ⟨b, off + k * 2 + 1, none⟩ = some (.int .i64 (py ps k)) := by
  obtain ⟨b, off, e, hb, hc⟩ := h.2 (by omega)
  exact ⟨b, off, e, hb, (hc k hk).1, (hc k hk).2⟩
theorem RdP.below (h : RdP w B A n ps) (hb : Below B w w') : RdP w' B A n ps :=
  ⟨h.1, fun hn => by
    obtain ⟨b, off, e, hlt, hc⟩ := h.2 hn
    exact ⟨b, off, e, hlt, fun j hj => ⟨(hb.cell hlt).trans (hc j hj).1, (hb.cell hlt).trans (hc j hj).2⟩⟩⟩
theorem RdP.more {B' : Nat} (h : RdP w B A n ps) (hB : B ≤ B') : RdP w B' A n ps :=
  ⟨h.1, fun hn => by
    obtain ⟨b, off, e, hlt, hc⟩ := h.2 hn
    exact ⟨b, off, e, by omega, hc⟩⟩
theorem RdP.drewN (h : RdP w B A n ps) (k : Nat) : RdP (w.drewN k) B A n ps := h
theorem RdP.nil_ : RdP w B A 0 [] := ⟨rfl, fun h => absurd h (by omega)⟩
end
def outP (ps : List (Int × Int)) : List Int := (ps.map (fun p => outI p.1 ++ outI p.2)).flatten
def badP (ps : List (Int × Int)) : Bool := ps.any (fun p => !okI p.1 || !okI p.2)
theorem outP_snoc (ps : List (Int × Int)) (a b : Int) : outP (ps ++ [(a, b)]) = outP ps ++ (outI a ++ outI b) := by simp [outP]
theorem badP_snoc (ps : List (Int × Int)) (a b : Int) : badP (ps ++ [(a, b)]) = (badP ps || (!okI a || !okI b)) := by simp [badP]
theorem outP_len (ps : List (Int × Int)) : (outP ps).length ≤ 12 * ps.length := by
  induction ps with
  | nil => simp [outP]
  | cons p ps ih =>
    have e : outP (p :: ps) = (outI p.1 ++ outI p.2) ++ outP ps := by simp [outP]
    rw [e, List.length_append, List.length_append, List.length_cons]
    have := outI_len p.1
    have := outI_len p.2
    omega
theorem Wr.alloc {T : TypeId} {w : World} {wb : Nat} {xs : List Int} {f : Bool} (h : Wr T w wb xs f) (o : Obj) : Wr T (w.alloc o) wb xs f := h.kept ((Below.refl _ w).alloc (Nat.le_refl _) _)
theorem Wr.drewN {T : TypeId} {w : World} {wb : Nat} {xs : List Int} {f : Bool} (h : Wr T w wb xs f) (k : Nat) : Wr T (w.drewN k) wb xs f := h.kept ⟨rfl, rfl, rfl, Nat.le_refl _, fun _ _ => rfl⟩

theorem stepW_any {w : World} {wb : Nat} {xs : List Int} {f : Bool} (h : Wr 108 w wb xs f) (a b : Int) (hl : xs.length + 12 ≤ 1000000000) :
    Calls Try.prog 56 #[.pointer (some ⟨wb, 0, none⟩), .agg #[.int .i64 a, .int .i64 b]] w fun e w' => e = .returned (.tuple #[]) ∧ Wr 108 w' wb (xs ++ (outI a ++ outI b)) (f || (!okI a || !okI b)) ∧ Below wb w w' ∧ KeepW w w' wb := by
  have hlt := h.lt
  have HA := Lib.hid (h.alloc (.cells #[.int .i64 a, .int .i64 b] 71))
  have HK0 := Lib.hid (KeepW.alloc hlt (.cells #[.int .i64 a, .int .i64 b] 71))
  have HB0 : Hid (Below (w.heap.size) w (w.alloc (.cells #[.int .i64 a, .int .i64 b] 71))) := Lib.hid ((Below.refl _ w).alloc (Nat.le_refl _) _)
  have hab := heap_alloc_new w (.cells #[.int .i64 a, .int .i64 b] 71)
  have HNO : Hid (¬ OwnW (w.alloc (.cells #[.int .i64 a, .int .i64 b] 71)) wb w.heap.size) := Lib.hid (ownW_new h (Nat.le_refl _) (Below.heap_alloc w _ wb hlt))
  have HROW := Lib.hid hab
  obtain ⟨c0, c1, _, _⟩ := row2 hab
  have HF := Lib.hid (number_any HA.out a (by omega))
  clear h hab
  go_enter Try.func56, Try.ntmps56
  go_wp2_with fail
  refine HF.out.mono ?_
  rintro e w1 ⟨rfl, h1, hb1, hk1⟩
  have HROW1 := Lib.hid ((hk1.block w.heap.size (by simp) (by omega) HNO.out).trans HROW.out)
  obtain ⟨d0, d1, _, _⟩ := row2 HROW1.out
  have HB1 : Hid (Below wb w w1) := Lib.hid ((HB0.out.mono (by omega)).trans hb1)
  have HK1 := Lib.hid (HK0.out.trans hk1)
  have HF2 := Lib.hid (number_any h1 b (by rw [List.length_append]; have := outI_len a; omega))
  clear h1 hb1 hk1 c0 c1
  go_wp2_with fail
  refine HF2.out.mono ?_
  rintro e w2 ⟨rfl, h2, hb2, hk2⟩
  have H2 : Hid (Wr 108 w2 wb (xs ++ (outI a ++ outI b)) (f || (!okI a || !okI b))) := Lib.hid (by rw [← List.append_assoc, ← Bool.or_assoc]; exact h2)
  have HB2 := Lib.hid (HB1.out.trans hb2)
  have HK2 := Lib.hid (HK1.out.trans hk2)
  clear h2 hb2 hk2
  go_wp2
  go_end0
  exact ⟨rfl, H2.out, HB2.out, HK2.out⟩

theorem pairW_any {w : World} {wb : Nat} {xs : List Int} {f : Bool} (h : Wr 108 w wb xs f) (a b : Int) (hl : xs.length + 12 ≤ 1000000000) :
    Calls Try.prog 58 #[.pointer (some ⟨wb, 0, none⟩), .agg #[.int .i64 a, .int .i64 b]] w fun e w' => e = .returned (.tuple #[]) ∧ Wr 108 w' wb (xs ++ (outI a ++ outI b)) (f || (!okI a || !okI b)) ∧ Below wb w w' ∧ KeepW w w' wb := by
  have hlt := h.lt
  have HA := Lib.hid (h.alloc (.cells #[.int .i64 a, .int .i64 b] 90))
  have HK0 := Lib.hid (KeepW.alloc hlt (.cells #[.int .i64 a, .int .i64 b] 90))
  have HB0 : Hid (Below (w.heap.size) w (w.alloc (.cells #[.int .i64 a, .int .i64 b] 90))) := Lib.hid ((Below.refl _ w).alloc (Nat.le_refl _) _)
  have hab := heap_alloc_new w (.cells #[.int .i64 a, .int .i64 b] 90)
  have HNO : Hid (¬ OwnW (w.alloc (.cells #[.int .i64 a, .int .i64 b] 90)) wb w.heap.size) := Lib.hid (ownW_new h (Nat.le_refl _) (Below.heap_alloc w _ wb hlt))
  have HROW := Lib.hid hab
  obtain ⟨c0, c1, _, _⟩ := row2 hab
  have HF := Lib.hid (number_any HA.out a (by omega))
  clear h hab
  go_enter Try.func58, Try.ntmps58
  go_wp2_with fail
  refine HF.out.mono ?_
  rintro e w1 ⟨rfl, h1, hb1, hk1⟩
  have HROW1 := Lib.hid ((hk1.block w.heap.size (by simp) (by omega) HNO.out).trans HROW.out)
  obtain ⟨d0, d1, _, _⟩ := row2 HROW1.out
  have HB1 : Hid (Below wb w w1) := Lib.hid ((HB0.out.mono (by omega)).trans hb1)
  have HK1 := Lib.hid (HK0.out.trans hk1)
  have HF2 := Lib.hid (number_any h1 b (by rw [List.length_append]; have := outI_len a; omega))
  clear h1 hb1 hk1 c0 c1
  go_wp2_with fail
  refine HF2.out.mono ?_
  rintro e w2 ⟨rfl, h2, hb2, hk2⟩
  have H2 : Hid (Wr 108 w2 wb (xs ++ (outI a ++ outI b)) (f || (!okI a || !okI b))) := Lib.hid (by rw [← List.append_assoc, ← Bool.or_assoc]; exact h2)
  have HB2 := Lib.hid (HB1.out.trans hb2)
  have HK2 := Lib.hid (HK1.out.trans hk2)
  clear h2 hb2 hk2
  go_wp2
  go_end0
  exact ⟨rfl, H2.out, HB2.out, HK2.out⟩

set_option maxHeartbeats 1000000 in
theorem put_steps {w : World} {wb B n c : Nat} {xs : List Int} {ps : List (Int × Int)} {f : Bool} {A : Option Addr} (h : Wr 108 w wb xs f) (hr : RdP w B A n ps) (hB : B ≤ wb) (hn : n ≤ 100000) (hl : xs.length + 12 * (n + 2) ≤ 1000000000) :
    Calls Try.prog 55 #[.pointer (some ⟨wb, 0, none⟩), .slice A n c, .func (.func 56) #[.pointer (some ⟨wb, 0, none⟩)] #[]] w fun e w' => e = .returned (.tuple #[]) ∧ Wr 108 w' wb (xs ++ enc n ++ outP ps) (f || badP ps) ∧ Below wb w w' ∧ KeepW w w' wb := by
  have H := Lib.hid h
  have HR := Lib.hid hr
  have HLL := Lib.hid hr.len
  clear h hr
  go_enter Try.func55, Try.ntmps55
  go_wp2_with fail
  refine (number_any H.out (n : Int) (by omega)).mono ?_
  rintro e w1 ⟨rfl, h1, hb1, hk1⟩
  rw [outI_nat (by omega), okI_nat (by omega)] at h1
  have H1 : Hid (Wr 108 w1 wb (xs ++ enc n) f) := Lib.hid (by simpa using h1)
  have HB1 := Lib.hid hb1
  have HK1 := Lib.hid hk1
  have HE : Hid ((enc n).length ≤ 6) := Lib.hid (enc_six (by omega))
  clear h1 hb1 hk1
  go_wp2
  go_loopw [7, 14] (fun _ v wr => ∃ j : Nat, j ≤ n ∧ v = .int .i64 (j : Int) ∧ Hid (Wr 108 wr wb (xs ++ enc n ++ outP (ps.take j)) (f || badP (ps.take j))) ∧ Hid (Below wb w wr) ∧ Hid (KeepW w wr wb)) (fun _ v _ => n - (intOf v).toNat)
  case atStart => exact ⟨0, Nat.zero_le _, rfl, Lib.hid (by simpa [outP, badP] using H1.out), HB1, HK1⟩
  case round =>
    obtain ⟨j, hj, rfl, HW, HB, HK⟩ := hrel
    by_cases hjn : j < n
    · have hd : decide ((j : Int) < (n : Int)) = true := by simp; omega
      have hi : (j : Int) < (n : Int) := by omega
      have hadd : IntKind.i64.wrap ((j : Int) + 1) = ((j + 1 : Nat) : Int) := by rw [IntWalk.i64_in _ (by omega)]; omega
      obtain ⟨b1, o1, rfl, _, hcx, hcy⟩ := (HR.out.below (HB.out.mono hB)).at_ hjn
      obtain ⟨x, HX⟩ : ∃ x, Hid (px ps j = x) := ⟨_, Lib.hid rfl⟩
      obtain ⟨y, HY⟩ : ∃ y, Hid (py ps j = y) := ⟨_, Lib.hid rfl⟩
      rw [HX.out] at hcx
      rw [HY.out] at hcy
      have hwl := HW.out.lt
      have HKA := Lib.hid (HK.out.trans (KeepW.alloc hwl (.cells #[.int .i64 x, .int .i64 y] 71)))
      have HBA : Hid (Below wb w (wr.alloc (.cells #[.int .i64 x, .int .i64 y] 71))) := Lib.hid (HB.out.alloc (by omega) _)
      have HC := Lib.hid (stepW_any (HW.out.alloc (.cells #[.int .i64 x, .int .i64 y] 71)) x y (by
        have h2 := outP_len (ps.take j)
        have h3 := HE.out
        have h4 := HLL.out
        rw [List.length_append, List.length_append]
        rw [List.length_take] at h2
        omega))
      go_wp2_with fail
      refine HC.out.mono ?_
      rintro e w2 ⟨rfl, h2, hb2, hk2⟩
      have H2 : Hid (Wr 108 w2 wb (xs ++ enc n ++ outP (ps.take (j + 1))) (f || badP (ps.take (j + 1)))) := Lib.hid (by
        rw [take_px ps j (by rw [HLL.out]; exact hjn), outP_snoc, badP_snoc, HX.out, HY.out, ← List.append_assoc, ← Bool.or_assoc]
        exact h2)
      have HB2 : Hid (Below wb w w2) := Lib.hid (HBA.out.trans hb2)
      have HK2 := Lib.hid (HKA.out.trans hk2)
      clear h2 hb2 hk2 HC
      go_wp2
      go_roundw
      case rel => exact ⟨j + 1, by omega, rfl, H2, HB2, HK2⟩
      case measure => simp [intOf]; omega
    · have hd : decide ((j : Int) < (n : Int)) = false := by simp; omega
      obtain rfl : j = n := by omega
      go_wp2
      go_end0
      refine ⟨rfl, ?_, HB.out, HK.out⟩
      have := HW.out
      rw [List.take_of_length_le (by rw [HLL.out]; omega)] at this
      exact this

set_option maxHeartbeats 1000000 in
theorem put_pairs {w : World} {wb B n c : Nat} {xs : List Int} {ps : List (Int × Int)} {f : Bool} {A : Option Addr} (h : Wr 108 w wb xs f) (hr : RdP w B A n ps) (hB : B ≤ wb) (hn : n ≤ 100000) (hl : xs.length + 12 * (n + 2) ≤ 1000000000) :
    Calls Try.prog 57 #[.pointer (some ⟨wb, 0, none⟩), .slice A n c, .func (.func 58) #[.pointer (some ⟨wb, 0, none⟩)] #[]] w fun e w' => e = .returned (.tuple #[]) ∧ Wr 108 w' wb (xs ++ enc n ++ outP ps) (f || badP ps) ∧ Below wb w w' ∧ KeepW w w' wb := by
  have H := Lib.hid h
  have HR := Lib.hid hr
  have HLL := Lib.hid hr.len
  clear h hr
  go_enter Try.func57, Try.ntmps57
  go_wp2_with fail
  refine (number_any H.out (n : Int) (by omega)).mono ?_
  rintro e w1 ⟨rfl, h1, hb1, hk1⟩
  rw [outI_nat (by omega), okI_nat (by omega)] at h1
  have H1 : Hid (Wr 108 w1 wb (xs ++ enc n) f) := Lib.hid (by simpa using h1)
  have HB1 := Lib.hid hb1
  have HK1 := Lib.hid hk1
  have HE : Hid ((enc n).length ≤ 6) := Lib.hid (enc_six (by omega))
  clear h1 hb1 hk1
  go_wp2
  go_loopw [7, 14] (fun _ v wr => ∃ j : Nat, j ≤ n ∧ v = .int .i64 (j : Int) ∧ Hid (Wr 108 wr wb (xs ++ enc n ++ outP (ps.take j)) (f || badP (ps.take j))) ∧ Hid (Below wb w wr) ∧ Hid (KeepW w wr wb)) (fun _ v _ => n - (intOf v).toNat)
  case atStart => exact ⟨0, Nat.zero_le _, rfl, Lib.hid (by simpa [outP, badP] using H1.out), HB1, HK1⟩
  case round =>
    obtain ⟨j, hj, rfl, HW, HB, HK⟩ := hrel
    by_cases hjn : j < n
    · have hd : decide ((j : Int) < (n : Int)) = true := by simp; omega
      have hi : (j : Int) < (n : Int) := by omega
      have hadd : IntKind.i64.wrap ((j : Int) + 1) = ((j + 1 : Nat) : Int) := by rw [IntWalk.i64_in _ (by omega)]; omega
      obtain ⟨b1, o1, rfl, _, hcx, hcy⟩ := (HR.out.below (HB.out.mono hB)).at_ hjn
      obtain ⟨x, HX⟩ : ∃ x, Hid (px ps j = x) := ⟨_, Lib.hid rfl⟩
      obtain ⟨y, HY⟩ : ∃ y, Hid (py ps j = y) := ⟨_, Lib.hid rfl⟩
      rw [HX.out] at hcx
      rw [HY.out] at hcy
      have hwl := HW.out.lt
      have HKA := Lib.hid (HK.out.trans (KeepW.alloc hwl (.cells #[.int .i64 x, .int .i64 y] 90)))
      have HBA : Hid (Below wb w (wr.alloc (.cells #[.int .i64 x, .int .i64 y] 90))) := Lib.hid (HB.out.alloc (by omega) _)
      have HC := Lib.hid (pairW_any (HW.out.alloc (.cells #[.int .i64 x, .int .i64 y] 90)) x y (by
        have h2 := outP_len (ps.take j)
        have h3 := HE.out
        have h4 := HLL.out
        rw [List.length_append, List.length_append]
        rw [List.length_take] at h2
        omega))
      go_wp2_with fail
      refine HC.out.mono ?_
      rintro e w2 ⟨rfl, h2, hb2, hk2⟩
      have H2 : Hid (Wr 108 w2 wb (xs ++ enc n ++ outP (ps.take (j + 1))) (f || badP (ps.take (j + 1)))) := Lib.hid (by
        rw [take_px ps j (by rw [HLL.out]; exact hjn), outP_snoc, badP_snoc, HX.out, HY.out, ← List.append_assoc, ← Bool.or_assoc]
        exact h2)
      have HB2 : Hid (Below wb w w2) := Lib.hid (HBA.out.trans hb2)
      have HK2 := Lib.hid (HKA.out.trans hk2)
      clear h2 hb2 hk2 HC
      go_wp2
      go_roundw
      case rel => exact ⟨j + 1, by omega, rfl, H2, HB2, HK2⟩
      case measure => simp [intOf]; omega
    · have hd : decide ((j : Int) < (n : Int)) = false := by simp; omega
      obtain rfl : j = n := by omega
      go_wp2
      go_end0
      refine ⟨rfl, ?_, HB.out, HK.out⟩
      have := HW.out
      rw [List.take_of_length_le (by rw [HLL.out]; omega)] at this
      exact this

/-- A plan: the four lists. -/
structure PlV where
  fA : Option Addr
  fn : Nat
  fc : Nat
  fs : List Int
  tA : Option Addr
  tn : Nat
  tc : Nat
  ts : List Int
  sA : Option Addr
  sn : Nat
  sc : Nat
  ss : List (Int × Int)
  bA : Option Addr
  bn : Nat
  bc : Nat
  bs : List (Int × Int)
def PlV.cells (p : PlV) : Array Value := #[.slice p.fA p.fn p.fc, .slice p.tA p.tn p.tc, .slice p.sA p.sn p.sc, .slice p.bA p.bn p.bc]
structure PlR (w : World) (B : Nat) (p : PlV) : Prop where
  f : Rd w B p.fA p.fn p.fs
  t : Rd w B p.tA p.tn p.ts
  s : RdP w B p.sA p.sn p.ss
  b : RdP w B p.bA p.bn p.bs
theorem PlR.below {w w' : World} {B : Nat} {p : PlV} (h : PlR w B p) (hb : Below B w w') : PlR w' B p := ⟨h.f.below hb, h.t.below hb, h.s.below hb, h.b.below hb⟩
theorem PlR.more {w : World} {B B' : Nat} {p : PlV} (h : PlR w B p) (hb : B ≤ B') : PlR w B' p := ⟨h.f.more hb, h.t.more hb, h.s.more hb, h.b.more hb⟩
def PlV.out (p : PlV) : List Int := enc p.fn ++ outs p.fs ++ enc p.tn ++ outs p.ts ++ enc p.sn ++ outP p.ss ++ enc p.bn ++ outP p.bs
def PlV.bad (p : PlV) : Bool := bads p.fs || bads p.ts || badP p.ss || badP p.bs
def PlV.small (p : PlV) : Prop := p.fn ≤ 10000 ∧ p.tn ≤ 10000 ∧ p.sn ≤ 10000 ∧ p.bn ≤ 10000
theorem row4 {w : World} {g : Nat} {x y z u : Value} {t : TypeId} (h : w.heap[g]? = some (.cells #[x, y, z, u] t (0, 0))) : w.cell? ⟨g, 0, none⟩ = some x ∧ w.cell? ⟨g, 1, none⟩ = some y ∧ w.cell? ⟨g, 2, none⟩ = some z ∧ w.cell? ⟨g, 3, none⟩ = some u :=
  ⟨by rw [cell_of_row w g 0 _ _ _ h]; rfl, by rw [cell_of_row w g 1 _ _ _ h]; rfl, by rw [cell_of_row w g 2 _ _ _ h]; rfl, by rw [cell_of_row w g 3 _ _ _ h]; rfl⟩
set_option maxHeartbeats 2000000 in
theorem putP_any {w : World} {B : Nat} {p : PlV} (hr : PlR w B p) (hB : B ≤ w.heap.size) (hs : p.small) :
    Calls Try.prog 32 #[.agg p.cells] w fun e w' => (∃ A' n' c' er, e = .returned (.tuple #[.slice A' n' c', .int .i64 er]) ∧ WrEnd w' (w.heap.size + 1) p.out p.bad (.slice A' n' c') er) ∧ Below w.heap.size w w' := by
  obtain ⟨fA, fn, fc, fs, tA, tn, tc, ts, sA, sn, sc, ss, bA, bn, bc, bs⟩ := p
  obtain ⟨s1, s2, s3, s4⟩ := hs
  simp only at s1 s2 s3 s4
  show Calls Try.prog 32 #[.agg #[.slice fA fn fc, .slice tA tn tc, .slice sA sn sc, .slice bA bn bc]] w _
  have hbox := heap_alloc_new w (.cells #[.slice fA fn fc, .slice tA tn tc, .slice sA sn sc, .slice bA bn bc] 29)
  obtain ⟨wx, HWX⟩ : ∃ wx, Hid (wx = w.alloc (.cells #[.slice fA fn fc, .slice tA tn tc, .slice sA sn sc, .slice bA bn bc] 29)) := ⟨_, Lib.hid rfl⟩
  have HBX : Hid (Below w.heap.size w wx) := Lib.hid (by rw [HWX.out]; exact (Below.refl _ w).alloc (Nat.le_refl _) _)
  have hsx : wx.heap.size = w.heap.size + 1 := by rw [HWX.out]; simp
  rw [← HWX.out] at hbox
  have hw0 := Wr.new (T := 108) wx
  rw [hsx] at hw0
  obtain ⟨w0, HW0E⟩ : ∃ w0, Hid (w0 = wx.alloc (.cells #[.slice none 0 0, .bool false] 108)) := ⟨_, Lib.hid rfl⟩
  rw [← HW0E.out] at hw0
  have HBW : Hid (Below (w.heap.size + 1) wx w0) := Lib.hid (by rw [HW0E.out]; exact (Below.refl _ wx).alloc (by omega) _)
  have HROW0 := Lib.hid ((HBW.out.block w.heap.size (by omega)).trans hbox)
  have HR0 := Lib.hid ((hr.below (HBX.out.mono hB)).below (HBW.out.mono (by omega)))
  have HB0 : Hid (Below w.heap.size w w0) := Lib.hid (HBX.out.trans (HBW.out.mono (by omega)))
  have HW0 := Lib.hid hw0
  clear hr hbox hw0
  obtain ⟨c0, c1, c2, c3⟩ := row4 HROW0.out
  have HF1 := Lib.hid (numbersW_any (c := fc) HW0.out HR0.out.f (by omega) (by simp only; omega) (by simp only [List.length_nil]; omega))
  simp only at HF1
  clear hsx
  go_enter Try.func32, Try.ntmps32
  go_upto_region 2 with fail
  rw [← HWX.out, ← HW0E.out]
  go_wp2_with fail
  refine HF1.out.mono ?_
  rintro e w1 ⟨rfl, h1, hb1, _⟩
  have HR1 := Lib.hid (HR0.out.below (hb1.mono (by omega)))
  have HROW1 := Lib.hid ((hb1.block w.heap.size (by omega)).trans HROW0.out)
  have HB1 : Hid (Below w.heap.size w w1) := Lib.hid (HB0.out.trans (hb1.mono (by omega)))
  have HW1 := Lib.hid h1
  clear h1 hb1 c0 c1 c2 c3
  obtain ⟨c0, c1, c2, c3⟩ := row4 HROW1.out
  have hl1 : ([] ++ enc fn ++ outs fs).length ≤ 60006 := by
    have h1 := enc_six (n := fn) (by omega)
    have h2 := outs_len fs
    have h3 := HR0.out.f.len
    simp only at h3
    simp only [List.length_append, List.length_nil]; omega
  have HF2 := Lib.hid (numbersW_any (c := tc) HW1.out HR1.out.t (by omega) (by simp only; omega) (by simp only; omega))
  simp only at HF2
  go_wp2_with fail
  refine HF2.out.mono ?_
  rintro e w2 ⟨rfl, h2, hb2, _⟩
  have HR2 := Lib.hid (HR1.out.below (hb2.mono (by omega)))
  have HROW2 := Lib.hid ((hb2.block w.heap.size (by omega)).trans HROW1.out)
  have HB2 : Hid (Below w.heap.size w w2) := Lib.hid (HB1.out.trans (hb2.mono (by omega)))
  have HW2 := Lib.hid h2
  clear h2 hb2 c0 c1 c2 c3
  obtain ⟨c0, c1, c2, c3⟩ := row4 HROW2.out
  have hl2 : ([] ++ enc fn ++ outs fs ++ enc tn ++ outs ts).length ≤ 120012 := by
    have h1 := enc_six (n := tn) (by omega)
    have h2 := outs_len ts
    have h3 := HR0.out.t.len
    simp only at h3
    rw [List.length_append, List.length_append]; omega
  have HF3 := Lib.hid (put_steps (c := sc) HW2.out HR2.out.s (by omega) (by simp only; omega) (by simp only; omega))
  simp only at HF3
  go_wp2_with fail
  refine HF3.out.mono ?_
  rintro e w3 ⟨rfl, h3, hb3, _⟩
  have HR3 := Lib.hid (HR2.out.below (hb3.mono (by omega)))
  have HROW3 := Lib.hid ((hb3.block w.heap.size (by omega)).trans HROW2.out)
  have HB3 : Hid (Below w.heap.size w w3) := Lib.hid (HB2.out.trans (hb3.mono (by omega)))
  have HW3 := Lib.hid h3
  clear h3 hb3 c0 c1 c2 c3
  obtain ⟨c0, c1, c2, c3⟩ := row4 HROW3.out
  have hl3 : ([] ++ enc fn ++ outs fs ++ enc tn ++ outs ts ++ enc sn ++ outP ss).length ≤ 240030 := by
    have h1 := enc_six (n := sn) (by omega)
    have h2 := outP_len ss
    have h3 := HR0.out.s.len
    simp only at h3
    rw [List.length_append, List.length_append]; omega
  have HF4 := Lib.hid (put_pairs (c := bc) HW3.out HR3.out.b (by omega) (by simp only; omega) (by simp only; omega))
  simp only at HF4
  go_wp2_with fail
  refine HF4.out.mono ?_
  rintro e w4 ⟨rfl, h4, hb4, _⟩
  have HR4 := Lib.hid (HR3.out.below (hb4.mono (by omega)))
  have HROW4 := Lib.hid ((hb4.block w.heap.size (by omega)).trans HROW3.out)
  have HB4 : Hid (Below w.heap.size w w4) := Lib.hid (HB3.out.trans (hb4.mono (by omega)))
  have HW4 := Lib.hid h4
  clear h4 hb4 c0 c1 c2 c3
  obtain ⟨c0, c1, c2, c3⟩ := row4 HROW4.out
  have HF5 := Lib.hid (written_any HW4.out)
  go_wp2_with fail
  refine HF5.out.mono ?_
  rintro e w5 ⟨⟨A', n', c', er, rfl, hend⟩, rfl⟩
  have HE := Lib.hid hend
  clear hend
  go_wp2
  go_ret2
  refine ⟨⟨A', n', c', er, rfl, ?_⟩, HB4.out⟩
  have h := HE.out
  simp only [List.nil_append, Bool.false_or] at h
  exact h
end Go.Proofs.Ytolgmoaoheflcaa
