/-
 MERGED: GFlt GMem GWalks GWay GPts.
-/
import Derived.Test.YtminihiecloglaaGreatChecked
import Derived.Laws.FloatArith
import Derived.Laws.ComplexArith
import Derived.WalkKit
import Derived.WalkSpells
import Derived.WalkSmall
import Derived.WalkLawsBesides
import Derived.Laws.Externs
import Derived.Below
import Derived.Laws.OwnMore
import Derived.Deep.AppendLies
import Derived.Deep.Draws
import Derived.Lib.Hide
import Derived.Maps.AppendAt
import Derived.Laws.BitsAllLaws
set_option linter.unusedVariables false
set_option linter.unusedSimpArgs false
namespace FlP
open Ieee
def fl (n : Int) : Nat := double.nearest (decide (n < 0)) n.natAbs 0
theorem log2_mul (a q : Nat) (h : a ≠ 0) : (a * 2 ^ q).log2 = a.log2 + q := by
 have hp : 0 < 2 ^ q := Nat.two_pow_pos q
 have h1 := Nat.log2_self_le h
 have h2 := Nat.lt_log2_self (n := a)
 have hne : a * 2 ^ q ≠ 0 := by
  intro e; rcases Nat.mul_eq_zero.1 e with e | e
  ·exact h e
  ·omega
 rw [Nat.log2_eq_iff hne]
 refine ⟨?_, ?_⟩
 ·rw [Nat.pow_add]; exact Nat.mul_le_mul_right _ h1
 ·rw [show a.log2 + q + 1 = (a.log2 + 1) + q by omega, Nat.pow_add]; exact Nat.mul_lt_mul_of_pos_right h2 hp
theorem cut_zero (way : Toward) (neg : Bool) (n : Nat) : way.cut neg n 0 = n := by
 unfold Toward.cut
 cases way <;> simp [Nat.shiftLeft_eq, Nat.mod_one]
theorem cut_exact (way : Toward) (neg : Bool) (a k : Nat) (h : a ≠ 0) : way.cut neg (a * 2 ^ k) k = a := by
 have hl := log2_mul a k h
 have hp : 0 < 2 ^ k := Nat.two_pow_pos k
 have hm : min k ((a * 2 ^ k).log2 + 2) = k := by rw [hl]; omega
 unfold Toward.cut
 rw [hm]
 have e1 : a * 2 ^ k / 2 ^ k = a := Nat.mul_div_cancel _ hp
 have e2 : a * 2 ^ k % 2 ^ k = 0 := Nat.mul_mod_left _ _
 cases way <;> simp [Nat.shiftLeft_eq, e1, e2] <;> omega
theorem cut_nought (way : Toward) (neg : Bool) (k : Nat) : way.cut neg 0 k = 0 := by
 unfold Toward.cut
 cases way <;> simp [Nat.shiftLeft_eq]
def Stands (d : Datum) (n : Int) : Prop := ∃ (m k : Nat), d = .number (decide (n < 0)) m (-(k : Int)) ∧ m = n.natAbs * 2 ^ k
theorem read_fl (n : Int) (h : n.natAbs < 2 ^ 53) : Stands (double.read (fl n)) n := by
 by_cases h0 : n = 0
 ·subst h0
  obtain ⟨k, hk⟩ : ∃ k : Nat, k = 1074 := ⟨_, rfl⟩
  refine ⟨0, k, ?_, (Nat.zero_mul _).symm⟩
  rw [hk]
  decide +kernel
 have hne : n.natAbs ≠ 0 := by omega
 have hL : n.natAbs.log2 < 53 := (Nat.log2_lt hne).2 h
 obtain ⟨d, hd⟩ : ∃ d : Nat, n.natAbs.log2 + d = 52 := ⟨52 - n.natAbs.log2, by omega⟩
 have h1 := Nat.log2_self_le hne
 have h2 := Nat.lt_log2_self (n := n.natAbs)
 have e1 : (double.fractionBits : Int) = 52 := rfl
 have e2 : double.leastPlace = -1074 := by decide
 have e3 : double.binade = 4503599627370496 := by decide
 have e4 : double.infRung = 2047 * 4503599627370496 := by decide
 have e5 : double.signWeight = 2048 * 4503599627370496 := by decide
 obtain ⟨kept, hk⟩ : ∃ kept, kept = n.natAbs * 2 ^ d := ⟨_, rfl⟩
 have k1 : 4503599627370496 ≤ kept := by
  have : 2 ^ n.natAbs.log2 * 2 ^ d ≤ n.natAbs * 2 ^ d := Nat.mul_le_mul_right _ h1
  rw [← Nat.pow_add, hd] at this
  rw [hk]; simpa using this
 have k2 : kept < 9007199254740992 := by
  have : n.natAbs * 2 ^ d < 2 ^ (n.natAbs.log2 + 1) * 2 ^ d := Nat.mul_lt_mul_of_pos_right h2 (Nat.two_pow_pos d)
  rw [← Nat.pow_add, show n.natAbs.log2 + 1 + d = 53 by omega] at this
  rw [hk]; simpa using this
 have hv : max ((0 : Int) + (n.natAbs.log2 : Int) - (double.fractionBits : Int)) double.leastPlace = (n.natAbs.log2 : Int) - 52 := by
  rw [e1, e2]; omega
 have hw : fl n = double.word (decide (n < 0)) ((n.natAbs.log2 + 1022) * 4503599627370496 + kept) := by
  unfold fl Format.nearest
  rw [if_neg hne]
  simp only [hv]
  have g0 : ((0 : Int) - ((n.natAbs.log2 : Int) - 52)).toNat = d := by omega
  have g1 : ((n.natAbs.log2 : Int) - 52 - 0).toNat = 0 := by omega
  have g2 : ((n.natAbs.log2 : Int) - 52 - double.leastPlace).toNat = n.natAbs.log2 + 1022 := by rw [e2]; omega
  rw [g0, g1, g2, cut_zero, Nat.shiftLeft_eq, ← hk, e3, e4, Nat.min_eq_left (by omega)]
 have hr : (n.natAbs.log2 + 1022) * 4503599627370496 + kept < 2047 * 4503599627370496 := by omega
 refine ⟨kept, d, ?_, hk⟩
 rw [hw]
 unfold Format.read Format.word
 rw [e3, e4, e5, e2]
 have q1 : ((n.natAbs.log2 + 1022) * 4503599627370496 + kept) / 4503599627370496 = n.natAbs.log2 + 1023 := by omega
 have q2 : ((n.natAbs.log2 + 1022) * 4503599627370496 + kept) % 4503599627370496 = kept - 4503599627370496 := by omega
 have q3 : ((n.natAbs.log2 + 1022) * 4503599627370496 + kept) % (2048 * 4503599627370496) = (n.natAbs.log2 + 1022) * 4503599627370496 + kept := Nat.mod_eq_of_lt (by omega)
 have q4 : (2048 * 4503599627370496 + ((n.natAbs.log2 + 1022) * 4503599627370496 + kept)) % (2048 * 4503599627370496) = (n.natAbs.log2 + 1022) * 4503599627370496 + kept := by
  rw [Nat.add_mod_left]; exact q3
 have q5 : ((n.natAbs.log2 + 1022) * 4503599627370496 + kept) / (2048 * 4503599627370496) % 2 = 0 := by
  rw [Nat.div_eq_of_lt (by omega)]
 have q6 : (2048 * 4503599627370496 + ((n.natAbs.log2 + 1022) * 4503599627370496 + kept)) / (2048 * 4503599627370496) % 2 = 1 := by
  rw [Nat.add_div_left _ (by decide), Nat.div_eq_of_lt (by omega)]
 by_cases hn : n < 0
 ·simp only [hn, decide_true, if_true]
  rw [q4, q6, if_neg (by omega), if_pos hr, q1, q2, show (1 == 1) = true from rfl, show 4503599627370496 + (kept - 4503599627370496) = kept by omega, show (-1074 : Int) + ((n.natAbs.log2 + 1023 - 1 : Nat) : Int) = -(d : Int) by omega]
 ·simp only [hn, decide_false, Bool.false_eq_true, if_false]
  rw [q3, q5, if_neg (by omega), if_pos hr, q1, q2, show (0 == 1) = false from rfl, show 4503599627370496 + (kept - 4503599627370496) = kept by omega, show (-1074 : Int) + ((n.natAbs.log2 + 1023 - 1 : Nat) : Int) = -(d : Int) by omega]
theorem signed_stands {n : Int} {k j : Nat} : signed (decide (n < 0)) (n.natAbs * 2 ^ k) j = n * 2 ^ (k + j) := by
 unfold signed
 have e : (((n.natAbs * 2 ^ k) <<< j : Nat) : Int) = (n.natAbs : Int) * 2 ^ (k + j) := by
  rw [Nat.shiftLeft_eq, Nat.mul_assoc, ← Nat.pow_add]; push_cast; rfl
 rw [e]
 by_cases h : n < 0
 ·simp only [h, decide_true, if_true]
  rw [show (n.natAbs : Int) = -n by omega, Int.neg_mul, Int.neg_neg]
 ·simp only [h, decide_false, Bool.false_eq_true, if_false]
  rw [show (n.natAbs : Int) = n by omega]
theorem pow_pos_int (k : Nat) : (0 : Int) < 2 ^ k := Int.pow_pos (by decide)
theorem order_stands {a b : Int} {x y : Datum} (hx : Stands x a) (hy : Stands y b) : x.order y = some (compare a b) := by
 obtain ⟨m, k, rfl, rfl⟩ := hx
 obtain ⟨m', j, rfl, rfl⟩ := hy
 have hb : min (-(k : Int)) (-(j : Int)) = -((max k j : Nat) : Int) := by omega
 simp only [Datum.order, hb]
 have s1 : (-(k : Int) - -((max k j : Nat) : Int)).toNat = max k j - k := by omega
 have s2 : (-(j : Int) - -((max k j : Nat) : Int)).toNat = max k j - j := by omega
 rw [s1, s2, signed_stands, signed_stands, show k + (max k j - k) = max k j by omega, show j + (max k j - j) = max k j by omega]
 congr 1
 have hp := pow_pos_int (max k j)
 rcases Int.lt_trichotomy a b with h | h | h
 ·rw [show compare a b = .lt from Int.compare_eq_lt.2 h]
  exact Int.compare_eq_lt.2 (Int.mul_lt_mul_of_pos_right h hp)
 ·subst h; rw [show compare a a = .eq from Int.compare_eq_eq.2 rfl]
  exact Int.compare_eq_eq.2 rfl
 ·rw [show compare a b = .gt from Int.compare_eq_gt.2 h]
  exact Int.compare_eq_gt.2 (Int.mul_lt_mul_of_pos_right h hp)
theorem order_fl {a b : Int} (ha : a.natAbs < 2 ^ 53) (hb : b.natAbs < 2 ^ 53) : double.order (fl a) (fl b) = some (compare a b) := order_stands (read_fl a ha) (read_fl b hb)
theorem integral_stands (way : Toward) {a : Int} {x : Datum} (hx : Stands x a) : x.integral way = .number (decide (a < 0)) a.natAbs 0 := by
 obtain ⟨m, k, rfl, rfl⟩ := hx
 simp only [Datum.integral]
 have s1 : (-(k : Int)).toNat = 0 := by omega
 have s2 : (- -(k : Int)).toNat = k := by omega
 rw [s1, s2, Nat.shiftLeft_zero]
 congr 1
 by_cases h : a.natAbs = 0
 ·rw [h, Nat.zero_mul, cut_nought]
 ·exact cut_exact _ _ _ _ h
theorem toInt_fl (way : Toward) {a : Int} (ha : a.natAbs < 2 ^ 53) : (double.read (fl a)).toInt way = some a := by
 unfold Datum.toInt
 rw [integral_stands way (read_fl a ha)]
 show some (signed _ _ 0) = some a
 congr 1
 unfold signed
 by_cases h : a < 0
 ·simp only [h, decide_true, if_true]; rw [Nat.shiftLeft_zero]; omega
 ·simp only [h, decide_false, Bool.false_eq_true, if_false]; rw [Nat.shiftLeft_zero]; omega
theorem trunc_fl {a : Int} (ha : a.natAbs < 2 ^ 53) : double.write ((double.read (fl a)).integral .zero) = fl a := by
 rw [integral_stands .zero (read_fl a ha)]; rfl
theorem isNum_fl {a : Int} (ha : a.natAbs < 2 ^ 53) : ∃ s m p, double.read (fl a) = .number s m p := by
 obtain ⟨m, k, e, _⟩ := read_fl a ha
 exact ⟨_, _, _, e⟩
end FlP
namespace Go.Proofs.YtminihiecloglaaGreat
open Go.RowKit
open FlP
def cv (p : Int × Int) : Value := .complex .f64 (fl p.1) (fl p.2)
def GaP.at_ (zs : List (Int × Int)) (i : Nat) : Int × Int := zs.getD i (0, 0)
def RdZc (w : World) (B : Nat) (A : Option Addr) (n : Nat) (zs : List (Int × Int)) : Prop :=
 zs.length = n ∧ (0 < n → ∃ b off, A = some ⟨b, off, none⟩ ∧ b < B ∧ ∀ j, j < n → w.cell? ⟨b, off + j, none⟩ = some (cv (GaP.at_ zs j)))
section
variable {w w' : World} {B B' n : Nat} {A : Option Addr} {zs : List (Int × Int)}
theorem RdZc.len (h : RdZc w B A n zs) : zs.length = n := h.1
theorem RdZc.at_ {k : Nat} (h : RdZc w B A n zs) (hk : k < n) : ∃ b off, A = some ⟨b, off, none⟩ ∧ b < B ∧ w.cell? ⟨b, off + k, none⟩ = some (cv (GaP.at_ zs k)) := by
 obtain ⟨b, off, e, hb, hc⟩ := h.2 (by omega)
 exact ⟨b, off, e, hb, hc k hk⟩
theorem RdZc.keep (h : RdZc w B A n zs) (hk : ∀ p : Addr, p.block < B → w'.cell? p = w.cell? p) : RdZc w' B A n zs :=
 ⟨h.1, fun hn => by
  obtain ⟨b, off, e, hb, hc⟩ := h.2 hn
  exact ⟨b, off, e, hb, fun j hj => (hk _ hb).trans (hc j hj)⟩⟩
theorem RdZc.below (h : RdZc w B A n zs) (hb : Below B w w') : RdZc w' B A n zs := h.keep fun _ hp => hb.cell hp
theorem RdZc.more (h : RdZc w B A n zs) (hB : B ≤ B') : RdZc w B' A n zs :=
 ⟨h.1, fun hn => by
  obtain ⟨b, off, e, hb, hc⟩ := h.2 hn
  exact ⟨b, off, e, by omega, hc⟩⟩
theorem at_map (zs : List (Int × Int)) (j : Nat) (h : j < zs.length) : (zs.map cv)[j]? = some (cv (GaP.at_ zs j)) := by
 simp [GaP.at_, List.getD, h]
theorem RdZc.of_own {base e c : Nat} (h : w.ownsRow base e 1 (.slice A n c) n (zs.map cv)) : RdZc w w.heap.size A n zs := by
 have hl : zs.length = n := by simpa using h.1
 refine ⟨hl, fun hn => ?_⟩
 obtain ⟨g, cap, hv, _, hlt⟩ := h.form hn
 have hA : A = some ⟨g, 0, none⟩ := by injection hv
 subst hA
 refine ⟨g, 0, rfl, hlt, fun j hj => ?_⟩
 have h1 := h.cells (g := g) rfl j _ (at_map zs j (by omega))
 have h2 : (Addr.add ⟨g, 0, none⟩ j) = ⟨g, 0 + j, none⟩ := by
  unfold Addr.add
  by_cases h0 : j = 0 <;> simp [h0]
 rw [← h2]; exact h1
end
theorem infoCx : (Tryz.prog.info? 60).map (fun i => (i.zero, i.size, i.bytes)) = some (some (.complex .f64 0 0), 1, 16) := by kernel_rfl
def OwnZc (w : World) (base : Nat) (v : Value) (n : Nat) (zs : List (Int × Int)) : Prop := w.ownsRow base 60 1 v n (zs.map cv)
section
variable {w w' : World} {base n c g : Nat} {v : Value} {zs : List (Int × Int)}
theorem OwnZc.len (h : OwnZc w base v n zs) : zs.length = n := by simpa using h.1
theorem OwnZc.alloc (h : OwnZc w base v n zs) (o : Obj) : OwnZc (w.alloc o) base v n zs := World.ownsRow.alloc h o
theorem OwnZc.drewN (h : OwnZc w base v n zs) (k : Nat) : OwnZc (w.drewN k) base v n zs := h
theorem OwnZc.rd {A : Option Addr} (h : OwnZc w base (.slice A n c) n zs) : RdZc w w.heap.size A n zs := RdZc.of_own h
theorem OwnZc.form (h : OwnZc w base v n zs) (hn : 0 < n) : ∃ g c, v = .slice (some ⟨g, 0, none⟩) n c ∧ base ≤ g ∧ g < w.heap.size := by
 obtain ⟨g, cap, hv, hb, hlt⟩ := World.ownsRow.form h hn
 exact ⟨g, cap, hv, hb, hlt⟩
theorem OwnZc.lit (w : World) (base : Nat) (zs : List (Int × Int)) (hb : base ≤ w.heap.size) (hl : zs.length ≤ 1099511627776) :
  OwnZc (w.alloc (.cells (zs.map cv).toArray 60)) base (.slice (some ⟨w.heap.size, 0, none⟩) zs.length zs.length) zs.length zs := by
 have := World.ownsRow_lit (base := base) (e := 60) (size := 1) w (zs.map cv).toArray zs.length hb (by unfold maxLen; omega) (by simp)
 simpa [OwnZc] using this
theorem OwnZc.ge (h : OwnZc w base v n zs) : ∀ g, v.ownBlock = some g → base ≤ g := by
 intro g hg
 rcases h.2 with ⟨rfl, _⟩ | ⟨g', cap, cur, rfl, hb, _⟩
 ·cases hg
 ·have : g' = g := by simpa [Value.ownBlock] using hg
  omega
end
theorem wpl_appZc {w : World} {ops : Array Oper} {rest : List Oper} {o : Oper} {a : Act} {Q : Exit → Act → World → Prop} (hgd : o.guard = none) (s x : Operand)
  (ho : o.op = .call { callee := .builtin .append, args := #[s, x], argTypes := #[50, 50] })
  (base : Nat) (v : Value) (n : Nat) (xs : List (Int × Int)) (hs : a.eval s = v) (hown : OwnZc w base v n xs)
  (b : Nat) (u : Int × Int) (hx : a.eval x = .slice (some ⟨b, 0, none⟩) 1 1) (hc : w.cell? ⟨b, 0, none⟩ = some (cv u)) (hn : n ≤ 1099511627776) (hbase : base ≤ w.heap.size)
  (h : ∀ g c w', OwnZc w' base (.slice (some ⟨g, 0, none⟩) (n + 1) c) (n + 1) (xs ++ [u]) → base ≤ g → w.grownBy w' v.ownBlock → (v.ownBlock = some g ∨ g = w.heap.size) → wpList Tryz.prog ops Q rest (a.put o.dst (.slice (some ⟨g, 0, none⟩) (n + 1) c)) w') :
  wpList Tryz.prog ops Q (o :: rest) a w := by
 obtain ⟨i0, hi, hz0, hz1, hz2⟩ := info_parts infoCx
 refine wpList_append_own_at w hgd s x 50 ho base 60 i0 (.complex .f64 0 0) 1 16 Tryz.underlying50 hi hz0 hz1 hz2 rfl (by decide) v n _ hs hown ⟨b, 0, none⟩ 1 1 [cv u] hx rfl ?_ ?_ (by unfold maxLen; omega) (by omega) hbase ?_
 ·intro j z hj
  match j, hj with
  | 0, hj => simp at hj; subst hj; simpa [Addr.add] using hc
 ·intro z hz; simp at hz; subst hz; rfl
 ·intro v' w' hown' hg _ hat
  have ho' : OwnZc w' base v' (n + 1) (xs ++ [u]) := by unfold OwnZc; rw [List.map_append]; exact hown'
  obtain ⟨g, c, rfl, hbg, _⟩ := ho'.form (by omega)
  exact h g c w' ho' hbg hg (by
   rcases hat with h | h
   ·exact .inl h.symm
   ·right; have : some g = some w.heap.size := h; injection this)
end Go.Proofs.YtminihiecloglaaGreat
namespace Go.Proofs.YtminihiecloglaaGreat
open Go.RowKit
open FlP
theorem ord_lt {a b : Int} (ha : a.natAbs < 2 ^ 53) (hb : b.natAbs < 2 ^ 53) (h : a < b) : FloatKind.f64.format.order (fl a) (fl b) = some .lt := by
 show Ieee.double.order _ _ = _
 rw [order_fl ha hb, Int.compare_eq_lt.2 h]
theorem ord_gt {a b : Int} (ha : a.natAbs < 2 ^ 53) (hb : b.natAbs < 2 ^ 53) (h : b < a) : FloatKind.f64.format.order (fl a) (fl b) = some .gt := by
 show Ieee.double.order _ _ = _
 rw [order_fl ha hb, Int.compare_eq_gt.2 h]
theorem ord_eq {a : Int} (ha : a.natAbs < 2 ^ 53) : FloatKind.f64.format.order (fl a) (fl a) = some .eq := by
 show Ieee.double.order _ _ = _
 rw [order_fl ha ha, Int.compare_eq_eq.2 rfl]
theorem fl0 : fl 0 = 0 := by decide +kernel
theorem flP : fl 1048576 = 4697254411347427328 := by decide +kernel
theorem toIntegral_num (nm : String) (way : Ieee.Toward) (x : Nat) {s : Bool} {m : Nat} {p : Int} (e : FloatKind.f64.decode x = .number s m p) :
  Extern.MathFloor.toIntegral nm way #[.float .f64 x] = pure (.float .f64 (FloatKind.f64.encode ((Ieee.Datum.number s m p).integral way))) := by
 have h := show Extern.MathFloor.toIntegral nm way #[.float .f64 x] = Extern.MathFloor.toIntegral.match_1 (fun _ => Sem Value) (FloatKind.f64.decode x) _ _ from rfl
 rw [h, e]
theorem call_trunc (n : Int) (h : n.natAbs < 2 ^ 53) (w : World) : (callFunc 153 #[.float .f64 (fl n)]).run Tryz.prog w = .ok (.value (.float .f64 (fl n))) w := by
 rw [run_callFunc_extern (e := Extern.MathFloor.toIntegral "math.archTrunc" .zero) Tryz.func153 (by kernel_rfl) (by kernel_rfl) (by kernel_rfl) (by kernel_rfl)]
 obtain ⟨s, m, p, e⟩ := isNum_fl h
 have e' : FloatKind.f64.decode (fl n) = .number s m p := e
 have t := trunc_fl h
 rw [e] at t
 have t' : FloatKind.f64.encode ((Ieee.Datum.number s m p).integral .zero) = fl n := t
 rw [toIntegral_num _ _ _ e', t']
 rfl
theorem trunc_any (n : Int) (h : n.natAbs < 2 ^ 53) (w : World) : Calls Tryz.prog 145 #[.float .f64 (fl n)] w fun e w' => e = .returned (.float .f64 (fl n)) ∧ w = w' := by
 have hc := call_trunc n h
 go_enter Tryz.func145, Tryz.ntmps145
 go_wp2
 go_ret
 exact ⟨rfl, rfl⟩
theorem whole_yes (n a b : Int) (la lb : Nat) (hn : n.natAbs < 2 ^ 53) (ha : a.natAbs < 2 ^ 53) (hb : b.natAbs < 2 ^ 53) (ea : fl a = la) (eb : fl b = lb) (h0 : a ≤ n) (h1 : n ≤ b) (w : World) :
  Calls Tryz.prog 132 #[.float .f64 (fl n), .float .f64 la, .float .f64 lb] w fun e w' => e = .returned (.bool true) ∧ w = w' := by
 have hnn := ord_eq hn
 have h2 : FloatKind.f64.format.order (fl n) la = some .gt ∨ FloatKind.f64.format.order (fl n) la = some .eq := by
  rw [← ea]
  by_cases h : a = n
  ·subst h; exact .inr (ord_eq ha)
  ·exact .inl (ord_gt hn ha (by omega))
 have h3 : FloatKind.f64.format.order (fl n) lb = some .lt ∨ FloatKind.f64.format.order (fl n) lb = some .eq := by
  rw [← eb]
  by_cases h : n = b
  ·subst h; exact .inr (ord_eq hb)
  ·exact .inl (ord_lt hn hb (by omega))
 have HN := Lib.hid hn
 clear ea eb h0 h1 ha hb hn
 rcases h2 with h2 | h2 <;> rcases h3 with h3 | h3
 all_goals
  go_enter Tryz.func132, Tryz.ntmps132
  go_wp2_with (go_at_call 145; refine (trunc_any n HN.out _).mono ?_; rintro e w' ⟨rfl, rfl⟩)
  go_ret
  exact ⟨rfl, rfl⟩
theorem whole_no (n a b : Int) (la lb : Nat) (hn : n.natAbs < 2 ^ 53) (ha : a.natAbs < 2 ^ 53) (hb : b.natAbs < 2 ^ 53) (ea : fl a = la) (eb : fl b = lb) (h : n < a ∨ b < n) (w : World) :
  Calls Tryz.prog 132 #[.float .f64 (fl n), .float .f64 la, .float .f64 lb] w fun e w' => e = .returned (.bool false) ∧ w = w' := by
 by_cases hlt : n < a
 ·have h2 : FloatKind.f64.format.order (fl n) la = some .lt := by rw [← ea]; exact ord_lt hn ha hlt
  clear ea eb h ha hb hn hlt
  go_enter Tryz.func132, Tryz.ntmps132
  go_wp2
  go_ret
  exact ⟨rfl, rfl⟩
 ·have h3 : FloatKind.f64.format.order (fl n) lb = some .gt := by rw [← eb]; exact ord_gt hn hb (by omega)
  have h2 : FloatKind.f64.format.order (fl n) la = some .gt ∨ FloatKind.f64.format.order (fl n) la = some .eq := by
   rw [← ea]
   by_cases h : a = n
   ·subst h; exact .inr (ord_eq ha)
   ·exact .inl (ord_gt hn ha (by omega))
  clear ea eb h ha hb hn hlt
  rcases h2 with h2 | h2
  all_goals
   go_enter Tryz.func132, Tryz.ntmps132
   go_wp2
   go_ret
   exact ⟨rfl, rfl⟩
def Pl (p : Int × Int) : Prop := 0 ≤ p.1 ∧ p.1 ≤ 1048576 ∧ 0 ≤ p.2 ∧ p.2 ≤ 1048576
theorem isPlace_yes (p : Int × Int) (h : Pl p) (w : World) : Calls Tryz.prog 110 #[cv p] w fun e w' => e = .returned (.bool true) ∧ w = w' := by
 obtain ⟨x, y⟩ := p
 obtain ⟨h1, h2, h3, h4⟩ := h
 simp only at h1 h2 h3 h4
 have H1 := Lib.hid h1
 have H2 := Lib.hid h2
 have H3 := Lib.hid h3
 have H4 := Lib.hid h4
 clear h1 h2 h3 h4
 unfold cv
 go_enter Tryz.func110, Tryz.ntmps110
 go_wp2_with fail
 refine (whole_yes x 0 1048576 _ _ (by have := H1.out; have := H2.out; omega) (by decide) (by decide) fl0 flP H1.out H2.out _).mono ?_; rintro e w' ⟨rfl, rfl⟩
 go_wp2_with fail
 refine (whole_yes y 0 1048576 _ _ (by have := H3.out; have := H4.out; omega) (by decide) (by decide) fl0 flP H3.out H4.out _).mono ?_; rintro e w' ⟨rfl, rfl⟩
 go_wp2
 go_ret
 exact ⟨rfl, rfl⟩
theorem rightPart_yes (n : Int) (w : World) (h0 : 0 ≤ n) (h1 : n ≤ 1048576) : Calls Tryz.prog 86 #[.int .i64 n] w fun e w' => e = .returned (.bool true) ∧ w = w' := by
 go_enter Tryz.func86, Tryz.ntmps86
 go_wp2
 go_ret
 exact ⟨rfl, rfl⟩
theorem at_yes (v f : Int) (w : World) (h : Pl (v, f)) : Calls Tryz.prog 56 #[.int .i64 v, .int .i64 f] w fun e w' => e = .returned (.tuple #[cv (v, f), .int .i64 0]) ∧ w = w' := by
 obtain ⟨h1, h2, h3, h4⟩ := h
 simp only at h1 h2 h3 h4
 go_enter Tryz.func56, Tryz.ntmps56
 go_wp2_with (go_at_call 86; refine (rightPart_yes _ _ (by omega) (by omega)).mono ?_; rintro e w' ⟨rfl, rfl⟩)
 go_ret2
 exact ⟨rfl, rfl⟩
end Go.Proofs.YtminihiecloglaaGreat
namespace Go.Proofs.YtminihiecloglaaGreat
open Go.RowKit
open FlP
def GaP.add2 (p q : Int × Int) : Int × Int := (p.1 + q.1, p.2 + q.2)
def GaP.pos (p : Int × Int) (zs : List (Int × Int)) : Nat → Int × Int
 | 0 => p
 | k + 1 => GaP.add2 (GaP.pos p zs k) (GaP.at_ zs k)
def GaP.way (p : Int × Int) (zs : List (Int × Int)) (k : Nat) : List (Int × Int) := (List.range (k + 1)).map (GaP.pos p zs)
open GaP
end Go.Proofs.YtminihiecloglaaGreat
namespace FlP
open Ieee
end FlP
namespace Go.Proofs.YtminihiecloglaaGreat
open Go.RowKit
open FlP GaP
theorem conv_fl (n : Int) (h0 : -9007199254740992 < n) (h1 : n < 9007199254740992) (w : World) : (convert 132 3 (.float .f64 (fl n))).run Tryz.prog w = .ok (.int .i64 n) w :=
 run_convert_float_int w _ _ .f64 .i64 _ _ (by rw [Tryz.underlying132]; rfl) Tryz.underlying3 (by
  unfold floatToIntVal
  have e : (FloatKind.f64.decode (fl n)).toInt .zero = some n := toInt_fl .zero (by omega)
  rw [e]
  have e1 : IntKind.i64.min = -9223372036854775808 := by decide
  have e2 : IntKind.i64.max = 9223372036854775807 := by decide
  simp only
  rw [if_pos ⟨by rw [e1]; omega, by rw [e2]; omega⟩])
theorem parts_yes (p : Int × Int) (h : Pl p) (w : World) : Calls Tryz.prog 100 #[cv p] w fun e w' => e = .returned (.tuple #[.int .i64 p.1, .int .i64 p.2, .int .i64 0]) ∧ w = w' := by
 have HP := Lib.hid h
 obtain ⟨x, y⟩ := p
 obtain ⟨h1, h2, h3, h4⟩ := h
 simp only at h1 h2 h3 h4
 have c1 := conv_fl x (by omega) (by omega)
 have c2 := conv_fl y (by omega) (by omega)
 clear h1 h2 h3 h4
 have hcv : ∀ p, cv p = .complex .f64 (fl p.1) (fl p.2) := fun _ => rfl
 go_enter Tryz.func100, Tryz.ntmps100
 go_wp2_with fail
 refine (isPlace_yes (x, y) HP.out _).mono ?_; rintro e w' ⟨rfl, rfl⟩
 go_wp2
 go_ret3
 exact ⟨rfl, rfl⟩
end Go.Proofs.YtminihiecloglaaGreat
