/-
 MERGED: CPu CAt.
-/
import Derived.Test.YtminihiecloglaaGreatRHb
import Derived.Test.YtminihiecloglaaGreatDRow
import Derived.Test.YtminihiecloglaaGreatCMe
import Derived.Test.YtminihiecloglaaGreatSDa
set_option linter.unusedVariables false
set_option linter.unusedSimpArgs false
namespace Go.Proofs.YtminihiecloglaaGreat
open Go.RowKit
open SemP DiP
set_option maxRecDepth 10000
def fst1 {α : Type} (bad : α → Bool) (z : α) (f : Nat → α) : Nat → α
 | 0 => z
 | n + 1 => if bad (fst1 bad z f n) then fst1 bad z f n else if bad (f n) then f n else z
section
variable {α : Type} {bad : α → Bool} {z : α} {f : Nat → α}
theorem fst1_ok (hz : bad z = false) : ∀ {n : Nat}, (∀ j, j < n → bad (f j) = false) → fst1 bad z f n = z
 | 0, _ => rfl
 | n + 1, h => by
  have h1 := fst1_ok hz (n := n) (fun j hj => h j (by omega))
  unfold fst1
  rw [h1, hz, h n (by omega)]; rfl
theorem fst1_hit (hz : bad z = false) {k : Nat} (h : ∀ j, j < k → bad (f j) = false) (hb : bad (f k) = true) : ∀ {n : Nat}, k < n → fst1 bad z f n = f k
 | 0, hk => absurd hk (by omega)
 | n + 1, hk => by
  unfold fst1
  by_cases e : k = n
  ·subst e
   rw [fst1_ok hz h, hz, hb]; rfl
  ·rw [fst1_hit hz h hb (n := n) (by omega), hb]; rfl
theorem fst1_cases (hz : bad z = false) : ∀ n : Nat, (∃ k, k < n ∧ (∀ j, j < k → bad (f j) = false) ∧ bad (f k) = true ∧ fst1 bad z f n = f k) ∨ ((∀ j, j < n → bad (f j) = false) ∧ fst1 bad z f n = z)
 | 0 => .inr ⟨fun j hj => absurd hj (by omega), rfl⟩
 | n + 1 => by
  rcases fst1_cases hz n with ⟨k, hk, h1, h2, h3⟩ | ⟨h1, h2⟩
  ·exact .inl ⟨k, by omega, h1, h2, fst1_hit hz h1 h2 (by omega)⟩
  ·cases hb : bad (f n) with
   | true => exact .inl ⟨n, by omega, h1, hb, fst1_hit hz h1 hb (by omega)⟩
   | false =>
    have h3 : ∀ j, j < n + 1 → bad (f j) = false := fun j hj => by
     by_cases e : j = n
     ·subst e; exact hb
     ·exact h1 j (by omega)
    exact .inr ⟨h3, fst1_ok hz h3⟩
end
def badI (e : Int) : Bool := e != 0
theorem badI_yes {e : Int} : badI e = true ↔ e ≠ 0 := by simp [badI]
abbrev T3 := Int × Int × Int
def bad3 (t : T3) : Bool := t.2.2 != 0
theorem bad3_no {t : T3} : bad3 t = false ↔ t.2.2 = 0 := by simp [bad3]
theorem bad3_yes {t : T3} : bad3 t = true ↔ t.2.2 ≠ 0 := by simp [bad3]
def vOf (v : VrT) : Ver := ⟨v.1, v.2.1, v.2.2.1, bs v.2.2.2⟩
abbrev svAt (c : List Sv) (i : Nat) : Sv := c.getD i default
abbrev rlAt (l : List Rl) (v : Nat) : Rl := l.getD v default
def nameC (b : UInt8) : Bool := low b || dig b || b == 45
def nameB (l : Str) : Bool := !l.isEmpty && decide (l.length ≤ 20) && low (l.getD 0 0) && l.all nameC
def needE (N i : Nat) (l : List Nd) (n : Nat) : Int :=
 if ((pnAt l n).1 < 0 ∨ (N : Int) ≤ (pnAt l n).1) ∨ (pnAt l n).1 = (i : Int) then 33
 else if (l.take n).any (fun y => decide (y.1 = (pnAt l n).1)) then 31
 else if rightR (pnAt l n).2 then 0 else 12
def needsE (N i : Nat) (l : List Nd) : Int := fst1 badI 0 (needE N i l) l.length
def relE (N i : Nat) (rs : List Rl) (v : Nat) : Int :=
 if Ver.right (vOf (rlAt rs v).1) = false then 34
 else if 0 < v ∧ 0 ≤ cmpV (vOf (rlAt rs (v - 1)).1) (vOf (rlAt rs v).1) then 32
 else if (rlAt rs v).2.1 < (if 0 < v then (rlAt rs (v - 1)).2.1 else 0) ∨ 1000 < (rlAt rs v).2.1 then 35
 else if 8 < (rlAt rs v).2.2.length then 36
 else needsE N i (rlAt rs v).2.2
def svcE (c : List Sv) (i : Nat) : Int :=
 if nameB (bs (svAt c i).1) = false then 30
 else if (c.take i).any (fun o => decide (o.1 = (svAt c i).1)) then 31
 else if (svAt c i).2.length < 1 ∨ 12 < (svAt c i).2.length then 36 else 0
def relT (c : List Sv) (i v : Nat) : T3 := ((i : Int), (v : Int), relE c.length i (svAt c i).2 v)
def chkS (c : List Sv) (i : Nat) : T3 := if svcE c i ≠ 0 then ((i : Int), -1, svcE c i) else fst1 bad3 (0, 0, 0) (relT c i) (svAt c i).2.length
def asks (c : List Sv) (i : Nat) (j : Int) : Bool := (svAt c i).2.any (fun r => r.2.2.any (fun n => decide (n.1 = j)))
def grR (c : List Sv) (j k : Nat) : List (Nat × Nat) := ((List.range k).filter (fun i => asks c i (j : Int))).map (fun i => (j, i))
def grK (c : List Sv) : Nat → List (Nat × Nat)
 | 0 => []
 | j + 1 => grK c j ++ grR c j c.length
def grE (c : List Sv) : List (Nat × Nat) := grK c c.length
instance (b : Nat → Nat) (n k : Nat) : Decidable (Goes b n k) := inferInstanceAs (Decidable (_ = _))
def chkC (c : List Sv) : T3 :=
 if c.length < 1 ∨ 12 < c.length then (0, 0, 36)
 else if bad3 (fst1 bad3 (0, 0, 0) (chkS c) c.length) then fst1 bad3 (0, 0, 0) (chkS c) c.length
 else if Goes (befG (grE c)) c.length c.length then (0, 0, 0) else (0, 0, 21)
theorem grR_succ (c : List Sv) (j k : Nat) : grR c j (k + 1) = grR c j k ++ (if asks c k (j : Int) then [(j, k)] else []) := by
 unfold grR
 rw [List.range_succ, List.filter_append, List.map_append]
 congr 1
 by_cases h : asks c k (j : Int) = true
 ·simp [h]
 ·simp [h]
theorem grR_len (c : List Sv) (j : Nat) : ∀ k, (grR c j k).length ≤ k
 | 0 => by simp [grR]
 | k + 1 => by
  rw [grR_succ, List.length_append]
  have := grR_len c j k
  split <;> simp <;> omega
theorem grK_len (c : List Sv) : ∀ j, (grK c j).length ≤ j * c.length
 | 0 => by simp [grK]
 | j + 1 => by
  unfold grK
  rw [List.length_append, Nat.add_mul, Nat.one_mul]
  have h1 := grK_len c j
  have h2 := grR_len c j c.length
  omega
theorem grR_mem {c : List Sv} {j k : Nat} {e : Nat × Nat} (h : e ∈ grR c j k) : e.1 = j ∧ e.2 < k ∧ asks c e.2 (e.1 : Int) = true := by
 unfold grR at h
 obtain ⟨i, hi, rfl⟩ := List.mem_map.1 h
 obtain ⟨h1, h2⟩ := List.mem_filter.1 hi
 exact ⟨rfl, List.mem_range.1 h1, h2⟩
theorem grK_mem {c : List Sv} : ∀ {j : Nat} {e : Nat × Nat}, e ∈ grK c j → e.1 < j ∧ e.2 < c.length ∧ asks c e.2 (e.1 : Int) = true
 | 0, e, h => by simp [grK] at h
 | j + 1, e, h => by
  unfold grK at h
  rcases List.mem_append.1 h with h | h
  ·obtain ⟨h1, h2⟩ := grK_mem h; exact ⟨by omega, h2⟩
  ·obtain ⟨h1, h2⟩ := grR_mem h; exact ⟨by omega, h2⟩
theorem grE_inN (c : List Sv) : InN c.length (grE c) := fun k hk => by
 have hm : (grE c).getD k (0, 0) ∈ grE c := by simp [List.getD, hk]
 obtain ⟨h1, h2, _⟩ := grK_mem hm
 exact ⟨h1, h2⟩
/-! ### What fits -/
def isS (c : List Sv) (i : Int) : Bool := decide (0 ≤ i) && decide (i < (c.length : Int))
def isR (c : List Sv) (i v : Int) : Bool := isS c i && (decide (0 ≤ v) && decide (v < ((svAt c i.toNat).2.length : Int)))
def bearsB (c : List Sv) (i v j w : Int) : Bool := !((rlAt (svAt c i.toNat).2 v.toNat).2.2.any (fun n => decide (n.1 = j) && !hasR n.2 (vOf (rlAt (svAt c j.toNat).2 w.toNat).1)))
def fitsC (c : List Sv) (i v j w : Int) : Bool := decide (i ≠ j) && (isR c i v && (isR c j w && (bearsB c i v j w && bearsB c j w i v)))
theorem fitsC_swap (c : List Sv) (i v j w : Int) : fitsC c i v j w = fitsC c j w i v := by
 unfold fitsC
 have e : decide (i ≠ j) = decide (j ≠ i) := decide_eq_decide.2 ⟨fun h e => h e.symm, fun h e => h e.symm⟩
 rw [e]
 cases decide (j ≠ i) <;> cases isR c i v <;> cases isR c j w <;> cases bearsB c i v j w <;> cases bearsB c j w i v <;> rfl
end Go.Proofs.YtminihiecloglaaGreat
namespace Go.Proofs.YtminihiecloglaaGreat
open Go.RowKit
open SemP
set_option maxRecDepth 10000
structure CatAt (w : World) (B : Nat) (A : Option Addr) (n c : Nat) (l : List Sv) : Prop where
 rd : RdJ 2 svI w (fun b => B ≤ b) A n l
 cap : CapA A n c
 le : B ≤ w.heap.size
 sm : SmCat l
 len : LenAt w
 one : 1 < w.heap.size
theorem CatAt.below {w w' : World} {B n c : Nat} {A : Option Addr} {l : List Sv} (h : CatAt w B A n c l) (hb : Below w.heap.size w w') : CatAt w' B A n c l :=
 ⟨RdJ.below sv_turns h.rd (hb.mono h.le), h.cap, Nat.le_trans h.le hb.size, h.sm, (h.len.below h.one hb).1, (h.len.below h.one hb).2⟩
theorem CatAt.n16 {w : World} {B n c : Nat} {A : Option Addr} {l : List Sv} (h : CatAt w B A n c l) : n ≤ 16 := by have := h.rd.1; have := h.sm.1; omega
theorem sv_at {w : World} {B n : Nat} {A : Option Addr} {l : List Sv} (h : RdJ 2 svI w (fun b => B ≤ b) A n l) {i : Nat} (hi : i < n) : ∃ b off Aj nj cj, A = some ⟨b, off, none⟩ ∧ b < B ∧ w.cell? ⟨b, off + i * 2, none⟩ = some (.string (svAt l i).1) ∧ w.cell? ⟨b, off + i * 2 + 1, none⟩ = some (.slice Aj nj cj) ∧ CapA Aj nj cj ∧ RdJ 6 reI w (fun b => B ≤ b) Aj nj (svAt l i).2 := by
 obtain ⟨b, off, vs, e, hb, hnb, hlen, hc, hit⟩ := h.2 i hi
 obtain ⟨Aj, nj, cj, rfl, hcap, hr⟩ := hit.parts
 exact ⟨b, off, Aj, nj, cj, e, by omega, hc 0 _ rfl, hc 1 _ rfl, hcap, hr⟩
theorem rl_at {w : World} {B n : Nat} {A : Option Addr} {l : List Rl} (h : RdJ 6 reI w (fun b => B ≤ b) A n l) {i : Nat} (hi : i < n) : ∃ b off Aj nj cj, A = some ⟨b, off, none⟩ ∧ b < B ∧ w.cell? ⟨b, off + i * 6, none⟩ = some (.int .i64 (rlAt l i).1.1) ∧ w.cell? ⟨b, off + i * 6 + 1, none⟩ = some (.int .i64 (rlAt l i).1.2.1) ∧ w.cell? ⟨b, off + i * 6 + 2, none⟩ = some (.int .i64 (rlAt l i).1.2.2.1) ∧ w.cell? ⟨b, off + i * 6 + 3, none⟩ = some (.string (rlAt l i).1.2.2.2) ∧ w.cell? ⟨b, off + i * 6 + 4, none⟩ = some (.int .i64 (rlAt l i).2.1) ∧ w.cell? ⟨b, off + i * 6 + 5, none⟩ = some (.slice Aj nj cj) ∧ CapA Aj nj cj ∧ RdJ 2 pnI w (fun b => B ≤ b) Aj nj (rlAt l i).2.2 := by
 obtain ⟨b, off, vs, e, hb, hnb, hlen, hc, hit⟩ := h.2 i hi
 obtain ⟨Aj, nj, cj, rfl, hps⟩ := hit.parts
 exact ⟨b, off, Aj, nj, cj, e, by omega, hc 0 _ rfl, hc 1 _ rfl, hc 2 _ rfl, hc 3 _ rfl, hc 4 _ rfl, hc 5 _ rfl, hps.rd.1, hps.rd.2⟩
theorem nd_at {w : World} {B n : Nat} {A : Option Addr} {l : List Nd} (h : RdJ 2 pnI w (fun b => B ≤ b) A n l) {i : Nat} (hi : i < n) : ∃ b off Aj nj cj, A = some ⟨b, off, none⟩ ∧ b < B ∧ w.cell? ⟨b, off + i * 2, none⟩ = some (.int .i64 (pnAt l i).1) ∧ w.cell? ⟨b, off + i * 2 + 1, none⟩ = some (.slice Aj nj cj) ∧ CapA Aj nj cj ∧ RdR w B Aj nj (pnAt l i).2 := by
 obtain ⟨b, off, vs, e, hb, hnb, hlen, hc, hit⟩ := h.2 i hi
 obtain ⟨Aj, nj, cj, rfl, hcap, hr⟩ := hit.parts
 exact ⟨b, off, Aj, nj, cj, e, by omega, hc 0 _ rfl, hc 1 _ rfl, hcap, hr.r⟩
theorem svAt_mem {l : List Sv} {i : Nat} (h : i < l.length) : svAt l i ∈ l := getD_mem h
theorem rlAt_mem {l : List Rl} {i : Nat} (h : i < l.length) : rlAt l i ∈ l := getD_mem h
theorem SmR.fits {r : List (List CV)} (h : SmR r) : Fits r := fun l hl => ⟨fun x hx => by have := (h.2 l hl).2 x hx; omega, by have := (h.2 l hl).1; omega⟩
theorem RdJ.take {α : Type} [Inhabited α] {z : Nat} {I : ItT α} {w : World} {M : Nat → Prop} {A : Option Addr} {n k : Nat} {l : List α} (h : RdJ z I w M A n l) (hk : k ≤ n) : RdJ z I w M A k (l.take k) := ⟨by rw [List.length_take, h.1]; omega, fun j hj => by
 obtain ⟨b, off, vs, e, hb, hnb, hlen, hc, hit⟩ := h.2 j (by omega)
 refine ⟨b, off, vs, e, hb, hnb, hlen, hc, ?_⟩
 have e2 : (l.take k).getD j default = l.getD j default := by
  rw [List.getD_eq_getElem?_getD, List.getD_eq_getElem?_getD, List.getElem?_take, if_pos hj]
 rw [e2]; exact hit⟩
end Go.Proofs.YtminihiecloglaaGreat
