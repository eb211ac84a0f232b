/-
  A CATALOGUE IN MEMORY: what its cells hold.
-/
import Derived.Test.YtebflhlgcpbikaaGreatCPu
import Derived.Test.YtebflhlgcpbikaaGreatSBump
namespace Go.Proofs.YtebflhlgcpbikaaGreat
open Go.RowKit
open SemP
set_option linter.unusedVariables false
set_option linter.unusedSimpArgs false
set_option maxRecDepth 10000
/-- A catalogue of the program's reads as l, below B; and what the calls ask beside. -/
structure CatAt (w : World) (B : Nat) (A : Option Addr) (n c : Nat) (l : List Sv) : Prop where
  rd : RdJ 2 svI w (fun b => B ≤ b) A n l
  cap : CapA A n c
  le : B ≤ w.heap.size
  sm : SmCat l
  len : LenAt w
  one : 1 < w.heap.size
theorem CatAt.below {w w' : World} {B n c : Nat} {A : Option Addr} {l : List Sv} (h : CatAt w B A n c l) (hb : Below w.heap.size w w') : CatAt w' B A n c l :=
  ⟨RdJ.below sv_turns h.rd (hb.mono h.le), h.cap, Nat.le_trans h.le hb.size, h.sm, (h.len.below h.one hb).1, (h.len.below h.one hb).2⟩
theorem CatAt.n16 {w : World} {B n c : Nat} {A : Option Addr} {l : List Sv} (h : CatAt w B A n c l) : n ≤ 16 := by have := h.rd.1; have := h.sm.1; omega
/-- A service's two cells. -/
theorem sv_at {w : World} {B n : Nat} {A : Option Addr} {l : List Sv} (h : RdJ 2 svI w (fun b => B ≤ b) A n l) {i : Nat} (hi : i < n) : ∃ b off Aj nj cj, A = some ⟨b, off, none⟩ ∧ b < B ∧ w.cell? ⟨b, off + i * 2, none⟩ = some (.string (svAt l i).1) ∧ w.cell? ⟨b, off + i * 2 + 1, none⟩ = some (.slice Aj nj cj) ∧ CapA Aj nj cj ∧ RdJ 6 reI w (fun b => B ≤ b) Aj nj (svAt l i).2 := by
  obtain ⟨b, off, vs, e, hb, hnb, hlen, hc, hit⟩ := h.2 i hi
  obtain ⟨Aj, nj, cj, rfl, hcap, hr⟩ := hit.parts
  exact ⟨b, off, Aj, nj, cj, e, by omega, hc 0 _ rfl, hc 1 _ rfl, hcap, hr⟩
/-- A release's six cells. -/
theorem rl_at {w : World} {B n : Nat} {A : Option Addr} {l : List Rl} (h : RdJ 6 reI w (fun b => B ≤ b) A n l) {i : Nat} (hi : i < n) : ∃ b off Aj nj cj, A = some ⟨b, off, none⟩ ∧ b < B ∧ w.cell? ⟨b, off + i * 6, none⟩ = some (.int .i64 (rlAt l i).1.1) ∧ w.cell? ⟨b, off + i * 6 + 1, none⟩ = some (.int .i64 (rlAt l i).1.2.1) ∧ w.cell? ⟨b, off + i * 6 + 2, none⟩ = some (.int .i64 (rlAt l i).1.2.2.1) ∧ w.cell? ⟨b, off + i * 6 + 3, none⟩ = some (.string (rlAt l i).1.2.2.2) ∧ w.cell? ⟨b, off + i * 6 + 4, none⟩ = some (.int .i64 (rlAt l i).2.1) ∧ w.cell? ⟨b, off + i * 6 + 5, none⟩ = some (.slice Aj nj cj) ∧ CapA Aj nj cj ∧ RdJ 2 pnI w (fun b => B ≤ b) Aj nj (rlAt l i).2.2 := by
  obtain ⟨b, off, vs, e, hb, hnb, hlen, hc, hit⟩ := h.2 i hi
  obtain ⟨Aj, nj, cj, rfl, hps⟩ := hit.parts
  exact ⟨b, off, Aj, nj, cj, e, by omega, hc 0 _ rfl, hc 1 _ rfl, hc 2 _ rfl, hc 3 _ rfl, hc 4 _ rfl, hc 5 _ rfl, hps.rd.1, hps.rd.2⟩
/-- A need's two cells. -/
theorem nd_at {w : World} {B n : Nat} {A : Option Addr} {l : List Nd} (h : RdJ 2 pnI w (fun b => B ≤ b) A n l) {i : Nat} (hi : i < n) : ∃ b off Aj nj cj, A = some ⟨b, off, none⟩ ∧ b < B ∧ w.cell? ⟨b, off + i * 2, none⟩ = some (.int .i64 (pnAt l i).1) ∧ w.cell? ⟨b, off + i * 2 + 1, none⟩ = some (.slice Aj nj cj) ∧ CapA Aj nj cj ∧ RdR w B Aj nj (pnAt l i).2 := by
  obtain ⟨b, off, vs, e, hb, hnb, hlen, hc, hit⟩ := h.2 i hi
  obtain ⟨Aj, nj, cj, rfl, hcap, hr⟩ := hit.parts
  exact ⟨b, off, Aj, nj, cj, e, by omega, hc 0 _ rfl, hc 1 _ rfl, hcap, hr.r⟩
theorem svAt_mem {l : List Sv} {i : Nat} (h : i < l.length) : svAt l i ∈ l := getD_mem h
theorem rlAt_mem {l : List Rl} {i : Nat} (h : i < l.length) : rlAt l i ∈ l := getD_mem h
theorem SmR.fits {r : List (List CV)} (h : SmR r) : Fits r := fun l hl => ⟨fun x hx => by have := (h.2 l hl).2 x hx; omega, by have := (h.2 l hl).1; omega⟩
/-- s[:k]. -/
theorem slice_to {S E : TypeId} {z bytes : Nat} {zero : Value} (hu : Tryz.prog.underlying S = some (.slice (Tryz.prog.elem S))) (hel : Tryz.prog.elem S = E) (hinfo : (Tryz.prog.info? E).map (fun i => (i.zero, i.size, i.bytes)) = some (some zero, z, bytes)) {A : Option Addr} {n c : Nat} (h : CapA A n c) {q : Nat} (hq : q ≤ n) (w : World) :
    (Instr.slice S (.slice A n c) none (some (.int .i64 (q : Int))) none).run Tryz.prog w = .ok (.slice A q c) w := by
  have hqc : (q : Int) ≤ (c : Int) := by
    rcases h with ⟨_, h1, h2⟩ | ⟨_, _, h1, _⟩ <;> omega
  have hr := run_slice_h (P := Tryz.prog) w S A n c hu .i64 (q : Int) (by omega) hqc
  rw [hr]
  obtain ⟨i0, hi, hz0, hz1, hz2⟩ := info_parts hinfo
  rw [hel, show (sizeOf E).run Tryz.prog w = .ok i0.size w by simp [sizeOf, typeInfo, hi], hz1]
  rcases h with ⟨rfl, _, rfl⟩ | ⟨x, rfl, _, _⟩
  · simp [sliced, go_sem]
  · simp [sliced, go_sem]
theorem RdJ.take {α : Type} [Inhabited α] {z : Nat} {I : ItT α} {w : World} {M : Nat → Prop} {A : Option Addr} {n k : Nat} {l : List α} (h : RdJ z I w M A n l) (hk : k ≤ n) : RdJ z I w M A k (l.take k) := ⟨by rw [List.length_take, h.1]; omega, fun j hj => by
  obtain ⟨b, off, vs, e, hb, hnb, hlen, hc, hit⟩ := h.2 j (by omega)
  refine ⟨b, off, vs, e, hb, hnb, hlen, hc, ?_⟩
  have e2 : (l.take k).getD j default = l.getD j default := by
    rw [List.getD_eq_getElem?_getD, List.getD_eq_getElem?_getD, List.getElem?_take, if_pos hj]
  rw [e2]; exact hit⟩
theorem infoSvc : (Tryz.prog.info? 70).map (fun i => (i.zero, i.size, i.bytes)) = some (some (.agg #[.string ⟨#[]⟩, .slice none 0 0]), 2, 40) := by kernel_rfl
theorem infoNeed : (Tryz.prog.info? 84).map (fun i => (i.zero, i.size, i.bytes)) = some (some (.agg #[.int .i64 0, .slice none 0 0]), 2, 32) := by kernel_rfl
theorem slice_svc {A : Option Addr} {n c : Nat} (h : CapA A n c) {q : Nat} (hq : q ≤ n) (w : World) : (Instr.slice 22 (.slice A n c) none (some (.int .i64 (q : Int))) none).run Tryz.prog w = .ok (.slice A q c) w :=
  slice_to Tryz.underlying22 (by kernel_rfl) infoSvc h hq w
theorem slice_need {A : Option Addr} {n c : Nat} (h : CapA A n c) {q : Nat} (hq : q ≤ n) (w : World) : (Instr.slice 73 (.slice A n c) none (some (.int .i64 (q : Int))) none).run Tryz.prog w = .ok (.slice A q c) w :=
  slice_to Tryz.underlying73 (by kernel_rfl) infoNeed h hq w
end Go.Proofs.YtebflhlgcpbikaaGreat
