/-
  What DockApart's loop keeps, over this translation: each step of it.
-/
import Derived.Test.YtinphdphloddmabKAll
import Derived.Test.YtinphdphloddmabKWords
namespace Go.Proofs.Ytinphdphloddmab
open Go.RowKit
open ByteP
set_option linter.unusedVariables false
set_option maxRecDepth 10000

structure ApAt (wr w : World) (db mb : Nat) (xs : List Int) (n1 j : Nat) (F : Int → Option Fi) (nm : Nm) : Prop where
  dk : ∃ K, K ≤ 2 + 1000001 * j ∧ Dk wr db mb K nm F
  keep : ∃ f, F 500 = some f ∧ f.bs = xs ∧ f.n = n1 ∧ f.s = n1
  below : Below w.heap.size w wr
  mbge : w.heap.size ≤ mb
  small : ∀ k f, F k = some f → f.s ≤ f.n ∧ f.n ≤ 500 * (j + 1)
  cap : nm.cap = 1048576
  size0 : -(17000000000000 * ((j : Int) + 1)) ≤ nm.size
  size1 : nm.size ≤ 1048576
  left0 : -1 ≤ nm.left
  left1 : nm.left ≤ 9223372036854775807
theorem gd_left (n : Nm) (h : -1 ≤ n.left) : -1 ≤ (gd n).left ∧ (gd n).left ≤ n.left := by
  unfold gd
  by_cases h1 : n.left = -1
  · rw [if_pos h1]; omega
  · by_cases h2 : n.left = 0
    · rw [if_neg h1, if_pos h2]; simp only; omega
    · rw [if_neg h1, if_neg h2]; simp only; omega
section
variable {wr w w' : World} {db mb n1 j K : Nat} {F : Int → Option Fi} {nm : Nm} {xs : List Int}
theorem ApAt.alloc (h : ApAt wr w db mb xs n1 j F nm) (o : Obj) : ApAt (wr.alloc o) w db mb xs n1 j F nm := by
  obtain ⟨K, hK, hd⟩ := h.dk
  exact ⟨⟨K, hK, hd.alloc o⟩, h.keep, h.below.alloc h.below.size _, h.mbge, h.small, h.cap, h.size0, h.size1, h.left0, h.left1⟩
/-- Nothing of the dock's turned. -/
theorem ApAt.same (h : ApAt wr w db mb xs n1 j F nm) (hb : Below wr.heap.size wr w') : ApAt w' w db mb xs n1 (j + 1) F nm := by
  obtain ⟨K, hK, hd⟩ := h.dk
  exact ⟨⟨K, by omega, hd.below hb⟩, h.keep, h.below.trans (hb.mono h.below.size), h.mbge, fun k f hf => by have := h.small k f hf; omega, h.cap, by have := h.size0; omega, h.size1, h.left0, h.left1⟩
/-- Its numbers turned alone. -/
theorem ApAt.nums (h : ApAt wr w db mb xs n1 j F nm) {nm' : Nm} (hK : K ≤ 2 + 1000001 * j) (hd : Dk w' db mb K nm' F) (hb : Below w.heap.size w w') (hc : nm'.cap = nm.cap) (hs : nm'.size = nm.size) (hl0 : -1 ≤ nm'.left) (hl1 : nm'.left ≤ 9223372036854775807) : ApAt w' w db mb xs n1 (j + 1) F nm' :=
  ⟨⟨K, by omega, hd⟩, h.keep, hb, h.mbge, fun k f hf => by have := h.small k f hf; omega, hc.trans h.cap, by rw [hs]; have := h.size0; omega, by rw [hs]; exact h.size1, hl0, hl1⟩
/-- A file turned. -/
theorem ApAt.put (h : ApAt wr w db mb xs n1 j F nm) {nm' : Nm} {k : Int} (hk : k ≠ 500) {f' : Fi} (hK : K ≤ 3 + 1000001 * j) (hd : Dk w' db mb K nm' (putF F k f')) (hf' : f'.s ≤ f'.n ∧ f'.n ≤ 500 * (j + 2)) (hb : Below w.heap.size w w') (hc : nm'.cap = nm.cap)
    (hs0 : nm.size - 16777216 ≤ nm'.size) (hs1 : nm'.size ≤ 1048576) (hl0 : -1 ≤ nm'.left) (hl1 : nm'.left ≤ 9223372036854775807) : ApAt w' w db mb xs n1 (j + 1) (putF F k f') nm' := by
  refine ⟨⟨K, by omega, hd⟩, ?_, hb, h.mbge, fun k' f hf => ?_, hc.trans h.cap, by have := h.size0; omega, hs1, hl0, hl1⟩
  · obtain ⟨f, h1, h2⟩ := h.keep
    exact ⟨f, by rw [putF_other _ _ (fun e => hk e.symm)]; exact h1, h2⟩
  · by_cases e : k' = k
    · subst e
      rw [putF_same] at hf
      injection hf with hf
      subst hf
      exact hf'
    · rw [putF_other _ _ e] at hf
      have := h.small k' f hf; omega

theorem ApAt.append (h : ApAt wr w db mb xs n1 j F nm) (hj : j ≤ 60) {k : Int} (hk : k ≠ 500) {D : Option Addr} {m d : Nat} {ys : List Int} (hy : RdY w w.heap.size D m ys) (hby : Bytes ys) (hm : m ≤ 500) :
    Calls Try.prog 11 #[.pointer (some ⟨db, 0, none⟩), .int .i64 k, .slice D m d] wr fun e w' => (∃ z, e = .returned (.int .i64 z)) ∧ ∃ F' nm', ApAt w' w db mb xs n1 (j + 1) F' nm' := by
  obtain ⟨K, hK, hd⟩ := h.dk
  have hs0 := h.size0
  have hs1 := h.size1
  have hl0 := h.left0
  have hl1 := h.left1
  cases hdn : nm.down with
  | true =>
    refine (append_down hd hdn k D m d).mono ?_
    rintro e w' ⟨rfl, rfl⟩
    exact ⟨⟨_, rfl⟩, F, nm, h.same (Below.refl _ _)⟩
  | false =>
    by_cases hn : k < 0 ∨ 999999 < k
    · refine (append_name hd hdn hn D m d).mono ?_
      rintro e w' ⟨rfl, rfl⟩
      exact ⟨⟨_, rfl⟩, F, nm, h.same (Below.refl _ _)⟩
    · by_cases hfull : nm.cap < nm.size + (m : Int)
      · refine (append_full hd hdn (by omega) (by omega) D m d (by omega) (by omega) (by omega) hfull).mono ?_
        rintro e w' ⟨rfl, q, rfl⟩
        exact ⟨⟨_, rfl⟩, F, nm, h.same ⟨rfl, rfl, rfl, Nat.le_refl _, fun _ _ => rfl⟩⟩
      · have hfa : (fileAt F k).s ≤ (fileAt F k).n ∧ (fileAt F k).n ≤ 500 * (j + 1) := by
          cases hf : F k with
          | none => rw [show fileAt F k = noFi by unfold fileAt; rw [hf]; rfl]; exact ⟨Nat.le_refl _, Nat.zero_le _⟩
          | some f => rw [show fileAt F k = f by unfold fileAt; rw [hf]; rfl]; exact h.small k f hf
        have hrk : RdK wr (Mine db mb F) D m ys := RdK.of_rd (hy.below h.below) h.below.size (fun b hb => hd.low (by have := h.mbge; omega))
        refine (append_any (k := k) hd (by omega) hdn hl0 hl1 (by omega) (by have := h.cap; omega) (by omega) (by omega) hrk hby (by omega) (by omega)).mono ?_
        rintro e w' ⟨rfl, f', hbs, hfn, hfs, hk', hfr', _⟩
        have hgl := gd_left nm hl0
        have hgs := gd_size nm
        refine ⟨⟨_, rfl⟩, _, _, h.put hk (K := K + 1) (by omega) hk' (by omega) (h.below.trans ((hfr'.below hd).mono h.mbge)) hgs.2 (by simp only; omega) (by simp only; have := h.cap; omega) hgl.1 (by simp only; omega)⟩
theorem ApAt.sync (h : ApAt wr w db mb xs n1 j F nm) (hj : j ≤ 60) {k : Int} (hk : k ≠ 500) (hk0 : -9223372036854775808 ≤ k) (hk1 : k ≤ 9223372036854775807) :
    Calls Try.prog 13 #[.pointer (some ⟨db, 0, none⟩), .int .i64 k] wr fun e w' => (∃ z, e = .returned (.int .i64 z)) ∧ ∃ F' nm', ApAt w' w db mb xs n1 (j + 1) F' nm' := by
  obtain ⟨K, hK, hd⟩ := h.dk
  have hs0 := h.size0
  have hs1 := h.size1
  have hl0 := h.left0
  have hl1 := h.left1
  have hgl := gd_left nm hl0
  have hgs := gd_size nm
  cases hdn : nm.down with
  | true =>
    refine (sync_down hd hdn k).mono ?_
    rintro e w' ⟨rfl, hb⟩
    exact ⟨⟨_, rfl⟩, F, nm, h.same hb⟩
  | false =>
    cases hf : F k with
    | none =>
      refine (sync_none hd hdn hk0 hk1 hf).mono ?_
      rintro e w' ⟨rfl, hb⟩
      exact ⟨⟨_, rfl⟩, F, nm, h.same hb⟩
    | some f =>
      by_cases hz : nm.left = 0
      · refine (sync_now hd hdn hz hk0 hk1 hf).mono ?_
        rintro e w' ⟨rfl, hk', hfr'⟩
        exact ⟨⟨_, rfl⟩, F, _, h.nums hK hk' (h.below.trans ((hfr'.below hd).mono h.mbge)) hgs.2 hgs.1 hgl.1 (by omega)⟩
      · refine (sync_ok hd (by omega) hdn hl0 hl1 hz hf).mono ?_
        rintro e w' ⟨rfl, hk', hfr'⟩
        have := h.small k f hf
        exact ⟨⟨_, rfl⟩, _, _, h.put hk (K := K + 1) (by omega) hk' (by simp only; omega) (h.below.trans ((hfr'.below hd).mono h.mbge)) hgs.2 (by rw [hgs.1]; omega) (by rw [hgs.1]; omega) hgl.1 (by omega)⟩
theorem ApAt.remove (h : ApAt wr w db mb xs n1 j F nm) (hj : j ≤ 60) {k : Int} (hk : k ≠ 500) (hk0 : -9223372036854775808 ≤ k) (hk1 : k ≤ 9223372036854775807) :
    Calls Try.prog 18 #[.pointer (some ⟨db, 0, none⟩), .int .i64 k] wr fun e w' => (∃ z, e = .returned (.int .i64 z)) ∧ ∃ F' nm', ApAt w' w db mb xs n1 (j + 1) F' nm' := by
  obtain ⟨K, hK, hd⟩ := h.dk
  have hs0 := h.size0
  have hs1 := h.size1
  have hl0 := h.left0
  have hl1 := h.left1
  have hgl := gd_left nm hl0
  have hgs := gd_size nm
  cases hdn : nm.down with
  | true =>
    refine (remove_down hd hdn k).mono ?_
    rintro e w' ⟨rfl, hb⟩
    exact ⟨⟨_, rfl⟩, F, nm, h.same hb⟩
  | false =>
    cases hf : F k with
    | none =>
      refine (remove_none hd hdn hk0 hk1 hf).mono ?_
      rintro e w' ⟨rfl, hb⟩
      exact ⟨⟨_, rfl⟩, F, nm, h.same hb⟩
    | some f =>
      by_cases hz : nm.left = 0
      · refine (remove_now hd hdn hz hf).mono ?_
        rintro e w' ⟨rfl, hk', hfr'⟩
        exact ⟨⟨_, rfl⟩, F, _, h.nums hK hk' (h.below.trans ((hfr'.below hd).mono h.mbge)) hgs.2 hgs.1 hgl.1 (by omega)⟩
      · have hsm := h.small k f hf
        refine (remove_ok hd hdn hl0 hl1 hz (by omega) (by omega) hf).mono ?_
        rintro e w' ⟨rfl, hk', hfr'⟩
        refine ⟨⟨_, rfl⟩, _, _, ⟨K, by omega, hk'⟩, ?_, h.below.trans ((hfr'.below hd).mono h.mbge), h.mbge, fun k' f' hf' => ?_, hgs.2.trans h.cap, by simp only; omega, by simp only; omega, hgl.1, by simp only; omega⟩
        · obtain ⟨f0, h1, h2⟩ := h.keep
          exact ⟨f0, by unfold delF; rw [if_neg (fun e => hk e.symm)]; exact h1, h2⟩
        · unfold delF at hf'
          by_cases e : k' = k
          · rw [if_pos e] at hf'; cases hf'
          · rw [if_neg e] at hf'; have := h.small k' f' hf'; omega
theorem ApAt.cut (h : ApAt wr w db mb xs n1 j F nm) (hj : j ≤ 60) {k : Int} (hk : k ≠ 500) (hk0 : -9223372036854775808 ≤ k) (hk1 : k ≤ 9223372036854775807) (p : Int) :
    Calls Try.prog 20 #[.pointer (some ⟨db, 0, none⟩), .int .i64 k, .int .i64 p] wr fun e w' => (∃ z, e = .returned (.int .i64 z)) ∧ ∃ F' nm', ApAt w' w db mb xs n1 (j + 1) F' nm' := by
  obtain ⟨K, hK, hd⟩ := h.dk
  have hs0 := h.size0
  have hs1 := h.size1
  have hl0 := h.left0
  have hl1 := h.left1
  have hgl := gd_left nm hl0
  have hgs := gd_size nm
  cases hdn : nm.down with
  | true =>
    refine (cut_down hd hdn k p).mono ?_
    rintro e w' ⟨rfl, hb⟩
    exact ⟨⟨_, rfl⟩, F, nm, h.same hb⟩
  | false =>
    cases hf : F k with
    | none =>
      refine (cut_none hd hdn hk0 hk1 hf p).mono ?_
      rintro e w' ⟨rfl, hb⟩
      exact ⟨⟨_, rfl⟩, F, nm, h.same hb⟩
    | some f =>
      by_cases hp : p < 0 ∨ (f.n : Int) < p
      · refine (cut_big hd hdn hf hp).mono ?_
        rintro e w' ⟨rfl, hb⟩
        exact ⟨⟨_, rfl⟩, F, nm, h.same hb⟩
      · obtain ⟨q, rfl⟩ : ∃ q : Nat, p = (q : Int) := ⟨p.toNat, by omega⟩
        have hq : q ≤ f.n := by omega
        by_cases hz : nm.left = 0
        · refine (cut_now hd hdn hz hf hq).mono ?_
          rintro e w' ⟨rfl, hk', hfr'⟩
          exact ⟨⟨_, rfl⟩, F, _, h.nums hK hk' (h.below.trans ((hfr'.below hd).mono h.mbge)) hgs.2 hgs.1 hgl.1 (by omega)⟩
        · have hsm := h.small k f hf
          refine (cut_ok hd (by omega) hdn hl0 hl1 hz (by omega) (by omega) hf hq).mono ?_
          rintro e w' ⟨rfl, hk', hfr'⟩
          exact ⟨⟨_, rfl⟩, _, _, h.put hk (K := K + 1) (by omega) hk' (by show min f.s q ≤ q ∧ q ≤ _; omega) (h.below.trans ((hfr'.below hd).mono h.mbge)) hgs.2 (by simp only; omega) (by simp only; omega) hgl.1 (by simp only; omega)⟩
theorem ApAt.arm (h : ApAt wr w db mb xs n1 j F nm) (x : Int) (hx : x ≤ 9223372036854775807) :
    Calls Try.prog 12 #[.pointer (some ⟨db, 0, none⟩), .int .i64 x] wr fun e w' => e = .returned (.tuple #[]) ∧ ∃ F' nm', ApAt w' w db mb xs n1 (j + 1) F' nm' := by
  obtain ⟨K, hK, hd⟩ := h.dk
  refine (arm_any hd x).mono ?_
  rintro e w' ⟨rfl, hk', hfr'⟩
  exact ⟨rfl, F, _, h.nums hK hk' (h.below.trans ((hfr'.below hd).mono h.mbge)) rfl rfl (by simp only; omega) (by simp only; omega)⟩
theorem ApAt.crash (h : ApAt wr w db mb xs n1 j F nm) (hj : j ≤ 60) {A : Option Addr} {m c : Nat} {ks : List Int} (hks : Rd w w.heap.size A m ks) (hm : m ≤ 1099511627776) :
    Calls Try.prog 15 #[.pointer (some ⟨db, 0, none⟩), .slice A m c] wr fun e w' => e = .returned (.tuple #[]) ∧ ∃ F' nm', ApAt w' w db mb xs n1 (j + 1) F' nm' ∧ nm'.down = false := by
  obtain ⟨K, hK, hd⟩ := h.dk
  have hs0 := h.size0
  have hs1 := h.size1
  have hrz : RdZ wr (Mine db mb F) A m ks := RdZ.of_rd (hks.below h.below) h.below.size (fun b hb => hd.low (by have := h.mbge; omega))
  refine (crash_any hd (by omega) (by omega) (by omega) hrz hm).mono ?_
  rintro e w' ⟨rfl, ns, hasc, hmem, hnl, hk', hfr', hmi⟩
  have hin : ∀ x, x ∈ ns → (F x).isSome = true := fun x hx => (hmem x).1 hx
  have hlen := asc_len ns 0 hasc (fun x hx => by
    obtain ⟨f, hf⟩ := Option.isSome_iff_exists.1 (hin x hx)
    have := hd.good x f hf
    omega)
  have hdd := crK_d (ks := ks) hin (fun k f hf => by have := hd.good k f hf; omega) ns.length (Nat.le_refl _)
  refine ⟨rfl, _, _, ⟨⟨K + ns.length, by omega, hk'⟩, ?_, h.below.trans ((hfr'.below hd).mono h.mbge), h.mbge, fun k f hf => ?_, h.cap, by simp only; omega, by simp only; omega, by simp only; omega, by simp only; omega⟩, rfl⟩
  · obtain ⟨f0, h1, h2, h3, h4⟩ := h.keep
    exact ⟨f0, crK_keep h1 (by omega) _, h2, h3, h4⟩
  · have := crK_less (ks := ks) hin h.small ns.length (Nat.le_refl _) k f hf
    omega
end
end Go.Proofs.Ytinphdphloddmab
