/-
  The document's function anchor of layer 13, over this translation; a slice of bytes read as a string.
-/
import Derived.Test.YtfpcfbolpnfacaaKCrash
import Derived.Laws.BytesArg
import Derived.Lib.SlBytesConst
namespace Go.Proofs.Ytfpcfbolpnfacaa
open Go.RowKit
open ByteP
set_option linter.unusedVariables false
set_option maxRecDepth 10000

theorem str_run {w : World} {B n c : Nat} {A : Option Addr} {xs : List Int} (h : RdY w B A n xs) : (convert 30 9 (.slice A n c)).run Try.prog w = .ok (.string (strOfNums xs)) w := by
  by_cases hn : 0 < n
  · obtain ⟨b, off, rfl, hb, hc⟩ := h.2 hn
    exact run_convert_bytes_arg w 30 5 Try.underlying30 Try.underlying5 b off n c xs h.1 (fun i hi => hc i hi) 9 Try.underlying9
  · obtain rfl : n = 0 := by omega
    have hx : xs = [] := List.eq_nil_of_length_eq_zero h.1
    subst hx
    cases A with
    | none => exact run_convert_bytes_nil w 30 5 Try.underlying30 Try.underlying5 0 c 9 Try.underlying9
    | some a =>
      rw [run_convert_bytes_string w 30 9 5 _ 0 c Try.underlying30 Try.underlying5 Try.underlying9, run_bytesToString w a 0 c [] (by simpa using run_loadCells_list (P := Try.prog) w a [] (fun j v hj => by simp at hj))]
      rfl
theorem strOf_append (xs ys : List Int) : strOfNums (xs ++ ys) = strOfNums xs ++ strOfNums ys := by
  apply ByteArray.ext
  simp [strOfNums]

theorem rdk_new {w : World} {db mb K : Nat} {n : Nm} {F : Int → Option Fi} (h : Dk w db mb K n F) (T : TypeId) (ys : List Int) (cs : Array Value) (hcs : cs = (ys.map (Value.int .u8)).toArray) (fr : Nat × Nat) :
    RdK (w.alloc (.cells cs T fr)) (Mine db mb F) (some ⟨w.heap.size, 0, none⟩) ys.length ys := by
  subst hcs
  refine ⟨rfl, fun _ => ⟨w.heap.size, 0, rfl, by simp, h.notMine (Nat.le_refl _), fun j hj => ?_⟩⟩
  have hb := heap_alloc_new w (.cells (ys.map (Value.int .u8)).toArray T fr)
  simp only [World.cell?, hb, Nat.zero_add]
  simp [ix, List.getD, hj]
theorem rdz_new {w : World} {db mb K : Nat} {n : Nm} {F : Int → Option Fi} (h : Dk w db mb K n F) (T : TypeId) (ys : List Int) (cs : Array Value) (hcs : cs = (ys.map (Value.int .i64)).toArray) :
    RdZ (w.alloc (.cells cs T)) (Mine db mb F) (some ⟨w.heap.size, 0, none⟩) ys.length ys := by
  subst hcs
  refine ⟨rfl, fun _ => ⟨w.heap.size, 0, rfl, by simp, h.notMine (Nat.le_refl _), fun j hj => ?_⟩⟩
  have hb := heap_alloc_new w (.cells (ys.map (Value.int .i64)).toArray T)
  simp only [World.cell?, hb, Nat.zero_add]
  simp [ix, List.getD, hj]

theorem asc_ext : ∀ {a b : List Int}, Asc a → Asc b → (∀ x, x ∈ a ↔ x ∈ b) → a = b
  | [], [], _, _, _ => rfl
  | [], y :: b, _, _, h => by have := (h y).2 (by simp); simp at this
  | x :: a, [], _, _, h => by have := (h x).1 (by simp); simp at this
  | x :: a, y :: b, ha, hb, h => by
    have ha' := List.pairwise_cons.1 ha
    have hb' := List.pairwise_cons.1 hb
    have exy : x = y := by
      have h1 := (h x).1 (by simp)
      have h2 := (h y).2 (by simp)
      simp only [List.mem_cons] at h1 h2
      rcases h1 with e | e
      · exact e
      · rcases h2 with e' | e'
        · exact e'.symm
        · have := ha'.1 y e'; have := hb'.1 x e; omega
    subst exy
    rw [asc_ext ha'.2 hb'.2 (fun z => by
      have hz := h z
      simp only [List.mem_cons] at hz
      constructor
      · intro hm
        rcases hz.1 (.inr hm) with e | e
        · subst e; have := ha'.1 z hm; omega
        · exact e
      · intro hm
        rcases hz.2 (.inr hm) with e | e
        · subst e; have := hb'.1 z hm; omega
        · exact e)]

theorem putF_same (F : Int → Option Fi) (k : Int) (f : Fi) : putF F k f k = some f := by unfold putF; rw [if_pos rfl]
theorem putF_other (F : Int → Option Fi) {k x : Int} (f : Fi) (h : x ≠ k) : putF F k f x = F x := by unfold putF; rw [if_neg h]
theorem bytes_lit {xs : List Int} (h : ∀ x, x ∈ xs → 0 ≤ x ∧ x ≤ 255) : Bytes xs := fun i => by
  by_cases hi : i < xs.length
  · exact h _ (ix_mem hi)
  · have e : ix xs i = 0 := by unfold ix; rw [List.getD_eq_getElem?_getD, List.getElem?_eq_none (by omega)]; rfl
    rw [e]; omega
theorem gd_off (n : Nm) (h : n.left = -1) : gd n = n := by unfold gd; rw [if_pos h]

theorem anch_crash {F : Int → Option Fi} {f1 f3 : Fi} (h1 : F 1 = some f1) (h3 : F 3 = some f3) (a1 : f1.s = 0) (b1 : f1.n = 1) (a3 : f3.s = 3) (b3 : f3.n = 5) :
    (crK F [0, 1] [1, 3] 2).F 1 = some (cutTo f1 0 0) ∧ (crK F [0, 1] [1, 3] 2).F 3 = some (cutTo f3 4 4) ∧ (crK F [0, 1] [1, 3] 2).d = -2 := by
  have k1 : kpt [0, 1] 0 f1 = 0 := by unfold kpt; rw [a1, b1]; decide
  have k3 : kpt [0, 1] 1 f3 = 1 := by unfold kpt; rw [a3, b3]; decide
  have e1 : crK F [0, 1] [1, 3] 1 = ⟨putF F 1 (cutTo f1 0 0), -1, 1⟩ := by
    show crS [0, 1] (1 : Int) ⟨F, 0, 0⟩ = _
    rw [crS_cut (f := f1) h1 (by omega), k1, a1, b1]
    rfl
  have e2 : crK F [0, 1] [1, 3] 2 = ⟨putF (putF F 1 (cutTo f1 0 0)) 3 (cutTo f3 4 4), -2, 2⟩ := by
    show crS [0, 1] (3 : Int) (crK F [0, 1] [1, 3] 1) = _
    rw [e1, crS_cut (f := f3) ((show putF F 1 (cutTo f1 0 0) 3 = _ from (putF_other F (k := 1) (x := 3) _ (by decide)).trans h3)) (by omega), k3, a3, b3]
    rfl
  rw [e2]
  exact ⟨(show putF (putF F 1 (cutTo f1 0 0)) 3 (cutTo f3 4 4) 1 = _ from by rw [putF_other _ (k := 3) (x := 1) _ (by decide), putF_same]), (show putF (putF F 1 (cutTo f1 0 0)) 3 (cutTo f3 4 4) 3 = _ from putF_same _ _ _), rfl⟩

set_option maxHeartbeats 4000000 in
theorem anchor_any (w : World) : Calls Try.prog 4 #[] w fun e w' => e = .returned (.bool true) ∧ Below w.heap.size w w' := by
  have kc := fun (w : World) (C : Array Value) (n c : Nat) => Lib.run_convert_bytes_const (P := Try.prog) w 30 5 C n c Try.underlying30 Try.underlying5
  go_enter Try.func4, Try.ntmps4
  go_wp2_with fail
  refine (new_any w 10 (by omega) (by omega)).mono ?_
  rintro e w1 ⟨db, mb, rfl, hmb, hk1, hb1⟩
  have H1 := Lib.hid hk1
  have HB1 := Lib.hid hb1
  have HY1 : Hid (RdK (w1.alloc (.cells #[.int .u8 97, .int .u8 98, .int .u8 99] 5 (3, 4))) (Mine db mb (fun _ => none)) (some ⟨w1.heap.size, 0, none⟩) 3 [97, 98, 99]) := Lib.hid (rdk_new hk1 5 [97, 98, 99] _ rfl _)
  have HMB := Lib.hid hmb
  clear hk1 hb1 hmb
  go_wp2_with fail
  refine (append_any (k := 3) (H1.out.alloc _) (by omega) rfl (by decide) (by decide) (by decide) (by decide) (by decide) (by decide) HY1.out (bytes_lit (by decide)) (by decide) (by decide)).mono ?_
  rintro e w2 ⟨rfl, f1, hbs1, hn1, hs1, hk2, hfr2, hmi2⟩
  have H2 : Hid (Dk w2 db mb 1 ⟨10, 3, -1, false⟩ (putF (fun _ => none) 3 f1)) := Lib.hid hk2
  have HB2 : Hid (Below w.heap.size w w2) := Lib.hid (HB1.out.trans ((((Below.refl _ _).alloc (by have := HB1.out.size; omega) _).trans ((hfr2.below (H1.out.alloc _)).mono HMB.out))))
  have HF1 : Hid (f1.bs = [97, 98, 99] ∧ f1.n = 3 ∧ f1.s = 0) := Lib.hid ⟨hbs1, hn1, hs1⟩
  clear hbs1 hn1 hs1 hk2 hfr2 hmi2
  go_wp2_with fail
  refine (sync_ok (k := 3) H2.out (by omega) rfl (by decide) (by decide) (by decide) (putF_same _ _ _)).mono ?_
  rintro e w3 ⟨rfl, hk3, hfr3⟩
  have H3 : Hid (Dk w3 db mb 2 ⟨10, 3, -1, false⟩ (putF (putF (fun _ => none) 3 f1) 3 { f1 with s := f1.n })) := Lib.hid hk3
  have HB3 : Hid (Below w.heap.size w w3) := Lib.hid (HB2.out.trans ((hfr3.below H2.out).mono HMB.out))
  have HY3 : Hid (RdK (w3.alloc (.cells #[.int .u8 100, .int .u8 101] 5 (2, 3))) (Mine db mb (putF (putF (fun _ => none) 3 f1) 3 { f1 with s := f1.n })) (some ⟨w3.heap.size, 0, none⟩) 2 [100, 101]) := Lib.hid (rdk_new hk3 5 [100, 101] _ rfl _)
  have HA3 : Hid (fileAt (putF (putF (fun _ => none) 3 f1) 3 { f1 with s := f1.n }) 3 = { f1 with s := f1.n }) := Lib.hid (by unfold fileAt; rw [putF_same]; rfl)
  clear hk3 hfr3
  go_wp2_with fail
  refine (append_any (k := 3) (H3.out.alloc _) (by omega) rfl (by decide) (by decide) (by decide) (by decide) (by decide) (by decide) HY3.out (bytes_lit (by decide)) (by decide) (by rw [HA3.out]; have := HF1.out; simp only; omega)).mono ?_
  rintro e w4 ⟨rfl, f3, hbs3, hn3, hs3, hk4, hfr4, hmi4⟩
  rw [HA3.out] at hbs3 hn3 hs3
  have HF3 : Hid (f3.bs = [97, 98, 99, 100, 101] ∧ f3.n = 5 ∧ f3.s = 3) := Lib.hid ⟨by rw [hbs3]; simp only; rw [HF1.out.1]; rfl, by rw [hn3]; simp only; have := HF1.out; omega, by rw [hs3]; simp only; have := HF1.out; omega⟩
  obtain ⟨F3, HF3e⟩ : ∃ F3, Hid (F3 = putF (putF (putF (fun _ => none) 3 f1) 3 { f1 with s := f1.n }) 3 f3) := ⟨_, Lib.hid rfl⟩
  rw [← HF3e.out] at hk4
  have H4 : Hid (Dk w4 db mb 3 ⟨10, 5, -1, false⟩ F3) := Lib.hid hk4
  have HB4 : Hid (Below w.heap.size w w4) := Lib.hid (HB3.out.trans ((((Below.refl _ _).alloc (by have := HB3.out.size; omega) _).trans ((hfr4.below (H3.out.alloc _)).mono HMB.out))))
  have HY4 : Hid (RdK (w4.alloc (.cells #[.int .u8 102] 5 (1, 2))) (Mine db mb F3) (some ⟨w4.heap.size, 0, none⟩) 1 [102]) := Lib.hid (rdk_new hk4 5 [102] _ rfl _)
  have HE3 : Hid (F3 3 = some f3) := Lib.hid (by rw [HF3e.out]; exact putF_same _ _ _)
  have HM3 : Hid (∀ x, x ≠ 3 → F3 x = none) := Lib.hid (fun x hx => by rw [HF3e.out, putF_other _ _ hx, putF_other _ _ hx, putF_other _ _ hx])
  have HA4 : Hid (fileAt F3 1 = noFi) := Lib.hid (by unfold fileAt; rw [HM3.out 1 (by decide)]; rfl)
  clear hbs3 hn3 hs3 hk4 hfr4 hmi4 HF3e
  go_wp2_with fail
  refine (append_any (k := 1) (H4.out.alloc _) (by omega) rfl (by decide) (by decide) (by decide) (by decide) (by decide) (by decide) HY4.out (bytes_lit (by decide)) (by decide) (by rw [HA4.out]; decide)).mono ?_
  rintro e w5 ⟨rfl, f4, hbs4, hn4, hs4, hk5, hfr5, hmi5⟩
  rw [HA4.out] at hbs4 hn4 hs4
  have HF4 : Hid (f4.n = 1 ∧ f4.s = 0) := Lib.hid ⟨hn4, hs4⟩
  obtain ⟨F4, HF4e⟩ : ∃ F4, Hid (F4 = putF F3 1 f4) := ⟨_, Lib.hid rfl⟩
  rw [← HF4e.out] at hk5
  have H5 : Hid (Dk w5 db mb 4 ⟨10, 6, -1, false⟩ F4) := Lib.hid hk5
  have HB5 : Hid (Below w.heap.size w w5) := Lib.hid (HB4.out.trans ((((Below.refl _ _).alloc (by have := HB4.out.size; omega) _).trans ((hfr5.below (H4.out.alloc _)).mono HMB.out))))
  have HE41 : Hid (F4 1 = some f4) := Lib.hid (by rw [HF4e.out]; exact putF_same _ _ _)
  have HE43 : Hid (F4 3 = some f3) := Lib.hid (by rw [HF4e.out, putF_other _ _ (by decide)]; exact HE3.out)
  have HM4 : Hid (∀ x, x ≠ 1 → x ≠ 3 → F4 x = none) := Lib.hid (fun x h1 h3 => by rw [HF4e.out, putF_other _ _ h1]; exact HM3.out x h3)
  have HZ5 : Hid (RdZ (w5.alloc (.cells #[.int .i64 0, .int .i64 1] 3)) (Mine db mb F4) (some ⟨w5.heap.size, 0, none⟩) 2 [0, 1]) := Lib.hid (rdz_new hk5 3 [0, 1] _ rfl)
  clear hbs4 hn4 hs4 hk5 hfr5 hmi5 HF4e
  go_wp2_with fail
  refine (crash_any (H5.out.alloc _) (by omega) (by decide) (by decide) HZ5.out (by decide)).mono ?_
  rintro e w6 ⟨rfl, ns, hasc, hmem, hnl, hk6, hfr6, hmi6⟩
  have hns : ns = [1, 3] := asc_ext hasc (by unfold Asc; decide) (fun x => by
    rw [hmem x]
    by_cases h1 : x = 1
    · subst h1; rw [HE41.out]; simp
    · by_cases h3 : x = 3
      · subst h3; rw [HE43.out]; simp
      · rw [HM4.out x h1 h3]; simp [h1, h3])
  subst hns
  have hcr := anch_crash HE41.out HE43.out HF4.out.2 HF4.out.1 HF3.out.2.2 HF3.out.2.1
  obtain ⟨F6, HF6e⟩ : ∃ F6, Hid (F6 = (crK F4 [0, 1] [1, 3] 2).F) := ⟨_, Lib.hid rfl⟩
  have hk6' : Dk w6 db mb 6 ⟨10, 4, -1, false⟩ F6 := by
    rw [HF6e.out]
    have h := hk6
    rw [show ([1, 3] : List Int).length = 2 from rfl, hcr.2.2] at h
    exact h
  rw [← HF6e.out] at hcr
  have H6 := Lib.hid hk6'
  have HE61 := Lib.hid hcr.1
  have HE63 := Lib.hid hcr.2.1
  have HB6 : Hid (Below w.heap.size w w6) := Lib.hid (HB5.out.trans ((((Below.refl _ _).alloc (by have := HB5.out.size; omega) _).trans ((hfr6.below (H5.out.alloc _)).mono HMB.out))))
  clear hasc hmem hnl hk6 hfr6 hmi6 hcr hk6' HF6e
  go_wp2_with fail
  refine (read_some H6.out rfl HE61.out).mono ?_
  rintro e w7 ⟨A1, c1, rfl, hown7, hb7⟩
  rw [show (cutTo f4 0 0).n = 0 from rfl]
  have H7 := Lib.hid (H6.out.below hb7)
  have HB7 : Hid (Below w.heap.size w w7) := Lib.hid (HB6.out.trans (hb7.mono HB6.out.size))
  clear hown7 hb7
  go_wp2_with fail
  refine (read_some H7.out rfl HE63.out).mono ?_
  rintro e w8 ⟨A3, c3, rfl, hown8, hb8⟩
  rw [show (cutTo f3 4 4).n = 4 from rfl] at *
  have H8 := Lib.hid (H7.out.below hb8)
  have HB8 : Hid (Below w.heap.size w w8) := Lib.hid (HB7.out.trans (hb8.mono HB7.out.size))
  have hstr : (convert 30 9 (.slice A3 4 c3)).run Try.prog w8 = .ok (.string (ByteArray.mk #[97, 98, 99, 100])) w8 := by
    obtain ⟨A9, c9, hv, hr⟩ := hown8.shape
    injection hv with e1 e2 e3
    subst e1
    have h := str_run (c := c3) hr
    rw [show (cutTo f3 4 4).bs = f3.bs.take 4 from rfl, HF3.out.1] at h
    exact h
  clear hown8 hb8
  go_wp2_with fail
  refine (size_any H8.out).mono ?_
  rintro e w9 ⟨rfl, rfl⟩
  go_wp2
  go_ret
  exact ⟨rfl, HB8.out⟩
end Go.Proofs.Ytfpcfbolpnfacaa
