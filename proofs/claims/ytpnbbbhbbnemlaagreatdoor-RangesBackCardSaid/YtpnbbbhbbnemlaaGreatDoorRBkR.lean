/-
  CONTRACTS: the document's text of a range.
-/
import Derived.Test.YtpnbbbhbbnemlaaGreatDoorRBkJ
namespace Go.Proofs.YtpnbbbhbbnemlaaGreatDoor
open Go.RowKit
open SemP
set_option linter.unusedSimpArgs false
set_option linter.unusedVariables false
set_option maxRecDepth 100000
set_option maxHeartbeats 2000000 in
theorem Sign_0 (w : World) : Calls Tryz.prog 34 #[.int .i64 0] w fun e w' => e = .returned (.string ⟨#[42]⟩) ∧ Below w.heap.size w w' := by
  go_enter Tryz.func34, Tryz.ntmps34
  go_wp2
  exact bodyPost_ret (results_tmp rfl _ _ _) rfl ⟨rfl, (Below.refl _ w).alloc (Nat.le_refl _) _⟩
theorem Sign_any (k : Nat) (hk : k < 8) (w : World) : Calls Tryz.prog 34 #[.int .i64 (k : Int)] w fun e w' => e = .returned (.string (mk (sg k))) ∧ Below w.heap.size w w' :=
  match k, hk with
  | 0, _ => Sign_0 w
  | 1, _ => Sign_1 w
  | 2, _ => Sign_2 w
  | 3, _ => Sign_3 w
  | 4, _ => Sign_4 w
  | 5, _ => Sign_5 w
  | 6, _ => Sign_6 w
  | 7, _ => Sign_7 w
theorem join_snoc (ps : List Str) (x sep : Str) : Lib.join (ps ++ [x]) sep = (if ps = [] then [] else Lib.join ps sep ++ sep) ++ x := by
  cases ps with
  | nil => simp [Lib.join_one]
  | cons p r =>
    rw [if_neg (by simp), List.cons_append, Lib.join_cons, Lib.join_cons]
    simp [Lib.joinTail]
def upG (r : List (List CV)) (i : Nat) : Str := Lib.join ((r.take i).map textL) sepL
def upI (r : List (List CV)) (i : Nat) (l : List CV) (k : Nat) : Str := (if i = 0 then [] else upG r i ++ sepL) ++ Lib.join ((l.take k).map textC) [32]
theorem map_take_nil {α β : Type} {l : List α} {k : Nat} {f : α → β} (h : k ≤ l.length) : ((l.take k).map f = []) ↔ k = 0 := by
  rw [List.map_eq_nil_iff, List.take_eq_nil_iff]
  constructor
  · rintro (h0 | h0)
    · exact h0
    · rw [h0] at h; simpa using h
  · intro h0; exact Or.inl h0
theorem upI_zero (r : List (List CV)) (i : Nat) (l : List CV) : upI r i l 0 = if i = 0 then [] else upG r i ++ sepL := by
  unfold upI; rw [List.take_zero, List.map_nil, Lib.join_nil, List.append_nil]
theorem upG_zero (r : List (List CV)) : upG r 0 = [] := rfl
theorem upI_succ {r : List (List CV)} {i : Nat} {l : List CV} {k : Nat} (h : k < l.length) : upI r i l (k + 1) = (upI r i l k ++ if k = 0 then [] else [32]) ++ textC (cvAt l k) := by
  unfold upI
  rw [take_snocC h, List.map_append, List.map_cons, List.map_nil, join_snoc]
  by_cases hk : k = 0
  · subst hk; simp [Lib.join_nil]
  · rw [if_neg (fun e => hk ((map_take_nil (by omega)).1 e)), if_neg hk]; simp
theorem upG_succ {r : List (List CV)} {i : Nat} {l : List CV} (h : i < r.length) (hl : lsAt r i = l) : upG r (i + 1) = upI r i l l.length := by
  unfold upI
  rw [List.take_of_length_le (Nat.le_refl _)]
  show Lib.join ((r.take (i + 1)).map textL) sepL = _ ++ textL l
  rw [take_snocR h, List.map_append, List.map_cons, List.map_nil, join_snoc, hl]
  by_cases hk : i = 0
  · subst hk; simp
  · rw [if_neg (fun e => hk ((map_take_nil (by omega)).1 e)), if_neg hk]; rfl
theorem upG_len {r : List (List CV)} (h : rightR r = true) (i : Nat) : (upG r i).length ≤ 4320 := by
  obtain ⟨hl, hx⟩ := rightR_parts h
  have h1 : (upG r i).length ≤ ((r.take i).map textL).length * (536 + 4) := join_le (sep := sepL) (fun p hp => by
    obtain ⟨l, hlm, rfl⟩ := List.mem_map.1 hp
    exact textL_len (hx l (List.mem_of_mem_take hlm)))
  rw [List.length_map, List.length_take] at h1
  have h2 : min i r.length * (536 + 4) ≤ 8 * (536 + 4) := Nat.mul_le_mul_right _ (by omega)
  omega
theorem upI_len {r : List (List CV)} (h : rightR r = true) (i : Nat) {l : List CV} (hl : rightL l = true) (k : Nat) : (upI r i l k).length ≤ 5000 := by
  obtain ⟨hl8, hx⟩ := rightL_parts hl
  have h0 := upG_len h i
  have h1 : (Lib.join ((l.take k).map textC) [32]).length ≤ ((l.take k).map textC).length * (66 + 1) := join_le (sep := [32]) (fun p hp => by
    obtain ⟨x, hxm, rfl⟩ := List.mem_map.1 hp
    exact textC_len (hx x (List.mem_of_mem_take hxm)))
  rw [List.length_map, List.length_take] at h1
  have h2 : min k l.length * (66 + 1) ≤ 8 * (66 + 1) := Nat.mul_le_mul_right _ (by omega)
  unfold upI
  rw [List.length_append]
  split
  · rw [List.length_nil]; omega
  · rw [List.length_append, show sepL.length = 4 from rfl]; omega
set_option maxHeartbeats 8000000 in
theorem RefRgText_any (A : Option Addr) (m cp : Nat) (r : List (List CV)) (w : World) (B : Nat) (hr : RdR w B A m r) (hB : B ≤ w.heap.size) (hq : rightR r = true) :
    Calls Tryz.prog 16 #[.agg #[.slice A m cp]] w fun e w' => e = .returned (.string (mk (textG r))) ∧ Below w.heap.size w w' := by
  obtain ⟨W0, hW0⟩ : ∃ W0, w.alloc (.cells #[.slice A m cp] 28) = W0 := ⟨_, rfl⟩
  have hb0 : Below w.heap.size w W0 := by rw [← hW0]; exact (Below.refl _ w).alloc (Nat.le_refl _) _
  have hX : W0.heap[w.heap.size]? = some (.cells #[.slice A m cp] 28) := by rw [← hW0]; exact World.alloc_heap_new _ _
  have HB0 := Lib.hid hb0
  have HW0 := Lib.hid hW0
  have HR0 : Hid (RdR W0 B A m r) := Lib.hid (hr.below (hb0.mono hB))
  have HLE := Lib.hid hr.1
  have HBB : Hid (B ≤ W0.heap.size) := Lib.hid (Nat.le_trans hB hb0.size)
  have c1 := cell1 hX
  have HX0 : Hid (∀ W1, Below W0.heap.size W0 W1 → W1.cell? ⟨w.heap.size, 0, none⟩ = some (.slice A m cp)) := Lib.hid (fun W1 h => (h.cell (p := ⟨w.heap.size, 0, none⟩) (by show w.heap.size < _; rw [← hW0]; simp)).trans c1)
  have HQ := Lib.hid hq
  have HRP := Lib.hid (rightR_parts hq)
  have HLN : Hid (1 ≤ m ∧ m ≤ 8) := Lib.hid (by have := HRP.out.1; rw [HLE.out] at this; exact this)
  have HGL : Hid (∀ i, (upG r i).length ≤ 4320) := Lib.hid (fun i => upG_len hq i)
  clear hr hB hb0 hX hW0 c1 hq
  go_enter Tryz.func16, Tryz.ntmps16
  go_wp2
  try rw [show w.alloc (.cells #[.slice A m cp] 28) = W0 from HW0.out]
  go_loopw [3, 4, 5, 6] (fun v3 v4 v5 v6 wr => ∃ (i : Nat) (S : ByteArray), i ≤ m ∧ v4 = .int .i64 (i : Int) ∧ v3 = .string S ∧ Hid (bs S = upG r i) ∧ Hid (Below W0.heap.size W0 wr)) (fun _ v _ _ _ => m - (intOf v).toNat)
  case atStart => exact ⟨0, ⟨#[]⟩, Nat.zero_le _, rfl, rfl, Lib.hid rfl, Lib.hid (Below.refl _ _)⟩
  case round =>
    obtain ⟨i, S, hi, rfl, rfl, HS, HB⟩ := hrel
    obtain ⟨wo, hwo⟩ : ∃ x, x = wr := ⟨_, rfl⟩
    subst hwo
    have y0 := HX0.out wo HB.out
    by_cases him : i < m
    · have hd : decide ((i : Int) < (m : Int)) = true := decide_eq_true (by omega)
      have hadd : IntKind.i64.wrap ((i : Int) + 1) = ((i + 1 : Nat) : Int) := by rw [IntWalk.i64_in _ (by have := HLN.out; omega)]; omega
      obtain ⟨b, off, Aj, nj, cj, rfl, hlt, q0, hrc⟩ := (HR0.out.below (HB.out.mono HBB.out)).2 i him
      have HIL : Hid (i < r.length) := Lib.hid (by rw [HLE.out]; exact him)
      obtain ⟨l, hl⟩ : ∃ l, lsAt r i = l := ⟨_, rfl⟩
      have HLL := Lib.hid hl
      rw [hl] at hrc
      have HRC := Lib.hid hrc
      have HNL : Hid (l.length = nj) := Lib.hid hrc.1
      have HLM : Hid (l ∈ r) := Lib.hid (by rw [← hl]; exact lsAt_mem HIL.out)
      have HLR : Hid (rightL l = true) := Lib.hid (HRP.out.2 l HLM.out)
      have HLP := Lib.hid (rightL_parts HLR.out)
      have HNJ : Hid (1 ≤ nj ∧ nj ≤ 8) := Lib.hid (by have := HLP.out.1; rw [HNL.out] at this; exact this)
      have HBo : Hid (B ≤ wo.heap.size) := Lib.hid (Nat.le_trans HBB.out HB.out.size)
      have HIL5 : Hid (∀ k, (upI r i l k).length ≤ 5000) := Lib.hid (fun k => upI_len HQ.out i HLR.out k)
      have HQ0 : Hid (∀ W1, Below wo.heap.size wo W1 → W1.cell? ⟨b, off + i, none⟩ = some (.slice Aj nj cj)) := Lib.hid (fun W1 h => (h.cell (p := ⟨b, off + i, none⟩) (by show b < _; have := HBo.out; omega)).trans q0)
      have HSS : Hid (S.size ≤ 4320) := Lib.hid (by have h := HGL.out i; rw [← HS.out] at h; rw [Lib.size_eq S]; exact h)
      have hcs := fun (w : World) => run_string_add_sum (P := Tryz.prog) (w := w) S ⟨#[32, 124, 124, 32]⟩ (by have := HSS.out; have : (⟨#[32, 124, 124, 32]⟩ : ByteArray).size = 4 := rfl; omega)
      clear hrc hl
      obtain ⟨bb, hbb⟩ : ∃ bb, decide (0 < i) = bb := ⟨_, rfl⟩
      have HBB0 := Lib.hid hbb
      go_upto_if 15 with fail
      clear hbb
      go_cut [3] (fun v w' => w' = wo ∧ ∃ S1 : ByteArray, v = .string S1 ∧ Hid (bs S1 = upI r i l 0))
      case first =>
        cases bb with
        | false =>
          have hi0 : i = 0 := by have := of_decide_eq_false HBB0.out; omega
          go_wp2_with fail
          go_meet
          exact ⟨rfl, S, rfl, Lib.hid (by rw [upI_zero, if_pos hi0, HS.out, hi0, upG_zero])⟩
        | true =>
          have hi0 : i ≠ 0 := by have := of_decide_eq_true HBB0.out; omega
          go_wp2_with fail
          go_meet
          exact ⟨rfl, _, rfl, Lib.hid (by rw [upI_zero, if_neg hi0, bs_app, HS.out])⟩
      case rest =>
        obtain ⟨rfl, S1, rfl, HS1⟩ := hcut
        clear hcs
        go_wp2_with fail
        clear y0 q0
        obtain ⟨wo, hwo⟩ : ∃ wo : World, wo = wc := ⟨_, rfl⟩
        subst hwo
        go_loopw [3, 5, 6] (fun v3 v5 v6 wr => ∃ (k : Nat) (S : ByteArray), k ≤ nj ∧ v5 = .int .i64 (k : Int) ∧ v3 = .string S ∧ Hid (bs S = upI r i l k) ∧ Hid (Below wo.heap.size wo wr)) (fun _ v _ _ => nj - (intOf v).toNat)
        case atStart => exact ⟨0, S1, Nat.zero_le _, rfl, rfl, HS1, Lib.hid (Below.refl _ _)⟩
        case round =>
          obtain ⟨k, S2, hk, rfl, rfl, HS2, HBr⟩ := hrel
          have z0 := HX0.out wr (HB.out.trans (HBr.out.mono HB.out.size))
          have q1 := HQ0.out wr HBr.out
          by_cases hkn : k < nj
          · have hdk : decide ((k : Int) < (nj : Int)) = true := decide_eq_true (by omega)
            have haddk : IntKind.i64.wrap ((k : Int) + 1) = ((k + 1 : Nat) : Int) := by rw [IntWalk.i64_in _ (by have := HNJ.out; omega)]; omega
            obtain ⟨b2, off2, rfl, hlt2, p0, p1, p2, p3, p4⟩ := (HRC.out.below (HBr.out.mono HBo.out)).2 k hkn
            have HIK : Hid (k < l.length) := Lib.hid (by rw [HNL.out]; exact hkn)
            obtain ⟨x, hx⟩ : ∃ x, cvAt l k = x := ⟨_, rfl⟩
            have HX := Lib.hid hx
            have HXR : Hid (x.right = true) := Lib.hid (by rw [← hx]; exact HLP.out.2 _ (cvAt_mem HIK.out))
            rw [hx] at p0 p1 p2 p3 p4
            clear hx
            obtain ⟨op, xa, xb, xc, xs⟩ := x
            have hop : 0 ≤ op ∧ op ≤ 7 := by
              rcases cright_cases HXR.out with hz | ⟨h1, h7, _⟩
              · unfold zeroC at hz; injection hz with z0; omega
              · simp only at h1 h7; omega
            obtain ⟨o, rfl⟩ : ∃ o : Nat, op = (o : Int) := ⟨op.toNat, by omega⟩
            simp only at p0 p1 p2 p3 p4
            have HO8 : Hid (o < 8) := Lib.hid (by omega)
            have HXZ : Hid (xs.size ≤ 43) := Lib.hid (cv_small HXR.out)
            have HS2L : Hid (S2.size ≤ 5000) := Lib.hid (by have h := HIL5.out k; rw [← HS2.out] at h; rw [Lib.size_eq S2]; exact h)
            have hcs := fun (w : World) => run_string_add_sum (P := Tryz.prog) (w := w) S2 ⟨#[32]⟩ (by have := HS2L.out; have : (⟨#[32]⟩ : ByteArray).size = 1 := rfl; omega)
            clear hop
            obtain ⟨bb, hbb⟩ : ∃ bb, decide (0 < k) = bb := ⟨_, rfl⟩
            have HBB0 := Lib.hid hbb
            go_upto_if 29 with fail
            clear hbb
            go_cut [3] (fun v w' => w' = wr ∧ ∃ S3 : ByteArray, v = .string S3 ∧ Hid (bs S3 = upI r i l k ++ if k = 0 then [] else [32]))
            case first =>
              cases bb with
              | false =>
                have hi0 : k = 0 := by have := of_decide_eq_false HBB0.out; omega
                go_wp2_with fail
                go_meet
                exact ⟨rfl, S2, rfl, Lib.hid (by rw [if_pos hi0, HS2.out, List.append_nil])⟩
              | true =>
                have hi0 : k ≠ 0 := by have := of_decide_eq_true HBB0.out; omega
                go_wp2_with fail
                go_meet
                exact ⟨rfl, _, rfl, Lib.hid (by rw [if_neg hi0, bs_app, HS2.out])⟩
            case rest =>
              obtain ⟨rfl, S3, rfl, HS3⟩ := hcut
              clear hcs HBB0
              obtain ⟨wr, hwr⟩ : ∃ wr : World, wr = wc := ⟨_, rfl⟩
              subst hwr
              have HS3L : Hid (S3.size ≤ 5001) := Lib.hid (by
                have h := HIL5.out k
                rw [Lib.size_eq S3]
                show (bs S3).length ≤ 5001
                rw [HS3.out, List.length_append]
                have : (if k = 0 then ([] : Str) else [32]).length ≤ 1 := by split <;> simp
                omega)
              obtain ⟨W2, hW2⟩ : ∃ W2, wr.alloc (.cells #[.int .i64 (o : Int), .int .i64 xa, .int .i64 xb, .int .i64 xc, .string xs] 76) = W2 := ⟨_, rfl⟩
              have hb2 : Below wr.heap.size wr W2 := by rw [← hW2]; exact (Below.refl _ wr).alloc (Nat.le_refl _) _
              have hX2 : W2.heap[wr.heap.size]? = some (.cells #[.int .i64 (o : Int), .int .i64 xa, .int .i64 xb, .int .i64 xc, .string xs] 76) := by rw [← hW2]; exact World.alloc_heap_new _ _
              have HX2 : Hid (∀ W, Below W2.heap.size W2 W → W.heap[wr.heap.size]? = some (.cells #[.int .i64 (o : Int), .int .i64 xa, .int .i64 xb, .int .i64 xc, .string xs] 76)) := Lib.hid (fun W h => (h.block _ (by rw [← hW2]; simp)).trans hX2)
              have HSG := Lib.hid (Sign_any o HO8.out W2)
              have HW2 := Lib.hid hW2
              have HB2 := Lib.hid hb2
              obtain ⟨f0, f1, f2, f3, f4⟩ := cells5 hX2
              rw [← hW2] at f0 f1 f2 f3 f4
              have HSGL : Hid ((mk (sg o)).size ≤ 2) := Lib.hid (by rw [mk_len]; exact sg_len o HO8.out)
              have HTC : Hid (textC ⟨(o : Int), xa, xb, xc, xs⟩ = sg o ++ (if (o : Int) = 0 then [] else Ver.text ⟨xa, xb, xc, bs xs⟩)) := Lib.hid rfl
              have HMS : Hid (bs (mk (sg o)) = sg o) := Lib.hid (bs_mk _)
              generalize mk (sg o) = K at *
              have hck := fun (w : World) => run_string_add_sum (P := Tryz.prog) (w := w) S3 K (by have := HS3L.out; have := HSGL.out; omega)
              clear hW2 hb2 hX2
              go_wp2_with fail
              try rw [show wr.alloc (.cells #[.int .i64 (o : Int), .int .i64 xa, .int .i64 xb, .int .i64 xc, .string xs] 76) = W2 from HW2.out]
              refine HSG.out.mono ?_
              rintro e W3 ⟨rfl, hb3⟩
              have HB3 := Lib.hid hb3
              clear f0 f1 f2 f3 f4 p0 p1 p2 p3 p4 HSG
              obtain ⟨f0, f1, f2, f3, f4⟩ := cells5 (HX2.out W3 hb3)
              have HBw3 : Hid (Below wo.heap.size wo W3) := Lib.hid ((HBr.out.trans (HB2.out.mono HBr.out.size)).trans (hb3.mono (by have := HBr.out.size; have := HB2.out.size; omega)))
              clear hb3
              by_cases ho : o = 0
              · subst ho
                go_wp2_with fail
                go_roundw
                case rel => exact ⟨k + 1, _, by omega, rfl, rfl, Lib.hid (by rw [upI_succ HIK.out, HX.out, HTC.out, if_pos (show ((0 : Nat) : Int) = 0 from rfl), List.append_nil, bs_app, HS3.out, HMS.out]), HBw3⟩
                case measure => simp [intOf]; omega
              · have hdo : decide (0 < o) = true := decide_eq_true (by omega)
                have hv : Ver.right ⟨xa, xb, xc, bs xs⟩ = true := by
                  rcases cright_cases HXR.out with hz | ⟨_, _, hv⟩
                  · unfold zeroC at hz; injection hz with z0; omega
                  · exact hv
                have HRT := Lib.hid (RefText_any xa xb xc xs W3 (by have := HXZ.out; omega) hv)
                have HTL : Hid ((mk (Ver.text ⟨xa, xb, xc, bs xs⟩)).size ≤ 64) := Lib.hid (by rw [mk_len]; exact textV_len hv)
                have HMT : Hid (bs (mk (Ver.text ⟨xa, xb, xc, bs xs⟩)) = Ver.text ⟨xa, xb, xc, bs xs⟩) := Lib.hid (bs_mk _)
                have HTC2 : Hid (textC ⟨(o : Int), xa, xb, xc, xs⟩ = sg o ++ Ver.text ⟨xa, xb, xc, bs xs⟩) := Lib.hid (by rw [HTC.out, if_neg (by omega)])
                generalize mk (Ver.text ⟨xa, xb, xc, bs xs⟩) = T at *
                have hct := fun (w : World) => run_string_add_sum (P := Tryz.prog) (w := w) (S3 ++ K) T (by rw [ByteArray.size_append]; have := HS3L.out; have := HSGL.out; have := HTL.out; omega)
                clear hv
                go_wp2_with fail
                refine HRT.out.mono ?_
                rintro e W4 ⟨rfl, hb4⟩
                have HBw4 : Hid (Below wo.heap.size wo W4) := Lib.hid (HBw3.out.trans (hb4.mono HBw3.out.size))
                clear hb4 f0 f1 f2 f3 f4 HRT
                go_wp2_with fail
                go_roundw
                case rel => exact ⟨k + 1, _, by omega, rfl, rfl, Lib.hid (by rw [upI_succ HIK.out, HX.out, HTC2.out, bs_app, bs_app, HS3.out, HMS.out, HMT.out, List.append_assoc]), HBw4⟩
                case measure => simp [intOf]; omega
          · have hdk : decide ((k : Int) < (nj : Int)) = false := decide_eq_false (by omega)
            have hkn2 : k = nj := by omega
            subst hkn2
            have HB6 : Hid (Below W0.heap.size W0 wr) := Lib.hid (HB.out.trans (HBr.out.mono HB.out.size))
            go_wp2_with fail
            go_roundw
            case rel => exact ⟨i + 1, S2, by omega, rfl, rfl, Lib.hid (by rw [HS2.out, upG_succ HIL.out HLL.out, HNL.out]), HB6⟩
            case measure => simp [intOf]; omega
    · have hd : decide ((i : Int) < (m : Int)) = false := decide_eq_false (by omega)
      have hiL : i = m := by omega
      subst hiL
      have HE : Hid (S = mk (textG r)) := Lib.hid (by
        rw [← mk_bs S, HS.out]; unfold upG
        rw [List.take_of_length_le (by rw [HLE.out]; exact Nat.le_refl _)]; rfl)
      have HB5 : Hid (Below w.heap.size w wo) := Lib.hid (HB0.out.trans (HB.out.mono HB0.out.size))
      go_wp2
      refine bodyPost_ret (results_tmp rfl _ _ _) rfl ⟨by rw [← HE.out]; rfl, HB5.out⟩
end Go.Proofs.YtpnbbbhbbnemlaaGreatDoor
