/-
  CONTRACTS of the document's twin of a dock: put.
-/
import Derived.Test.YtfpcfbolpnfacaaQMem
import Derived.Deep.RegionHeld3
import Derived.Deep.RegionLaw
import Derived.Deep.DeepCutAuto
namespace Go.Proofs.Ytfpcfbolpnfacaa
open Go.RowKit
open ByteP
set_option linter.unusedVariables false
set_option maxRecDepth 10000
theorem drop_full {l : List TF} {i : Nat} (h : ¬ i < l.length) : l.drop i = [] := List.drop_eq_nil_of_le (by omega)
/-- 'l[i:]'. -/
theorem sliceF_from {w : World} {base c : Nat} {A : Option Addr} {l : List TF} (h : OwnF w base (.slice A l.length c) l) {i : Nat} (hi : i ≤ l.length) :
    ∃ A2 c2, (∀ w' : World, (Instr.slice 27 (.slice A l.length c) (some (.int .i64 (i : Int))) none none).run Try.prog w' = .ok (.slice A2 (l.drop i).length c2) w') ∧ RdF w A2 (l.drop i) := by
  refine ⟨if c = i then A else A.map (·.add (i * 3)), c - i, fun w' => ?_, ?_⟩
  · have hr := run_slice_l (P := Try.prog) w' 27 A l.length c Try.underlying27 .i64 (i : Int) (by omega) (by omega)
    rw [hr]
    obtain ⟨i0, hi0, hz0, hz1, hz2⟩ := info_parts infoFile
    simp [sizeOf, sliced, go_sem, List.length_drop]
    rfl
  · intro hl
    rw [List.length_drop] at hl
    have hp : 0 < l.length := by omega
    obtain ⟨g, cap, hv, _, hlt⟩ := World.ownsRow.form h hp
    injection hv with h1 h2 h3
    subst h1 h3
    have hcap : l.length ≤ c := by
      rcases h.2 with ⟨hh, _⟩ | ⟨g', cap', cur, hv', _, _, hnc, _⟩
      · cases hh
      · injection hv' with e1 e2 e3; omega
    rw [if_neg (by omega)]
    have := (h.rd).from i
    have ha : (Addr.add ⟨g, 0, none⟩ (i * 3)) = ⟨g, 0 + i * 3, none⟩ := addr_addF g 0 (i * 3)
    show ∃ b off, (some ((Addr.add ⟨g, 0, none⟩ (i * 3)))) = some ⟨b, off, none⟩ ∧ _
    rw [ha]
    exact this (by rw [List.length_drop]; exact hl)
/-- 'l[:i]'. -/
theorem sliceF_pre {w : World} {base c : Nat} {A : Option Addr} {l : List TF} (h : OwnF w base (.slice A l.length c) l) {i : Nat} (hi : i ≤ l.length) :
    (∀ w' : World, (Instr.slice 27 (.slice A l.length c) none (some (.int .i64 (i : Int))) none).run Try.prog w' = .ok (.slice A (l.take i).length c) w') ∧ RdF w A (l.take i) := by
  refine ⟨fun w' => ?_, h.rd.pre i⟩
  have hcap : l.length ≤ c := by
    rcases h.2 with ⟨hh, h0⟩ | ⟨g', cap', cur, hv', _, _, hnc, _⟩
    · injection hh with e1 e2 e3; omega
    · injection hv' with e1 e2 e3; omega
  have hr := run_slice_h (P := Try.prog) w' 27 A l.length c Try.underlying27 .i64 (i : Int) (by omega) (by omega)
  rw [hr]
  have e : (l.take i).length = i := by rw [List.length_take]; omega
  rw [e]
  cases A with
  | none => simp [sizeOf, sliced, go_sem]
  | some a => simp [sizeOf, sliced, go_sem]
/-- With a file k of no bytes at place p, unless it is there. -/
def insT (L : List TF) (k : Int) (p : Nat) : List TF := if p < L.length ∧ (tfAt L p).nm = k then L else L.take p ++ ⟨k, none, 0, 0, [], 0⟩ :: L.drop p
section
variable {w : World} {M : Nat → Prop} {B0 tb c : Nat} {A : Option Addr} {n : TN} {L : List TF}
theorem put_off (h : Tn w tb A c n L) (ho : n.off = true) (k : Int) (D : Option Addr) (m d : Nat) : Calls Try.prog 13 #[.pointer (some ⟨tb, 0, none⟩), .int .i64 k, .slice D m d] w fun e w' => e = .returned (.int .i64 51) ∧ w' = w := by
  have c4 := h.c4
  rw [ho] at c4
  clear h
  go_enter Try.func13, Try.ntmps13
  go_wp2
  go_ret
  exact ⟨rfl, rfl⟩
theorem put_name (h : Tn w tb A c n L) (ho : n.off = false) {k : Int} (hk : k < 0 ∨ 999999 < k) (D : Option Addr) (m d : Nat) : Calls Try.prog 13 #[.pointer (some ⟨tb, 0, none⟩), .int .i64 k, .slice D m d] w fun e w' => e = .returned (.int .i64 52) ∧ w' = w := by
  have c4 := h.c4
  rw [ho] at c4
  clear h
  by_cases h0 : k < 0
  · have d1 : decide (k < 0) = true := by simp; omega
    go_enter Try.func13, Try.ntmps13
    go_wp2
    go_ret
    exact ⟨rfl, rfl⟩
  · have d1 : decide (k < 0) = false := by simp; omega
    have d2 : decide (999999 < k) = true := by simp; omega
    go_enter Try.func13, Try.ntmps13
    go_wp2
    go_ret
    exact ⟨rfl, rfl⟩
theorem put_full (h : Tn w tb A c n L) (ho : n.off = false) {k : Int} (hk0 : 0 ≤ k) (hk1 : k ≤ 999999) (D : Option Addr) (m d : Nat) (hm : m ≤ 1000000) (hL : L.length ≤ 1000000) (hz : ∀ i, i < L.length → (tfAt L i).n ≤ 100000000) (hzs : sizeT L L.length ≤ 4611686018427387904) (hfull : n.cap < (sizeT L L.length : Int) + (m : Int)) :
    Calls Try.prog 13 #[.pointer (some ⟨tb, 0, none⟩), .int .i64 k, .slice D m d] w fun e w' => e = .returned (.int .i64 50) ∧ Below w.heap.size w w' := by
  have c4 := h.c4
  have c1 := h.c1
  rw [ho] at c4
  have HT := Lib.hid h
  have HZ := Lib.hid hz
  clear h hz
  have d1 : decide (k < 0) = false := by simp; omega
  have d2 : decide (999999 < k) = false := by simp; omega
  have d3 : decide (n.cap < (sizeT L L.length : Int) + (m : Int)) = true := by simp; omega
  generalize hZ : sizeT L L.length = z at *
  have HZE := Lib.hid hZ
  clear hZ
  have hsum : IntKind.i64.wrap ((z : Int) + (m : Int)) = (z : Int) + (m : Int) := IntWalk.i64_in _ (by omega)
  go_enter Try.func13, Try.ntmps13
  go_wp2_with fail
  go_region_held3 (fun W => W.cell? ⟨tb, 1, none⟩ = some (.int .i64 n.cap)) ((first | exact c1 | exact c1' | go_keep)) (first
    | (go_at_call 23; refine (size_tw (HT.out.below (Below.refl _ w).drew) hL HZ.out).mono ?_; rintro e w1 ⟨rfl, hb⟩; rw [HZE.out]; have c1' := (hb.cell (p := ⟨tb, 1, none⟩) (block_lt_of_cell c1)).trans c1; have HB : Hid (Below w.heap.size w w1) := Lib.hid ((Below.refl _ w).drew.trans hb); clear hb))
  all_goals (go_wp2; go_ret; exact ⟨rfl, HB.out⟩)
theorem insT_len (L : List TF) (k : Int) {p : Nat} (hp : p ≤ L.length) : p < (insT L k p).length ∧ (insT L k p).length ≤ L.length + 1 := by
  unfold insT
  split
  · rename_i h; exact ⟨h.1, by omega⟩
  · simp [List.length_take, List.length_drop]; omega
theorem insT_mem {L : List TF} {k : Int} {p : Nat} {x : TF} (h : x ∈ insT L k p) : x ∈ L ∨ x.n = 0 ∧ x.bs = [] ∧ x.P = none ∧ x.c = 0 := by
  unfold insT at h
  split at h
  · exact .inl h
  · rcases List.mem_append.1 h with h1 | h1
    · exact .inl (List.mem_of_mem_take h1)
    · rcases List.mem_cons.1 h1 with h2 | h2
      · subst h2; exact .inr ⟨rfl, rfl, rfl, rfl⟩
      · exact .inl (List.mem_of_mem_drop h2)
set_option maxHeartbeats 80000000 in
theorem put_ok (h : TnB w M B0 tb A c n L) (ho : n.off = false) {k : Int} (hk0 : 0 ≤ k) (hk1 : k ≤ 999999) {D : Option Addr} {m d : Nat} {ys : List Int} (hm : m ≤ 1000000) (hL : L.length ≤ 100000) (hz : ∀ i, i < L.length → (tfAt L i).n ≤ 100000000) (hzs : sizeT L L.length ≤ 4611686018427387904) (hfit : (sizeT L L.length : Int) + (m : Int) ≤ n.cap)
    (hl0 : n.armed = true → 0 ≤ n.left) (hl1 : n.left ≤ 9223372036854775807) (hB0 : B0 ≤ w.heap.size) (hM : ∀ b, M b → b < w.heap.size) (hy : RdY w B0 D m ys) (hby : Bytes ys)
    {p : Nat} (hp : p ≤ L.length) (h0 : ∀ i, i < p → (tfAt L i).nm < k) (h1 : p < L.length → k ≤ (tfAt L p).nm) :
    Calls Try.prog 13 #[.pointer (some ⟨tb, 0, none⟩), .int .i64 k, .slice D m d] w fun e w' => e = .returned (.int .i64 (if (n.armed && n.left == 0) = true then 51 else 0)) ∧
      ∃ A' c' P' c2, TnB w' M B0 tb A' c' (tgd n) (putB (insT L k p) p P' ((tfAt (insT L k p) p).n + m) c2 ((tfAt (insT L k p) p).bs ++ ys)) ∧ Fr w w' (Tm tb A) ∧ (∀ b, Tm tb A' b → Tm tb A b ∨ w.heap.size ≤ b) := by
  have c4 := h.tn.c4
  have c1 := h.tn.c1
  rw [ho] at c4
  have HT := Lib.hid h
  have HZ := Lib.hid hz
  have HY := Lib.hid hy
  have HBY := Lib.hid hby
  have HMM := Lib.hid hM
  have H0 := Lib.hid h0
  have H1 := Lib.hid h1
  clear h hz hy hby hM h0 h1
  have d1 : decide (k < 0) = false := by simp; omega
  have d2 : decide (999999 < k) = false := by simp; omega
  have d3 : decide (n.cap < (sizeT L L.length : Int) + (m : Int)) = false := by simp; omega
  generalize hbb : (n.armed && n.left == 0) = bb
  have HBB := Lib.hid hbb
  clear hbb
  generalize hZ : sizeT L L.length = z at *
  have HZE := Lib.hid hZ
  clear hZ
  have hsum : IntKind.i64.wrap ((z : Int) + (m : Int)) = (z : Int) + (m : Int) := IntWalk.i64_in _ (by omega)
  go_enter Try.func13, Try.ntmps13
  go_upto_region 5 with fail
  go_cut [21] (fun v21 w' => v21 = .bool false ∧ Hid (Below w.heap.size w w'))
  case first =>
    go_region_held3 (fun W => W.cell? ⟨tb, 1, none⟩ = some (.int .i64 n.cap)) ((first | exact c1 | exact c1' | go_keep)) (first
      | (go_at_call 23; refine (size_tw (HT.out.tn.below (Below.refl _ w).drew) (by omega) HZ.out).mono ?_; rintro e w1 ⟨rfl, hb⟩; rw [HZE.out]; have c1' := (hb.cell (p := ⟨tb, 1, none⟩) (block_lt_of_cell c1)).trans c1; have HB : Hid (Below w.heap.size w w1) := Lib.hid ((Below.refl _ w).drew.trans hb); clear hb))
    all_goals (go_wp2_with fail; go_meet; exact ⟨rfl, HB⟩)
  case rest =>
  obtain ⟨w1, hw1⟩ : ∃ w1 : World, w1 = wc := ⟨_, rfl⟩
  subst hw1
  obtain ⟨rfl, HB⟩ := hcut
  have HT1 := Lib.hid (HT.out.below HB.out)
  have c10 := HT1.out.tn.c0
  clear c1 c4 hsum d1 d2 d3
  go_upto_region 7 with fail
  iterate 8 (first | go_skip | go_guarded | go_step | go_upon | go_back)
  go_cut [7] (fun v7 w' => v7 = .int .i64 (p : Int) ∧ w' = w1)
  case first =>
    go_wp2_with fail
    go_loop [7] (fun v => ∃ j : Nat, j ≤ p ∧ v = .int .i64 (j : Int)) (fun v => L.length + 1 - (intOf v).toNat)
    case atStart => exact ⟨0, Nat.zero_le _, rfl⟩
    case round =>
      obtain ⟨j, hj, rfl⟩ := hrel
      by_cases hlt : j < p
      · have hjL : j < L.length := by omega
        have hji : (j : Int) < (L.length : Int) := by omega
        obtain ⟨g, rfl, hg, r0, r1, r2⟩ := HT1.out.tn.row j hjL
        have d0 : decide ((tfAt L j).nm < k) = true := by simp; exact H0.out j hlt
        generalize (tfAt L j).nm = x at *
        go_wp2_with fail
        exact ⟨⟨j + 1, by omega, by go_num⟩, by simp [intOf]; omega⟩
      · obtain rfl : j = p := by omega
        by_cases hpl : j < L.length
        · have hji : (j : Int) < (L.length : Int) := by omega
          obtain ⟨g, rfl, hg, r0, r1, r2⟩ := HT1.out.tn.row j hpl
          have d0 : decide ((tfAt L j).nm < k) = false := by have := H1.out hpl; simp; omega
          generalize (tfAt L j).nm = x at *
          go_wp2_with fail
          go_meet
          exact ⟨rfl, rfl⟩
        · have hji : ¬ (j : Int) < (L.length : Int) := by omega
          have d0 : decide ((j : Int) < (L.length : Int)) = false := by simp; omega
          go_wp2_with fail
          go_meet
          exact ⟨rfl, rfl⟩
  case rest =>
    obtain ⟨rfl, hw⟩ := hcut
    obtain rfl : w1 = wc := hw.symm
    clear hw
    go_step
    go_step
    go_cut [8] (fun v8 w' => ∃ A1 c1, Hid (TnB w' M B0 tb A1 c1 n (insT L k p)) ∧ Hid (Fr w w' (Tm tb A)) ∧ Hid (∀ b, Tm tb A1 b → Tm tb A b ∨ w.heap.size ≤ b))
    case first =>
      have htl := HT1.out.tlt
      have hfz := HT1.out.tn.fz 0
      by_cases hpl : p < L.length
      · have hji : (p : Int) < (L.length : Int) := by omega
        have he : ((p : Int) == (L.length : Int)) = false := beq_eq_false_iff_ne.2 (by omega)
        obtain ⟨g, rfl, hg, r0, r1, r2⟩ := HT1.out.tn.row p hpl
        by_cases hnk : (tfAt L p).nm = k
        · have d0 : ((tfAt L p).nm == k) = true := by simp [hnk]
          have d1 : ((tfAt L p).nm != k) = false := by simp [hnk]
          have HI : Hid (insT L k p = L) := Lib.hid (if_pos ⟨hpl, hnk⟩)
          clear hnk
          generalize (tfAt L p).nm = x at *
          go_wp2_with fail
          go_meet
          exact ⟨_, c, by rw [HI.out]; exact HT1, Lib.hid (Fr.of_below HB.out), Lib.hid (fun b hb => .inl hb)⟩
        · have d0 : ((tfAt L p).nm == k) = false := beq_eq_false_iff_ne.2 hnk
          have d1 : ((tfAt L p).nm != k) = true := by simp [hnk]
          have HI : Hid (insT L k p = L.take p ++ ⟨k, none, 0, 0, [], 0⟩ :: L.drop p) := Lib.hid (if_neg (fun h => hnk h.2))
          clear hnk
          generalize (tfAt L p).nm = x at *
          have hl0' : ([(⟨k, none, 0, 0, [], 0⟩ : TF)]).length = 1 := rfl
          obtain ⟨A2, c2, hs2, hr2⟩ := sliceF_from HT1.out.tno.own (i := p) (by omega)
          obtain ⟨hs3, hr3⟩ := sliceF_pre HT1.out.tno.own (i := p) (by omega)
          obtain ⟨Ld, hLd⟩ : ∃ Ld, Ld = L.drop p := ⟨_, rfl⟩
          obtain ⟨Lt, hLt⟩ : ∃ Lt, Lt = L.take p := ⟨_, rfl⟩
          rw [← hLd] at hs2 hr2
          rw [← hLt] at hs3 hr3
          have HR2 := Lib.hid hr2
          have HR3 := Lib.hid hr3
          have hld : Ld.length ≤ 100000 := by rw [hLd, List.length_drop]; omega
          have hlt' : Lt.length ≤ 100000 := by rw [hLt, List.length_take]; omega
          have HLD := Lib.hid hLd
          have HLT := Lib.hid hLt
          clear hr2 hr3 hLd hLt
          go_wp2_with (first
            | (at_builtin; refine wplF_appsN rfl (.tmp 74) (.tmp 80) rfl w1.heap.size _ 1 [⟨k, none, 0, 0, [], 0⟩] rfl rfl (ownF_lit w1 w1.heap.size ⟨k, none, 0, 0, [], 0⟩ (Nat.le_refl _)) A2 Ld.length c2 Ld rfl rfl (HR2.out.below ((Below.refl _ _).alloc (Nat.le_refl _) _)) (by omega) (by simp) ?_; intro A3 c3 w3 ho3 hg3 hat3; (have hb3 : Below w1.heap.size w1 w3 := ((Below.refl _ w1).alloc (Nat.le_refl _) _).grown hg3 (by simp) (fun x hx => by have := own_some hx; omega)); (have HO3 := Lib.hid ho3); (have HB3 := Lib.hid hb3); (have z3 := hb3.size); (have ht3 := Nat.lt_of_lt_of_le htl z3); (have y3 := (hb3.cell (p := ⟨tb, 0, none⟩) htl).trans c10); clear ho3 hg3 hat3 hb3)
            | (at_builtin; refine wplF_appsN rfl (.tmp 83) (.tmp 89) rfl w1.heap.size _ 0 [] rfl rfl (ownF_lit0 w3 w1.heap.size z3) _ Lt.length c Lt rfl rfl (HR3.out.below (HB3.out.alloc z3 _)) (by omega) (by simp; omega) ?_; intro A5 c5 w5 ho5 hg5 hat5; (have hb5 : Below w3.heap.size w3 w5 := ((Below.refl _ w3).alloc (Nat.le_refl _) _).grown hg5 (by simp) (fun x hx => by have := own_some hx; omega)); (have HO5 : Hid (OwnF w5 w1.heap.size (.slice A5 Lt.length c5) Lt) := Lib.hid (by have h := ho5; rw [Nat.zero_add] at h; exact h)); (have HB5 := Lib.hid hb5); (have z5 := hb5.size); (have hat5' : ∀ x, (Value.slice A5 Lt.length c5).ownBlock = some x → w3.heap.size ≤ x := fun x hx => by rw [own_block_any A5 _ _ 0 0] at hx; rcases hat5 with h | h <;> rw [h] at hx <;> (first | (have := own_some hx; omega) | (simp at hx; omega))); (have HAT5 := Lib.hid hat5'); clear ho5 hg5 hat5 hat5' hb5)
            | (at_builtin; refine wplF_appsN rfl (.tmp 90) (.tmp 91) rfl w1.heap.size _ Lt.length Lt rfl rfl HO5.out A3 (1 + Ld.length) c3 ([⟨k, none, 0, 0, [], 0⟩] ++ Ld) (by simp; omega) rfl (HO3.out.rdN.below HB5.out) (by omega) (by omega) ?_; intro A6 c6 w6 ho6 hg6 hat6; (have hb6 : Below w1.heap.size w1 w6 := (HB3.out.trans (HB5.out.mono z3)).grown hg6 (by omega) (fun x hx => by have := HAT5.out x hx; omega)); (have HO6 := Lib.hid ho6); (have HB6 := Lib.hid hb6); (have y6 := (hb6.cell (p := ⟨tb, 0, none⟩) htl).trans c10); (have f6 := (hb6.frozen (p := ⟨tb, 0, none⟩) htl).trans hfz); clear ho6 hg6 hat6 hb6))
          have hN : (insT L k p).length = Lt.length + (1 + Ld.length) := by rw [HI.out, ← HLT.out, ← HLD.out, List.length_append, List.length_cons]; omega
          have HX := HT1.out.rerow (A4 := A6) (c4 := c6) (L4 := insT L k p) (fun b hb => by have := HMM.out b hb; have := HB.out.size; omega) (by have := HB.out.size; omega) HB6.out (by rw [hN, HI.out, ← HLT.out, ← HLD.out]; exact HO6.out) (fun x hx => insT_mem hx)
          rw [hN] at HX
          obtain ⟨hx1, hx2, hx3⟩ := HX
          have HX1 := Lib.hid hx1
          have HX2 : Hid (Fr w _ (Tm tb _)) := Lib.hid (Fr.of_below_then HB.out hx2)
          have HX3 : Hid (∀ b, Tm tb A6 b → Tm tb _ b ∨ w.heap.size ≤ b) := Lib.hid (fun b hb => by rcases hx3 b hb with h | h; exact .inl h; exact .inr (by have := HB.out.size; omega))
          clear hx1 hx2 hx3
          go_wp2_with fail
          go_meet
          exact ⟨A6, c6, HX1, HX2, HX3⟩
      · have hpe : p = L.length := by omega
        have he : ((p : Int) == (L.length : Int)) = true := by rw [hpe]; simp
        have HI : Hid (insT L k p = L.take p ++ ⟨k, none, 0, 0, [], 0⟩ :: L.drop p) := Lib.hid (if_neg (fun h => hpl h.1))
        have HPE := Lib.hid hpe
        clear hpe
        have hl0' : ([(⟨k, none, 0, 0, [], 0⟩ : TF)]).length = 1 := rfl
        obtain ⟨A2, c2, hs2, hr2⟩ := sliceF_from HT1.out.tno.own (i := p) (by omega)
        obtain ⟨hs3, hr3⟩ := sliceF_pre HT1.out.tno.own (i := p) (by omega)
        obtain ⟨Ld, hLd⟩ : ∃ Ld, Ld = L.drop p := ⟨_, rfl⟩
        obtain ⟨Lt, hLt⟩ : ∃ Lt, Lt = L.take p := ⟨_, rfl⟩
        rw [← hLd] at hs2 hr2
        rw [← hLt] at hs3 hr3
        have HR2 := Lib.hid hr2
        have HR3 := Lib.hid hr3
        have hld : Ld.length ≤ 100000 := by rw [hLd, List.length_drop]; omega
        have hlt' : Lt.length ≤ 100000 := by rw [hLt, List.length_take]; omega
        have HLD := Lib.hid hLd
        have HLT := Lib.hid hLt
        clear hr2 hr3 hLd hLt
        go_wp2_with (first
          | (at_builtin; refine wplF_appsN rfl (.tmp 74) (.tmp 80) rfl w1.heap.size _ 1 [⟨k, none, 0, 0, [], 0⟩] rfl rfl (ownF_lit w1 w1.heap.size ⟨k, none, 0, 0, [], 0⟩ (Nat.le_refl _)) A2 Ld.length c2 Ld rfl rfl (HR2.out.below ((Below.refl _ _).alloc (Nat.le_refl _) _)) (by omega) (by simp) ?_; intro A3 c3 w3 ho3 hg3 hat3; (have hb3 : Below w1.heap.size w1 w3 := ((Below.refl _ w1).alloc (Nat.le_refl _) _).grown hg3 (by simp) (fun x hx => by have := own_some hx; omega)); (have HO3 := Lib.hid ho3); (have HB3 := Lib.hid hb3); (have z3 := hb3.size); (have ht3 := Nat.lt_of_lt_of_le htl z3); (have y3 := (hb3.cell (p := ⟨tb, 0, none⟩) htl).trans c10); clear ho3 hg3 hat3 hb3)
          | (at_builtin; refine wplF_appsN rfl (.tmp 83) (.tmp 89) rfl w1.heap.size _ 0 [] rfl rfl (ownF_lit0 w3 w1.heap.size z3) _ Lt.length c Lt rfl rfl (HR3.out.below (HB3.out.alloc z3 _)) (by omega) (by simp; omega) ?_; intro A5 c5 w5 ho5 hg5 hat5; (have hb5 : Below w3.heap.size w3 w5 := ((Below.refl _ w3).alloc (Nat.le_refl _) _).grown hg5 (by simp) (fun x hx => by have := own_some hx; omega)); (have HO5 : Hid (OwnF w5 w1.heap.size (.slice A5 Lt.length c5) Lt) := Lib.hid (by have h := ho5; rw [Nat.zero_add] at h; exact h)); (have HB5 := Lib.hid hb5); (have z5 := hb5.size); (have hat5' : ∀ x, (Value.slice A5 Lt.length c5).ownBlock = some x → w3.heap.size ≤ x := fun x hx => by rw [own_block_any A5 _ _ 0 0] at hx; rcases hat5 with h | h <;> rw [h] at hx <;> (first | (have := own_some hx; omega) | (simp at hx; omega))); (have HAT5 := Lib.hid hat5'); clear ho5 hg5 hat5 hat5' hb5)
          | (at_builtin; refine wplF_appsN rfl (.tmp 90) (.tmp 91) rfl w1.heap.size _ Lt.length Lt rfl rfl HO5.out A3 (1 + Ld.length) c3 ([⟨k, none, 0, 0, [], 0⟩] ++ Ld) (by simp; omega) rfl (HO3.out.rdN.below HB5.out) (by omega) (by omega) ?_; intro A6 c6 w6 ho6 hg6 hat6; (have hb6 : Below w1.heap.size w1 w6 := (HB3.out.trans (HB5.out.mono z3)).grown hg6 (by omega) (fun x hx => by have := HAT5.out x hx; omega)); (have HO6 := Lib.hid ho6); (have HB6 := Lib.hid hb6); (have y6 := (hb6.cell (p := ⟨tb, 0, none⟩) htl).trans c10); (have f6 := (hb6.frozen (p := ⟨tb, 0, none⟩) htl).trans hfz); clear ho6 hg6 hat6 hb6))
        have hN : (insT L k p).length = Lt.length + (1 + Ld.length) := by rw [HI.out, ← HLT.out, ← HLD.out, List.length_append, List.length_cons]; omega
        have HX := HT1.out.rerow (A4 := A6) (c4 := c6) (L4 := insT L k p) (fun b hb => by have := HMM.out b hb; have := HB.out.size; omega) (by have := HB.out.size; omega) HB6.out (by rw [hN, HI.out, ← HLT.out, ← HLD.out]; exact HO6.out) (fun x hx => insT_mem hx)
        rw [hN] at HX
        obtain ⟨hx1, hx2, hx3⟩ := HX
        have HX1 := Lib.hid hx1
        have HX2 : Hid (Fr w _ (Tm tb _)) := Lib.hid (Fr.of_below_then HB.out hx2)
        have HX3 : Hid (∀ b, Tm tb A6 b → Tm tb _ b ∨ w.heap.size ≤ b) := Lib.hid (fun b hb => by rcases hx3 b hb with h | h; exact .inl h; exact .inr (by have := HB.out.size; omega))
        clear hx1 hx2 hx3
        go_wp2_with fail
        go_meet
        exact ⟨A6, c6, HX1, HX2, HX3⟩
    case rest =>
      obtain ⟨w2, hw2⟩ : ∃ w2 : World, w2 = wc := ⟨_, rfl⟩
      subst hw2
      obtain ⟨A1, c1, HT2, HF2, HM2⟩ := hcut
      obtain ⟨L1, hL1⟩ : ∃ L1, L1 = insT L k p := ⟨_, rfl⟩
      have hpL := insT_len L k hp
      rw [← hL1] at HT2 hpL
      have HL1 := Lib.hid hL1
      clear hL1
      have hp1 := hpL.1
      have hji : (p : Int) < (L1.length : Int) := by omega
      obtain ⟨g, rfl, hg, r0, r1, r2⟩ := HT2.out.tn.row p hp1
      have c20 := HT2.out.tn.c0
      obtain ⟨k1, k2, k3⟩ := HT2.out.rd _ (tfAt_mem hp1)
      have hgl := block_lt_of_cell r1
      have htl := HT2.out.tlt
      have hfz := HT2.out.tno.own.fz (p * 3 + 1)
      have hB2 : B0 ≤ w2.heap.size := Nat.le_trans hB0 HF2.out.size
      have hxn : (tfAt L1 p).n ≤ 100000000 := by
        have h := tfAt_mem hp1
        rw [HL1.out] at h
        rcases insT_mem h with h | h
        · obtain ⟨i, hi, e⟩ := mem_tfAt h
          rw [HL1.out, ← e]; exact HZ.out i hi
        · rw [HL1.out, h.1]; omega
      have HK1 := Lib.hid k1
      have HK2 := Lib.hid k2
      have HRY : Hid (RdY w2 B0 D m ys) := Lib.hid (HY.out.below (low_of_fr HF2.out (fun b hb => (HT.out.tmge b hb).1) hB0))
      clear k1 k2 k3 hpL
      obtain ⟨X, hX⟩ : ∃ X, X = tfAt L1 p := ⟨_, rfl⟩
      rw [← hX] at r0 r1 r2 hxn HK1 HK2
      have HX := Lib.hid hX
      clear hX
      obtain ⟨xnm, xP, xn, xc, xbs, xs⟩ := X
      simp only at r0 r1 r2 hxn HK1 HK2
      go_wp2_with fail
      go_region_law (first
        | (refine stepY_apps (by rfl) (.tmp 100) (.tmp 108) (by rfl) w2.heap.size _ 0 [] (by rfl) (OwnY.lit w2 w2.heap.size [] (Nat.le_refl _) (by simp)).drew w2.heap.size xP xn xc xbs (by rfl) (HK1.out.rd.below ((Below.refl _ _).alloc (Nat.le_refl _) _).drew) (by omega) (by simp) xn (Nat.zero_add xn) ?_; intro A5 c5 w5 ho5 hg5 hat5; (have hb5 : Below w2.heap.size w2 w5 := ((Below.refl _ w2).alloc (Nat.le_refl _) _).drew.grown hg5 (by simp) (fun x hx => by have := own_some hx; omega)); (have z5 := (hb5.cell (p := ⟨tb, 0, none⟩) htl).trans c20); (have hs5 := hb5.size); (have HO5 : Hid (OwnY w5 w2.heap.size (.slice A5 xn c5) xn xbs) := Lib.hid ho5); (have HB5 := Lib.hid hb5); (have HAT5 : Hid (∀ x, (Value.slice A5 xn c5).ownBlock = some x → w2.heap.size ≤ x) := Lib.hid (fun x hx => HO5.out.ge x hx)); clear ho5 hg5 hat5 hb5)
        | (refine stepY_apps (by rfl) (.tmp 109) (.tmp 110) (by rfl) w2.heap.size _ xn xbs (by rfl) HO5.out w5.heap.size D m d ys (by rfl) ((HRY.out.below (HB5.out.mono hB2)).more (Nat.le_trans hB2 hs5)) (by omega) hs5 (xn + m) rfl ?_; intro A7 c7 w7 ho7 hg7 hat7; (have hb7 : Below w2.heap.size w2 w7 := HB5.out.grown hg7 hs5 (fun x hx => HAT5.out x hx)); (have z7 := (hb7.cell (p := ⟨tb, 0, none⟩) htl).trans c20); (have HO7 := Lib.hid ho7); (have HB7 := Lib.hid hb7); (have y7 := (hb7.cell (p := ⟨g, p * 3 + 1, none⟩) hgl).trans r1); (have f7 := (hb7.frozen (p := ⟨g, p * 3 + 1, none⟩) hgl).trans hfz); clear ho7 hg7 hat7 hb7))
      all_goals clear r0 r1 r2 c20 z5 z7 y7 f7 hfz
      trace_state
      all_goals (have HZB := HT2.out.setB (c2 := c7) hp1 HB7.out (RdK.of_own HO7.out (fun b hb => by
          rcases hb with h | h
          · have := HMM.out b h; have := HF2.out.size; omega
          · exact (HT2.out.tmge b h).2)) (bytes_append HK2.out HBY.out) (own_caps HO7.out))
      all_goals (have HZ1 := Lib.hid HZB.1; have HZ2 := Lib.hid HZB.2; clear HZB)
      all_goals (have HFZ := Lib.hid (HF2.out.trans HZ2.out HM2.out))
      all_goals (have HG := Lib.hid (goes_tw HZ1.out.tn hl0 hl1))
      all_goals (rw [HBB.out] at HG)
      all_goals (clear HBB; cases bb <;> (go_wp2_with fail; refine HG.out.mono ?_; rintro e w9 ⟨rfl, ht9, hf9⟩))
      all_goals (have H9 := Lib.hid (HZ1.out.nums hf9 ht9.cells))
      all_goals (have HF9 := Lib.hid (HFZ.out.trans hf9 (fun b hb => .inl (.inl hb))))
      all_goals (rw [HL1.out] at H9)
      all_goals (rw [HL1.out] at HX)
      all_goals (clear ht9 hf9 HZ1 HZ2 HFZ HG)
      all_goals (go_wp2; go_ret; refine ⟨?_, _, ⟨c1, A7, c7, (by rw [← HX.out]; exact H9.out)⟩, HF9.out, HM2.out⟩; first | rfl | simp)
end
end Go.Proofs.Ytfpcfbolpnfacaa
