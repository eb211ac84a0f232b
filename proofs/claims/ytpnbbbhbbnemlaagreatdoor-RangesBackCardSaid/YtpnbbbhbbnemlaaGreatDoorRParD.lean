/-
  CONTRACT of the document's own package of layer 2: Parse (printed by genrpd.py).
-/
import Derived.Test.YtpnbbbhbbnemlaaGreatDoorRBars
import Derived.Test.YtpnbbbhbbnemlaaGreatDoorRCompD
namespace SemP
theorem pieces_sum (c : UInt8) : ∀ s : Str, ((pieces c s).map (fun x => x.length + 1)).sum = s.length + 1
  | [] => rfl
  | b :: l => by
    have ih := pieces_sum c l
    unfold pieces
    by_cases hb : b = c
    · rw [if_pos hb]
      simp only [List.map_cons, List.sum_cons, List.length_nil, List.length_cons]
      omega
    · rw [if_neg hb]
      revert ih
      cases hq : pieces c l with
      | nil => intro ih; simp at ih
      | cons p ps =>
        intro ih
        simp only [List.map_cons, List.sum_cons, List.length_cons] at ih ⊢
        omega
theorem sum_le {l : List Str} (h : ∀ x ∈ l, x.length ≤ 10) : (l.map (fun x => x.length + 1)).sum ≤ 11 * l.length := by
  induction l with
  | nil => simp
  | cons x l ih =>
    have h1 := h x (by simp)
    have h2 := ih (fun y hy => h y (by simp [hy]))
    simp only [List.map_cons, List.sum_cons, List.length_cons]
    omega
theorem rightPre_len {p : Str} (h : rightPre p = true) : p.length ≤ 43 := by
  unfold rightPre at h
  rw [Bool.and_eq_true, decide_eq_true_eq, List.all_eq_true] at h
  have h1 := pieces_sum 46 p
  have h2 := sum_le (l := pieces 46 p) (fun x hx => by
    have h3 := h.2 x hx
    unfold rightMark at h3
    rw [Bool.and_eq_true, Bool.and_eq_true, decide_eq_true_eq] at h3
    exact h3.1.2)
  omega
theorem right_len {a b c : Int} {p : Str} (h : Ver.right ⟨a, b, c, p⟩ = true) : p.length ≤ 43 := by
  unfold Ver.right at h
  simp only [Bool.and_eq_true, Bool.or_eq_true] at h
  rcases h.2 with h | h
  · rw [List.isEmpty_iff.1 h]; simp
  · exact rightPre_len h
end SemP
namespace Go.Proofs.YtpnbbbhbbnemlaaGreatDoor
open Go.RowKit
open SemP
set_option linter.unusedVariables false
set_option linter.unusedSimpArgs false
set_option maxRecDepth 100000
theorem cv_small {x : CV} (h : x.right = true) : x.s.size ≤ 43 := by
  have h := right_len (cv_ver h).1
  rw [show (bs x.s).length = x.s.size from (Lib.size_eq _).symm] at h
  exact h
theorem docL_right {p : Str} (h : okL p = true) : ∀ x ∈ docL p, x.right = true := by
  intro x hx
  unfold docL at hx
  obtain ⟨t, ht, rfl⟩ := List.mem_map.1 hx
  exact parseC_right (List.all_eq_true.1 h t ht)
theorem docR_small {ps : List Str} (h : okR ps = true) : ∀ l ∈ docR ps, ∀ x ∈ l, x.s.size ≤ 43 := by
  intro l hl x hx
  unfold docR at hl
  obtain ⟨p, hp, rfl⟩ := List.mem_map.1 hl
  exact cv_small (docL_right (List.all_eq_true.1 h p hp) x hx)
theorem full_piece_len {sep s : Str} {ps : List Str} (h : Full sep s ps) : ∀ p ∈ ps, p.length ≤ s.length := by
  induction h with
  | last s h => intro p hp; simp at hp; subst hp; exact Nat.le_refl _
  | more s i ps h hr hp ih =>
    intro p hq
    rcases List.mem_cons.1 hq with rfl | hq
    · rw [List.length_take]; omega
    · have := ih p hq
      rw [List.length_drop] at this
      omega
theorem getD_mem {l : List Str} {j : Nat} (h : j < l.length) : l.getD j [] ∈ l := by
  rw [List.getD_eq_getElem?_getD, List.getElem?_eq_getElem h]; exact List.getElem_mem h
theorem take_snocS {l : List Str} {i : Nat} (h : i < l.length) {α : Type} (f : Str → α) : (l.take (i + 1)).map f = (l.take i).map f ++ [f (l.getD i [])] := by
  rw [List.take_succ_eq_append_getElem h, List.map_append]
  simp [List.getD, h]
theorem allS_at {l : List Str} {p : Str → Bool} (h : ∀ j, j < l.length → p (l.getD j []) = true) : l.all p = true := by
  rw [List.all_eq_true]
  intro x hx
  obtain ⟨j, hj, rfl⟩ := List.getElem_of_mem hx
  have := h j hj
  rwa [List.getD_eq_getElem?_getD, List.getElem?_eq_getElem hj] at this
theorem allS_not {l : List Str} {p : Str → Bool} {j : Nat} (hj : j < l.length) (h : p (l.getD j []) = false) : l.all p = false := by
  cases ha : l.all p with
  | false => rfl
  | true =>
    have := List.all_eq_true.1 ha _ (getD_mem hj)
    rw [h] at this; cases this
/-- What the document's Parse answers. -/
def ParD (s : Str) (e : Ending) (w' : World) : Prop := ∃ ps, Full sepL s ps ∧ (okR ps = false → e = .returned (.tuple #[.agg #[.slice none 0 0], .bool false])) ∧
  (okR ps = true → ∃ A c, e = .returned (.tuple #[.agg #[.slice A ps.length c], .bool (rightR (docR ps))]) ∧ RdR w' w'.heap.size A ps.length (docR ps))
structure PdSt (w : World) (b5 B1 : Nat) (Av : Option Addr) (n cv : Nat) (vs : List Value) (r : List (List CV)) (q : Bool) (b0 b1 b2 b3 b4 : Bool) (v3 v52 v53 v54 : Value) (w' : World) : Prop where
  bel : Below w.heap.size w w'
  sz : B1 ≤ w'.heap.size
  u : w'.cell? ⟨b5, 0, none⟩ = some (.slice Av n cv)
  z : b3 = false → w'.cell? ⟨w.heap.size, 0, none⟩ = some (.slice none 0 0) ∧ w'.frozen? ⟨w.heap.size, 0, none⟩ = false
  own : OwnW w' B1 (.slice Av n cv) vs
  row : RowL w' b5 (.slice Av n cv) vs r
  h0 : b0 = true → v52 = .agg #[.slice Av n cv]
  h1 : b1 = true → v53 = .agg #[.slice Av n cv]
  h2 : b2 = true → v54 = .bool q
  h3 : b3 = true → w'.cell? ⟨w.heap.size, 0, none⟩ = some (.slice Av n cv)
  h4 : b4 = true → v3 = .bool q
inductive PdJ (w : World) (b5 B1 : Nat) (Av : Option Addr) (n cv : Nat) (vs : List Value) (r : List (List CV)) (q : Bool) (p0 p1 p2 p4 p5 p6 p7 p8 p9 p10 p11 p12 p13 p14 p15 p16 p17 p18 p19 p20 p21 p22 p23 p24 p25 p26 p27 p28 p29 p30 p31 p32 p33 p34 p35 p36 p37 p38 p39 p40 p41 p42 p43 p44 p45 p46 p47 p48 p49 p50 p51 : Value) : Array Bool → Act → World → Prop where
  | mk (b0 b1 b2 b3 b4 : Bool) (v3 v52 v53 v54 : Value) (w' : World) : PdSt w b5 B1 Av n cv vs r q b0 b1 b2 b3 b4 v3 v52 v53 v54 w' → PdJ w b5 B1 Av n cv vs r q p0 p1 p2 p4 p5 p6 p7 p8 p9 p10 p11 p12 p13 p14 p15 p16 p17 p18 p19 p20 p21 p22 p23 p24 p25 p26 p27 p28 p29 p30 p31 p32 p33 p34 p35 p36 p37 p38 p39 p40 p41 p42 p43 p44 p45 p46 p47 p48 p49 p50 p51 #[b0, b1, b2, b3, b4] { tmps := List.toArray (p0 :: p1 :: p2 :: v3 :: p4 :: p5 :: p6 :: p7 :: p8 :: p9 :: p10 :: p11 :: p12 :: p13 :: p14 :: p15 :: p16 :: p17 :: p18 :: p19 :: p20 :: p21 :: p22 :: p23 :: p24 :: p25 :: p26 :: p27 :: p28 :: p29 :: p30 :: p31 :: p32 :: p33 :: p34 :: p35 :: p36 :: p37 :: p38 :: p39 :: p40 :: p41 :: p42 :: p43 :: p44 :: p45 :: p46 :: p47 :: p48 :: p49 :: p50 :: p51 :: v52 :: v53 :: v54 :: []), defers := [] } w'
set_option maxHeartbeats 32000000 in
theorem RefRgParse_any (s : ByteArray) (w : World) (hs : s.size ≤ 100000) :
    Calls Tryz.prog 111 #[.string s] w fun e w' => ParD (bs s) e w' ∧ Below w.heap.size w w' := by
  have HS := Lib.hid hs
  obtain ⟨W0, hW0⟩ : ∃ W0, (w.alloc (.cells #[.slice none 0 0] 28)).alloc (.cells #[.slice none 0 0] 28) = W0 := ⟨_, rfl⟩
  have hz0 : W0.heap.size = w.heap.size + 2 := by rw [← hW0]; simp
  have hb0 : Below w.heap.size w W0 := by rw [← hW0]; exact ((Below.refl _ w).alloc (Nat.le_refl _) _).alloc (by simp) _
  have hX0 : W0.heap[w.heap.size]? = some (.cells #[.slice none 0 0] 28) := by
    rw [← hW0, Below.heap_alloc _ _ _ (by simp)]; exact World.alloc_heap_new _ _
  have hX1 : W0.heap[w.heap.size + 1]? = some (.cells #[.slice none 0 0] 28) := by
    rw [← hW0]
    have h := World.alloc_heap_new (w.alloc (.cells #[.slice none 0 0] 28)) (.cells #[.slice none 0 0] 28)
    rw [World.size_alloc] at h; exact h
  obtain ⟨b5, hb5⟩ : ∃ b5, w.heap.size + 1 = b5 := ⟨_, rfl⟩
  have HX0 := Lib.hid hX0
  have HX1 : Hid (W0.heap[b5]? = some (.cells #[.slice none 0 0] 28)) := Lib.hid (by rw [← hb5]; exact hX1)
  have HZ0 : Hid (W0.heap.size = b5 + 1) := Lib.hid (by omega)
  have HB0 := Lib.hid hb0
  have HW0 := Lib.hid hW0
  have HB5 := Lib.hid hb5
  have HBR := Lib.hid (bars_any s W0 (by omega))
  clear hs hz0 hb0 hW0 hX0 hX1
  go_enter Tryz.func111, Tryz.ntmps111
  go_wp2_with fail
  try rw [show (w.alloc (.cells #[.slice none 0 0] 28)).alloc (.cells #[.slice none 0 0] 28) = W0 from HW0.out]
  try rw [show w.heap.size + 1 = b5 from HB5.out]
  refine HBR.out.mono ?_
  rintro e W1 ⟨v5, ps, rfl, hos, hfu, hb⟩
  have HFU := Lib.hid hfu
  have HPL : Hid (1 ≤ ps.length ∧ ps.length ≤ 100001) := Lib.hid ⟨hfu.pos, by
    have h := hfu.len (by decide)
    rw [show (bs s).length = s.size from (Lib.size_eq s).symm] at h
    have := HS.out; omega⟩
  have HPZ : Hid (∀ p ∈ ps, p.length ≤ 100000) := Lib.hid (fun p hp => by
    have h := full_piece_len hfu p hp
    rw [show (bs s).length = s.size from (Lib.size_eq s).symm] at h
    have := HS.out; omega)
  obtain ⟨g, c5, rfl, hgb, hgl⟩ := hos.form HPL.out.1
  have HGL : Hid (b5 + 1 ≤ g ∧ g < W1.heap.size) := Lib.hid ⟨by rw [← HZ0.out]; exact hgb, hgl⟩
  have HG1 : Hid (∀ j, j < ps.length → W1.cell? ⟨g, j, none⟩ = some (strc (ps.getD j []))) := Lib.hid (fun j hj => hos.cell hj)
  have hx1 : W1.heap[b5]? = some (.cells #[.slice none 0 0] 28) := (hb.block _ (by have := HZ0.out; omega)).trans HX1.out
  have HX1b := Lib.hid hx1
  have HB1 : Hid (Below b5 W0 W1) := Lib.hid (hb.mono (by have := HZ0.out; omega))
  have HLW : Hid (w.heap.size < b5 ∧ b5 + 1 ≤ W1.heap.size) := Lib.hid ⟨by have := HB5.out; omega, by have := HZ0.out; have := hb.size; omega⟩
  clear hos hfu hb hgb hgl hx1 HBR hb5
  go_wp2
  go_loopw [6, 7, 8, 9, 10, 11] (fun v6 v7 v8 v9 v10 v11 wr => ∃ (i : Nat) (v : Value) (vs : List Value), i ≤ ps.length ∧ v6 = .int .i64 (i : Int) ∧ Hid (∀ j, j < i → okL (ps.getD j []) = true) ∧ Hid (wr.cell? ⟨b5, 0, none⟩ = some v ∧ wr.frozen? ⟨b5, 0, none⟩ = false) ∧ Hid (OwnW wr W1.heap.size v vs) ∧ Hid (RowL wr b5 v vs (docR (ps.take i))) ∧ Hid (Below b5 W0 wr) ∧ Hid (W1.heap.size ≤ wr.heap.size) ∧ Hid (∀ j, j < ps.length → wr.cell? ⟨g, j, none⟩ = some (strc (ps.getD j [])))) (fun v _ _ _ _ _ _ => ps.length - (intOf v).toNat)
  case atStart => exact ⟨0, .slice none 0 0, [], Nat.zero_le _, rfl, Lib.hid (fun j hj => absurd hj (by omega)), Lib.hid ⟨cell1 HX1b.out, by simp only [World.frozen?, HX1b.out]; rfl⟩, Lib.hid (World.ownsRow_nil _ _ _ _), Lib.hid (RowL.nil _ _ _), HB1, Lib.hid (Nat.le_refl _), HG1⟩
  case round =>
    obtain ⟨i, v, vs, hi, rfl, HD, HC, HO, HR, HB, HZ, HG⟩ := hrel
    obtain ⟨wo, hwo⟩ : ∃ x, x = wr := ⟨_, rfl⟩
    subst hwo
    have HTL : Hid ((docR (ps.take i)).length = i) := Lib.hid (by unfold docR; rw [List.length_map, List.length_take]; omega)
    have HVL : Hid (vs.length = i) := Lib.hid (HR.out.1.trans HTL.out)
    have HBWo : Hid (Below w.heap.size w wo) := Lib.hid (HB0.out.trans (HB.out.mono (by have := HLW.out; omega)))
    have hx0 : wo.heap[w.heap.size]? = some (.cells #[.slice none 0 0] 28) := (HB.out.block _ HLW.out.1).trans HX0.out
    have HX0o := Lib.hid hx0
    clear hx0
    by_cases him : i < ps.length
    · have hd : decide ((i : Int) < (ps.length : Int)) = true := decide_eq_true (by omega)
      have hadd : IntKind.i64.wrap ((i : Int) + 1) = ((i + 1 : Nat) : Int) := by rw [IntWalk.i64_in _ (by have := HPL.out; omega)]; omega
      obtain ⟨p, hp⟩ : ∃ p, ps.getD i [] = p := ⟨_, rfl⟩
      have HP := Lib.hid hp
      have HIL := Lib.hid him
      have HPM : Hid (p.length ≤ 100000) := Lib.hid (by rw [← hp]; exact HPZ.out _ (getD_mem him))
      have q0 := HG.out i him
      rw [hp] at q0
      have HCU := Lib.hid (Cut_any (mk p) 32 wo (by rw [mk_size]; have := HPM.out; omega))
      rw [show bs (mk p) = p from rfl] at HCU
      simp only [strc] at q0
      clear hp
      go_wp2_with fail
      refine HCU.out.mono ?_
      rintro e W4 ⟨v8, rfl, hos, hb⟩
      obtain ⟨M, hM⟩ : ∃ M, pieces 32 p = M := ⟨_, rfl⟩
      rw [hM] at hos
      have HMP := Lib.hid hM
      have HMZ : Hid (1 ≤ M.length ∧ M.length ≤ 100001 ∧ ∀ x ∈ M, x.length ≤ 100000) := Lib.hid (by
        have hf := full_pieces 32 p
        rw [hM] at hf
        have h1 := hf.len (by decide)
        have h2 := HPM.out
        exact ⟨hf.pos, by omega, fun x hx => by have := full_piece_len hf x hx; omega⟩)
      obtain ⟨g8, c8, rfl, hgb8, hgl8⟩ := hos.form HMZ.out.1
      have HG8 : Hid (g8 < W4.heap.size ∧ ∀ j, j < M.length → W4.cell? ⟨g8, j, none⟩ = some (strc (M.getD j []))) := Lib.hid ⟨hgl8, fun j hj => hos.cell hj⟩
      have HB4 : Hid (Below wo.heap.size wo W4) := Lib.hid hb
      have HOV0 : Hid (∀ g, v.ownBlock = some g → g < wo.heap.size) := Lib.hid (own_lt HO.out)
      clear hos hb hgb8 hgl8 hM q0 HCU
      go_wp2
      go_loopw [7, 9, 10, 11] (fun v7 v9 v10 v11 wr => ∃ (k : Nat), k ≤ M.length ∧ v9 = .int .i64 (k : Int) ∧ Hid (∀ j, j < k → (parseC (M.getD j [])).2 = true) ∧ Hid (OwnD wr W4.heap.size v7 ((M.take k).map (fun x => (parseC x).1))) ∧ Hid (Below W4.heap.size W4 wr)) (fun _ v _ _ _ => M.length - (intOf v).toNat)
      case atStart => exact ⟨0, Nat.zero_le _, rfl, Lib.hid (fun j hj => absurd hj (by omega)), Lib.hid (OwnD.nil_ _ _), Lib.hid (Below.refl _ _)⟩
      case round =>
        obtain ⟨k, hk, rfl, HDk, HOk, HBr⟩ := hrel
        obtain ⟨Al, cl, hv7⟩ := HOk.out.shape
        obtain ⟨K, hK⟩ : ∃ K, ((M.take k).map (fun x => (parseC x).1)).length = K := ⟨_, rfl⟩
        have HKK : Hid (K = k) := Lib.hid (by rw [← hK, List.length_map, List.length_take]; omega)
        rw [hK] at hv7
        have HK := Lib.hid hK
        subst hv7
        clear hK
        have HBWr : Hid (Below wo.heap.size wo wr) := Lib.hid (HB4.out.trans (HBr.out.mono HB4.out.size))
        by_cases hkn : k < M.length
        · have hdk : decide ((k : Int) < (M.length : Int)) = true := decide_eq_true (by omega)
          have haddk : IntKind.i64.wrap ((k : Int) + 1) = ((k + 1 : Nat) : Int) := by rw [IntWalk.i64_in _ (by have := HMZ.out; omega)]; omega
          obtain ⟨t, ht⟩ : ∃ t, M.getD k [] = t := ⟨_, rfl⟩
          have HTT := Lib.hid ht
          have HKL := Lib.hid hkn
          have q0 : wr.cell? ⟨g8, k, none⟩ = some (strc t) := by rw [← ht]; exact (HBr.out.cell (p := ⟨g8, k, none⟩) HG8.out.1).trans (HG8.out.2 k hkn)
          simp only [strc] at q0
          have HCO := Lib.hid (comp_any (mk t) wr (by rw [mk_size, ← ht]; have := HMZ.out.2.2 _ (getD_mem hkn); omega))
          rw [show bs (mk t) = t from rfl] at HCO
          clear ht
          go_wp2_with fail
          refine HCO.out.mono ?_
          rintro e w5 ⟨rfl, hb⟩
          have HBv : Hid (∀ o, Below W4.heap.size W4 (w5.alloc o)) := Lib.hid (fun o => (HBr.out.trans (hb.mono HBr.out.size)).alloc (HBr.out.trans (hb.mono HBr.out.size)).size o)
          have HOv : Hid (OwnD w5 W4.heap.size (.slice Al K cl) ((M.take k).map (fun x => (parseC x).1))) := Lib.hid (own_kept HOk.out hb)
          clear hb HCO q0
          cases hok : (parseC t).2 with
          | false =>
            have hd0 : docC t = zeroC := by unfold docC; rw [if_neg (by rw [hok]; decide)]
            rw [hd0]
            have HN : Hid (okR ps = false) := Lib.hid (allS_not HIL.out (by
              rw [HP.out]; unfold okL; rw [HMP.out]
              exact allS_not HKL.out (by rw [HTT.out]; exact hok)))
            have hx9 : ∀ o, (w5.alloc o).heap[w.heap.size]? = some (.cells #[.slice none 0 0] 28) := fun o => ((HBv.out o).block _ (by have := HB4.out.size; have := HZ.out; have := HLW.out; omega)).trans ((HB4.out.block _ (by have := HZ.out; have := HLW.out; omega)).trans HX0o.out)
            have HBq : Hid (∀ o, Below w.heap.size w (w5.alloc o)) := Lib.hid (fun o => HBWo.out.trans ((HB4.out.trans ((HBv.out o).mono HB4.out.size)).mono HBWo.out.size))
            obtain ⟨w6, hw6⟩ : ∃ w6, w5.alloc (.cells #[.int .i64 0, .int .i64 0, .int .i64 0, .int .i64 0, .string ⟨#[]⟩] 76) = w6 := ⟨_, rfl⟩
            have hx6 := hx9 (.cells #[.int .i64 0, .int .i64 0, .int .i64 0, .int .i64 0, .string ⟨#[]⟩] 76)
            have x0 := cell1 hx6
            have xf : (w5.alloc (.cells #[.int .i64 0, .int .i64 0, .int .i64 0, .int .i64 0, .string ⟨#[]⟩] 76)).frozen? ⟨w.heap.size, 0, none⟩ = false := by simp only [World.frozen?, hx6]; rfl
            have HBS : Hid (∀ o u, Below w.heap.size w ((w5.alloc o).setCell ⟨w.heap.size, 0, none⟩ u)) := Lib.hid (fun o u => (HBq.out o).setCell (p := ⟨w.heap.size, 0, none⟩) (Nat.le_refl _) u)
            clear hok hd0 hx9 hx6 hw6
            simp only [CV.val, zeroC, compV]
            go_wp2
            refine bodyPost_ret (v := .tuple #[.agg #[.slice none 0 0], .bool false]) (by simp [results, Tryz.results111, go_sem, x0]) rfl ⟨⟨ps, HFU.out, fun _ => rfl, fun h => by rw [HN.out] at h; cases h⟩, by first | exact HBS.out _ _ | exact HBq.out _⟩
          | true =>
            obtain ⟨y, hy⟩ : ∃ y, (parseC t).1 = y := ⟨_, rfl⟩
            have hd0 : docC t = y := by unfold docC; rw [if_pos hok, hy]
            rw [hd0]
            have HDk2 : Hid (∀ j, j < k + 1 → (parseC (M.getD j [])).2 = true) := Lib.hid (fun j hj => by
              rcases Nat.lt_succ_iff_lt_or_eq.1 hj with h | h
              · exact HDk.out j h
              · subst h; rw [HTT.out]; exact hok)
            have HTS : Hid ((M.take (k + 1)).map (fun x => (parseC x).1) = (M.take k).map (fun x => (parseC x).1) ++ [y]) := Lib.hid (by rw [take_snocS HKL.out (fun x => (parseC x).1), HTT.out, hy])
            have HO3 : Hid (OwnD ((w5.alloc (.cells #[.int .i64 y.op, .int .i64 y.a, .int .i64 y.b, .int .i64 y.c, .string y.s] 76)).alloc (.cells #[.int .i64 y.op, .int .i64 y.a, .int .i64 y.b, .int .i64 y.c, .string y.s] 76)) W4.heap.size (.slice Al K cl) ((M.take k).map (fun x => (parseC x).1))) := Lib.hid (World.ownsRow.alloc (World.ownsRow.alloc HOv.out _) _)
            have HB3 : Hid (Below W4.heap.size W4 ((w5.alloc (.cells #[.int .i64 y.op, .int .i64 y.a, .int .i64 y.b, .int .i64 y.c, .string y.s] 76)).alloc (.cells #[.int .i64 y.op, .int .i64 y.a, .int .i64 y.b, .int .i64 y.c, .string y.s] 76))) := Lib.hid ((HBv.out _).alloc (HBv.out _).size _)
            have hz3 : ((w5.alloc (.cells #[.int .i64 y.op, .int .i64 y.a, .int .i64 y.b, .int .i64 y.c, .string y.s] 76)).alloc (.cells #[.int .i64 y.op, .int .i64 y.a, .int .i64 y.b, .int .i64 y.c, .string y.s] 76)).heap[w5.heap.size + 1]? = some (.cells #[.int .i64 y.op, .int .i64 y.a, .int .i64 y.b, .int .i64 y.c, .string y.s] 76) := by
              have h := World.alloc_heap_new (w5.alloc (.cells #[.int .i64 y.op, .int .i64 y.a, .int .i64 y.b, .int .i64 y.c, .string y.s] 76)) (.cells #[.int .i64 y.op, .int .i64 y.a, .int .i64 y.b, .int .i64 y.c, .string y.s] 76)
              rw [World.size_alloc] at h; exact h
            have HCC := Lib.hid (cells5 hz3)
            have HSZ := Lib.hid HB3.out.size
            clear hz3 hok hd0 hy
            simp only [CV.val, compV]
            go_wp2_with (at_builtin; refine wpl_appD rfl (.tmp 42) (.tmp 44) rfl W4.heap.size (.slice Al K cl) _ rfl HO3.out (w5.heap.size + 1) y rfl HCC.out.1 HCC.out.2.1 HCC.out.2.2.1 HCC.out.2.2.2.1 HCC.out.2.2.2.2 (by rw [HK.out, HKK.out]; have := HMZ.out; have := HKL.out; omega) HSZ.out ?_; intro g3 c3 w6 hown2 hgr2; (have HOWN2 := Lib.hid hown2); (have HGR2 := Lib.hid hgr2); clear hown2 hgr2)
            go_roundw
            case rel => exact ⟨k + 1, by omega, rfl, HDk2, Lib.hid (by rw [HTS.out]; (have h5 := HOWN2.out); (rw [HK.out.trans HKK.out] at h5); (first | exact h5 | (simpa using h5))), Lib.hid (HB3.out.grown HGR2.out HSZ.out (fun g hg => own_ge HO3.out g hg))⟩
            case measure => simp [intOf]; omega
        · have hdk : decide ((k : Int) < (M.length : Int)) = false := decide_eq_false (by omega)
          have HOL : Hid (OwnD wr W4.heap.size (.slice Al K cl) (docL p)) := Lib.hid (by have h := HOk.out; rw [List.take_of_length_le (by omega)] at h; unfold docL; rw [HMP.out]; exact h)
          have HKD : Hid ((docL p).length = K) := Lib.hid (by unfold docL; rw [HMP.out, List.length_map, HKK.out]; omega)
          have HOK1 : Hid (okL p = true) := Lib.hid (by unfold okL; rw [HMP.out]; exact allS_at (fun j hj => HDk.out j (by omega)))
          have HOK2 : Hid (∀ j, j < i + 1 → okL (ps.getD j []) = true) := Lib.hid (fun j hj => by
            rcases Nat.lt_succ_iff_lt_or_eq.1 hj with h | h
            · exact HD.out j h
            · subst h; rw [HP.out]; exact HOK1.out)
          have HTS : Hid (docR (ps.take (i + 1)) = docR (ps.take i) ++ [docL p]) := Lib.hid (by unfold docR; rw [take_snocS HIL.out docL, HP.out])
          have HC4 : Hid (wr.cell? ⟨b5, 0, none⟩ = some v ∧ wr.frozen? ⟨b5, 0, none⟩ = false) := Lib.hid ⟨(HBWr.out.cell (p := ⟨b5, 0, none⟩) (by have := HZ.out; have := HLW.out; show b5 < _; omega)).trans HC.out.1, (HBWr.out.frozen (p := ⟨b5, 0, none⟩) (by have := HZ.out; have := HLW.out; show b5 < _; omega)).trans HC.out.2⟩
          have HO4 : Hid (OwnW wr W1.heap.size v vs) := Lib.hid (own_kept HO.out HBWr.out)
          have HRr4 := Lib.hid (HR.out.map (fun A n l h => h.below HBWr.out))
          have HBb4 : Hid (Below b5 W0 wr) := Lib.hid (HB.out.trans (HBWr.out.mono (by have := HZ.out; have := HLW.out; omega)))
          have HZ4 : Hid (W1.heap.size ≤ wr.heap.size) := Lib.hid (Nat.le_trans HZ.out HBWr.out.size)
          have HG4 : Hid (∀ j, j < ps.length → wr.cell? ⟨g, j, none⟩ = some (strc (ps.getD j []))) := Lib.hid (fun j hj => (HBWr.out.cell (p := ⟨g, j, none⟩) (by have := HZ.out; have := HGL.out; show g < _; omega)).trans (HG.out j hj))
          have HIN : Hid (InL wr b5 v Al K (docL p)) := Lib.hid ⟨HOL.out.rd HKD.out, fun b off e => by
            subst e
            have h1 := own_ge HOL.out b rfl
            have h2 := own_lt HOL.out b rfl
            have h3 := HB4.out.size
            exact ⟨fun e2 => by have h4 := HOV0.out b e2; omega, by have := HZ.out; have := HLW.out; omega, h2⟩⟩
          obtain ⟨Av, cv, hv⟩ := HO4.out.shape
          rw [HVL.out] at hv
          subst hv
          have x0 := HC4.out.1
          have xf := HC4.out.2
          have HO5 : Hid (OwnW (wr.alloc (.cells #[.slice Al K cl] 71)) W1.heap.size (.slice Av i cv) vs) := Lib.hid (World.ownsRow.alloc HO4.out _)
          have ha : Below wr.heap.size wr (wr.alloc (.cells #[.slice Al K cl] 71)) := (Below.refl _ wr).alloc (Nat.le_refl _) _
          have HR5 := Lib.hid ((HRr4.out.snoc (c := cl) HIN.out).map (fun A n l h => h.below ha))
          have HB5' : Hid (Below b5 W0 (wr.alloc (.cells #[.slice Al K cl] 71))) := Lib.hid (HBb4.out.trans (ha.mono (by have := HZ4.out; have := HLW.out; omega)))
          have HZ5 : Hid (W1.heap.size ≤ (wr.alloc (.cells #[.slice Al K cl] 71)).heap.size) := Lib.hid (Nat.le_trans HZ4.out ha.size)
          have HC5 : Hid ((wr.alloc (.cells #[.slice Al K cl] 71)).heap[b5]? = wr.heap[b5]?) := Lib.hid (Below.heap_alloc _ _ _ (by have := HZ4.out; have := HLW.out; omega))
          have HG5 : Hid (∀ j, j < ps.length → (wr.alloc (.cells #[.slice Al K cl] 71)).cell? ⟨g, j, none⟩ = some (strc (ps.getD j []))) := Lib.hid (fun j hj => (ha.cell (p := ⟨g, j, none⟩) (by have := HZ4.out; have := HGL.out; show g < _; omega)).trans (HG4.out j hj))
          clear ha
          go_wp2_with (at_builtin; refine wpl_appM rfl (.tmp 47) (.tmp 49) rfl W1.heap.size (.slice Av i cv) vs rfl HO5.out wr.heap.size Al K cl rfl (by simp) (by rw [HVL.out]; have := HPL.out; have := HIL.out; omega) HZ5.out ?_; intro g3 c3 w6 hown2 hgr2 hat2; (have hb52 : w6.heap[b5]? = wr.heap[b5]? := (hgr2.block b5 (by have := HZ5.out; have := HLW.out; omega) (fun e2 => by have h := own_ge HO5.out b5 e2.symm; have := HLW.out; omega)).trans HC5.out); (have y0 : w6.cell? ⟨b5, 0, none⟩ = some (.slice Av i cv) := (World.cell?_of_block hb52).trans HC4.out.1); (have yf : w6.frozen? ⟨b5, 0, none⟩ = false := (World.frozen?_of_block hb52).trans HC4.out.2); (have HG6 : Hid (w6.heap[g]? = (wr.alloc (.cells #[.slice Al K cl] 71)).heap[g]?) := Lib.hid (hgr2.block g (by have := HZ5.out; have := HGL.out; omega) (fun e2 => by have h := own_ge HO5.out g e2.symm; have := HGL.out; omega))); (have HOWN2 := Lib.hid hown2); (have HGR2 := Lib.hid hgr2); (have HAT2 := Lib.hid hat2); clear hown2 hgr2 hat2 hb52)
          go_roundw
          case rel =>
            have hV : (Value.slice (some ⟨g3, 0, none⟩) (vs.length + 1) c3).ownBlock = (Value.slice Av i cv).ownBlock ∨ (Value.slice (some ⟨g3, 0, none⟩) (vs.length + 1) c3).ownBlock = some (wr.alloc (.cells #[.slice Al K cl] 71)).heap.size := HAT2.out
            refine ⟨i + 1, .slice (some ⟨g3, 0, none⟩) (vs.length + 1) c3, vs ++ [.slice Al K cl], by omega, rfl, HOK2, Lib.hid ⟨World.cell?_setCell_same _ _ _ y0, by simp [yf]⟩, Lib.hid ?_, Lib.hid ?_, Lib.hid ?_, Lib.hid ?_, Lib.hid ?_⟩
            · have h := HOWN2.out
              refine ⟨h.1, ?_⟩
              rcases h.2 with h | ⟨g', cap, cur, hv, hbg, hh, r⟩
              · exact .inl h
              · refine .inr ⟨g', cap, cur, hv, hbg, ?_, r⟩
                rw [Below.heap_setCell _ _ _ _ (by have := HLW.out; show g' ≠ b5; omega)]
                exact hh
            · rw [HTS.out]
              exact (HR5.out.map (fun A n l h => h.grown HGR2.out hV)).map (fun A n l h => h.setBox (Nat.le_refl _))
            · exact (HB5'.out.grown HGR2.out (by have := HZ5.out; have := HLW.out; omega) (fun g hg => by have h := own_ge HO5.out g hg; have := HLW.out; omega)).setCell (p := ⟨b5, 0, none⟩) (Nat.le_refl _) _
            · have := HGR2.out.size; have := HZ5.out; simp; omega
            · intro j hj
              rw [World.cell?_setCell_other _ _ _ _ (by simp; have := HGL.out; omega)]
              exact (World.cell?_of_block (a := ⟨g, j, none⟩) HG6.out).trans (HG5.out j hj)
          case measure => simp [intOf]; omega
    · have hd : decide ((i : Int) < (ps.length : Int)) = false := decide_eq_false (by omega)
      have HOK : Hid (okR ps = true) := Lib.hid (allS_at (fun j hj => HD.out j (by omega)))
      have HLN : Hid ((docR ps).length = ps.length) := Lib.hid (by unfold docR; rw [List.length_map])
      have HRF : Hid (RowL wo b5 v vs (docR ps)) := Lib.hid (by have h := HR.out; rw [List.take_of_length_le (by omega)] at h; exact h)
      obtain ⟨Av, cv, hv⟩ := HO.out.shape
      rw [HRF.out.1, HLN.out] at hv
      subst hv
      have HSMALL : Hid (Small (docR ps)) := Lib.hid (fun l hl x hx => by have := docR_small HOK.out l hl x hx; omega)
      have HRF := HRF
      have HZ2 : Hid (wo.cell? ⟨w.heap.size, 0, none⟩ = some (.slice none 0 0) ∧ wo.frozen? ⟨w.heap.size, 0, none⟩ = false) := Lib.hid ⟨cell1 HX0o.out, by simp only [World.frozen?, HX0o.out]; rfl⟩
      obtain ⟨q, hq⟩ : ∃ q, rightR (docR ps) = q := ⟨_, rfl⟩
      have HQ := Lib.hid hq
      clear hq hi
      go_upto_region 16 with fail
      refine wp_region_inv (by kernel_rfl) (I := PdJ w b5 W1.heap.size Av ps.length cv vs (docR ps) q _ _ _ _ _ _ _ _ _ _ _ _ _ _ _ _ _ _ _ _ _ _ _ _ _ _ _ _ _ _ _ _ _ _ _ _ _ _ _ _ _ _ _ _ _ _ _ _ _ _ _) (.mk false false false false false _ _ _ _ _ ⟨HBWo.out.drew, HZ.out, HC.out.1, fun _ => HZ2.out, HO.out, HRF.out, nofun, nofun, nofun, nofun, nofun⟩) ?step ?fin
      case step =>
        rintro lq a' w' ix ⟨b0, b1, b2, b3, b4, v3, v52, v53, v54, _, HT⟩ hi
        obtain ⟨hi_, hib⟩ := ready_lt hi
        have HTH := Lib.hid HT
        match ix, hi_, hi, hib with
        | 0, _, hi, hib =>
          have u0 := HT.u
          clear HT
          refine wpOp_one rfl rfl (fun K hK => ?_)
          go_simp
          exact hK.out _ _ (.mk true b1 b2 b3 b4 _ _ _ _ _ { HTH.out with h0 := fun _ => rfl })
        | 1, _, hi, hib =>
          have u0 := HT.u
          clear HT
          refine wpOp_one rfl rfl (fun K hK => ?_)
          go_simp
          exact hK.out _ _ (.mk b0 true b2 b3 b4 _ _ _ _ _ { HTH.out with h1 := fun _ => rfl })
        | 2, _, hi, hib =>
          have d1 : b1 = true := ready_dep hi rfl 1 (by kernel_rfl)
          have hd1 := HT.h1 d1
          subst hd1
          have hrd : RdR w' w'.heap.size Av ps.length (docR ps) := by
            have h1 := HT.row
            have h2 := HT.own
            rw [← HLN.out] at h1 h2 ⊢
            exact RowL.rdD h1 (base := W1.heap.size) h2 rfl
          have HC := Lib.hid (RefRgRight_any Av ps.length cv (docR ps) w' w'.heap.size hrd (Nat.le_refl _) HSMALL.out)
          rw [HQ.out] at HC
          clear HT hrd
          refine wpOp_one rfl rfl (fun K hK => ?_)
          go_simp
          refine HC.out.mono ?_
          rintro e w2 ⟨rfl, hb⟩
          have hlb : b5 < w'.heap.size := by have := HTH.out.sz; have := HLW.out; omega
          have hlw : w.heap.size < w'.heap.size := by have := HLW.out; omega
          exact hK.out _ _ (.mk b0 b1 true b3 b4 _ _ _ _ _ { HTH.out with bel := HTH.out.bel.trans (hb.mono HTH.out.bel.size), sz := Nat.le_trans HTH.out.sz hb.size, u := (hb.cell (p := ⟨b5, 0, none⟩) hlb).trans HTH.out.u, z := fun h => ⟨(hb.cell (p := ⟨w.heap.size, 0, none⟩) hlw).trans (HTH.out.z h).1, (hb.frozen (p := ⟨w.heap.size, 0, none⟩) hlw).trans (HTH.out.z h).2⟩, own := own_kept HTH.out.own hb, row := HTH.out.row.map (fun A n l h => h.below hb), h3 := fun h => (hb.cell (p := ⟨w.heap.size, 0, none⟩) hlw).trans (HTH.out.h3 h), h2 := fun _ => rfl })
        | 3, _, hi, hib =>
          have d0 : b0 = true := ready_dep hi rfl 0 (by kernel_rfl)
          have hd0 := HT.h0 d0
          subst hd0
          obtain rfl : b3 = false := by simpa using hib
          obtain ⟨z0, zf⟩ := HT.z rfl
          clear HT
          refine wpOp_one rfl rfl (fun K hK => ?_)
          go_simp
          refine hK.out _ _ (.mk b0 b1 b2 true b4 _ _ _ _ _ { HTH.out with bel := ?_, sz := ?_, u := ?_, z := nofun, own := ?_, row := ?_, h3 := fun _ => World.cell?_setCell_same _ _ _ z0 })
          · exact HTH.out.bel.setCell (p := ⟨w.heap.size, 0, none⟩) (Nat.le_refl _) _
          · simpa using HTH.out.sz
          · rw [World.cell?_setCell_other _ _ _ _ (by simp; have := HLW.out; omega)]; exact HTH.out.u
          · have h := HTH.out.own
            refine ⟨h.1, ?_⟩
            rcases h.2 with h | ⟨g', cap, cur, hv, hbg, hh, r⟩
            · exact .inl h
            · refine .inr ⟨g', cap, cur, hv, hbg, ?_, r⟩
              rw [Below.heap_setCell _ _ _ _ (by have := HLW.out; show g' ≠ w.heap.size; omega)]
              exact hh
          · exact HTH.out.row.map (fun A n l h => h.setBox (k := w.heap.size) (by have := HLW.out; omega))
        | 4, _, hi, hib =>
          have d2 : b2 = true := ready_dep hi rfl 2 (by kernel_rfl)
          have hd2 := HT.h2 d2
          subst hd2
          clear HT
          refine wpOp_one rfl rfl (fun K hK => ?_)
          go_simp
          exact hK.out _ _ (.mk b0 b1 b2 b3 true _ _ _ _ _ { HTH.out with h4 := fun _ => rfl })
      case fin =>
        rintro lq a' w' ⟨b0, b1, b2, b3, b4, v3, v52, v53, v54, _, HT⟩ hr
        obtain rfl : b0 = true := by
          cases b0 with
          | true => rfl
          | false => exact (ready_in 0 rfl rfl (by simp [Region.binds]) hr).elim
        obtain rfl : b1 = true := by
          cases b1 with
          | true => rfl
          | false => exact (ready_in 1 rfl rfl (by simp [Region.binds]) hr).elim
        obtain rfl : b2 = true := by
          cases b2 with
          | true => rfl
          | false => exact (ready_in 2 rfl rfl (by simp [Region.binds]) hr).elim
        obtain rfl : b3 = true := by
          cases b3 with
          | true => rfl
          | false => exact (ready_in 3 rfl rfl (by simp [Region.binds]) hr).elim
        obtain rfl : b4 = true := by
          cases b4 with
          | true => rfl
          | false => exact (ready_in 4 rfl rfl (by simp [Region.binds]) hr).elim
        have k0 := HT.h0 rfl
        have k1 := HT.h1 rfl
        have k2 := HT.h2 rfl
        have k4 := HT.h4 rfl
        subst k0 k1 k2 k4
        have g0 := HT.h3 rfl
        have HB2 := Lib.hid HT.bel
        have HRD : Hid (RdR w' w'.heap.size Av ps.length (docR ps)) := Lib.hid (by
          have h1 := HT.row
          have h2 := HT.own
          rw [← HLN.out] at h1 h2 ⊢
          exact RowL.rdD h1 (base := W1.heap.size) h2 rfl)
        clear HT hr
        show _
        go_wp2
        refine bodyPost_ret (v := .tuple #[.agg #[.slice Av ps.length cv], .bool q]) (by simp [results, Tryz.results111, go_sem, g0]) rfl ⟨⟨ps, HFU.out, (fun h => by rw [HOK.out] at h; cases h), (fun _ => ⟨Av, cv, by rw [HQ.out], HRD.out⟩)⟩, HB2.out⟩
end Go.Proofs.YtpnbbbhbbnemlaaGreatDoor
