/-
  CONTRACT of the document's own package of layer 2: Upper.
-/
import Derived.Test.YtebflhlgcpbikaaGreatRTil
import Derived.Test.YtebflhlgcpbikaaGreatInv
namespace Go.Proofs.YtebflhlgcpbikaaGreat
open Go.RowKit
open SemP
set_option linter.unusedVariables false
set_option linter.unusedSimpArgs false
set_option maxRecDepth 100000
structure UpSt (w : World) (x y z : Int) (r : Bool) (b0 b1 b2 b3 b4 : Bool) (v3 v41 v42 v43 : Value) (w' : World) : Prop where
  bel : Below w.heap.size w w'
  u : At4 w' (w.heap.size + 1 + 1) x y z ⟨#[]⟩
  z4 : b3 = false → At4 w' (w.heap.size + 1) 0 0 0 ⟨#[]⟩
  h0 : b0 = true → v41 = verV x y z ⟨#[]⟩
  h1 : b1 = true → v42 = verV x y z ⟨#[]⟩
  h2 : b2 = true → v43 = .bool r
  h3 : b3 = true → At4 w' (w.heap.size + 1) x y z ⟨#[]⟩
  h4 : b4 = true → v3 = .bool r
inductive UpJ (w : World) (x y z : Int) (r : Bool) (p0 p1 p2 p4 p5 p6 p7 p8 p9 p10 p11 p12 p13 p14 p15 p16 p17 p18 p19 p20 p21 p22 p23 p24 p25 p26 p27 p28 p29 p30 p31 p32 p33 p34 p35 p36 p37 p38 p39 p40 : Value) : Array Bool → Act → World → Prop where
  | mk (b0 b1 b2 b3 b4 : Bool) (v3 v41 v42 v43 : Value) (w' : World) : UpSt w x y z r b0 b1 b2 b3 b4 v3 v41 v42 v43 w' → UpJ w x y z r p0 p1 p2 p4 p5 p6 p7 p8 p9 p10 p11 p12 p13 p14 p15 p16 p17 p18 p19 p20 p21 p22 p23 p24 p25 p26 p27 p28 p29 p30 p31 p32 p33 p34 p35 p36 p37 p38 p39 p40 #[b0, b1, b2, b3, b4] { tmps := List.toArray (p0 :: p1 :: p2 :: v3 :: p4 :: p5 :: p6 :: p7 :: p8 :: p9 :: p10 :: p11 :: p12 :: p13 :: p14 :: p15 :: p16 :: p17 :: p18 :: p19 :: p20 :: p21 :: p22 :: p23 :: p24 :: p25 :: p26 :: p27 :: p28 :: p29 :: p30 :: p31 :: p32 :: p33 :: p34 :: p35 :: p36 :: p37 :: p38 :: p39 :: p40 :: v41 :: v42 :: v43 :: []), defers := [] } w'
theorem At4.drew {w : World} {g : Nat} {a b c : Int} {s : ByteArray} (h : At4 w g a b c s) : At4 w.drew g a b c s := h.block rfl
set_option maxHeartbeats 4000000 in
theorem Upper_any (op a b c : Int) (s : ByteArray) (w : World) (ha : -9000000000 < a ∧ a < 9000000000) (hb : -9000000000 < b ∧ b < 9000000000) (hc : -9000000000 < c ∧ c < 9000000000) :
    Calls Tryz.prog 103 #[compV op a b c s] w fun e w' => e = .returned (.tuple #[verV (upV op a b c).1 (upV op a b c).2.1 (upV op a b c).2.2 ⟨#[]⟩, .bool (Ver.right ⟨(upV op a b c).1, (upV op a b c).2.1, (upV op a b c).2.2, []⟩)]) ∧ Below w.heap.size w w' := by
  have hwa : IntKind.i64.wrap (a + 1) = a + 1 := by rw [IntWalk.i64_in _ (by omega)]
  have hwb : IntKind.i64.wrap (b + 1) = b + 1 := by rw [IntWalk.i64_in _ (by omega)]
  have hwc : IntKind.i64.wrap (c + 1) = c + 1 := by rw [IntWalk.i64_in _ (by omega)]
  have hX0 : ((w.alloc (.cells #[.int .i64 op, .int .i64 a, .int .i64 b, .int .i64 c, .string s] 117)).alloc (.cells #[.int .i64 0, .int .i64 0, .int .i64 0, .string ⟨#[]⟩] 76)).heap[w.heap.size]? = some (.cells #[.int .i64 op, .int .i64 a, .int .i64 b, .int .i64 c, .string s] 117) := by
    rw [Below.heap_alloc _ _ _ (by simp)]; exact World.alloc_heap_new _ _
  have hX1 : (((w.alloc (.cells #[.int .i64 op, .int .i64 a, .int .i64 b, .int .i64 c, .string s] 117)).alloc (.cells #[.int .i64 0, .int .i64 0, .int .i64 0, .string ⟨#[]⟩] 76)).alloc (.cells #[.int .i64 a, .int .i64 (b + 1), .int .i64 0, .string ⟨#[]⟩] 76)).heap[w.heap.size]? = some (.cells #[.int .i64 op, .int .i64 a, .int .i64 b, .int .i64 c, .string s] 117) := by
    rw [Below.heap_alloc _ _ _ (by simp; omega)]; exact hX0
  obtain ⟨x0, x1, x2, x3, x4⟩ := cells5 hX0
  obtain ⟨y0, y1, y2, y3, y4⟩ := cells5 hX1
  clear hX0 hX1
  have HR := Lib.hid (fun x y z W => RefRight_any x y z ⟨#[]⟩ W (by decide))
  by_cases h6 : op = 6
  · subst h6
    by_cases ha0 : 0 < a
    · have da : decide (0 < a) = true := decide_eq_true ha0
      have HU : Hid (upV 6 a b c = ((a + 1), 0, 0)) := Lib.hid (by unfold upV; rw [if_pos ⟨rfl, ha0⟩])
      have hZ : (((w.alloc (.cells #[.int .i64 6, .int .i64 a, .int .i64 b, .int .i64 c, .string s] 117)).alloc (.cells #[.int .i64 0, .int .i64 0, .int .i64 0, .string ⟨#[]⟩] 76)).alloc (.cells #[.int .i64 (a + 1), .int .i64 0, .int .i64 0, .string ⟨#[]⟩] 76)).heap[w.heap.size + 1]? = some (.cells #[.int .i64 0, .int .i64 0, .int .i64 0, .string ⟨#[]⟩] 76) := by
        rw [Below.heap_alloc _ _ _ (by simp)]
        have h := World.alloc_heap_new (w.alloc (.cells #[.int .i64 6, .int .i64 a, .int .i64 b, .int .i64 c, .string s] 117)) (.cells #[.int .i64 0, .int .i64 0, .int .i64 0, .string ⟨#[]⟩] 76)
        rw [World.size_alloc] at h; exact h
      have HZ := Lib.hid (At4.of_heap hZ)
      have HB : Hid (Below w.heap.size w (((w.alloc (.cells #[.int .i64 6, .int .i64 a, .int .i64 b, .int .i64 c, .string s] 117)).alloc (.cells #[.int .i64 0, .int .i64 0, .int .i64 0, .string ⟨#[]⟩] 76)).alloc (.cells #[.int .i64 (a + 1), .int .i64 0, .int .i64 0, .string ⟨#[]⟩] 76))) := Lib.hid ((((Below.refl _ w).alloc (Nat.le_refl _) _).alloc (by simp) _).alloc (by first | (simp; done) | (simp; omega)) _)
      have HLU : Hid (w.heap.size + 1 + 1 < (((w.alloc (.cells #[.int .i64 6, .int .i64 a, .int .i64 b, .int .i64 c, .string s] 117)).alloc (.cells #[.int .i64 0, .int .i64 0, .int .i64 0, .string ⟨#[]⟩] 76)).alloc (.cells #[.int .i64 (a + 1), .int .i64 0, .int .i64 0, .string ⟨#[]⟩] 76)).heap.size) := Lib.hid (by first | (simp; done) | (simp; omega))
      have HLT : Hid (w.heap.size + 1 < (((w.alloc (.cells #[.int .i64 6, .int .i64 a, .int .i64 b, .int .i64 c, .string s] 117)).alloc (.cells #[.int .i64 0, .int .i64 0, .int .i64 0, .string ⟨#[]⟩] 76)).alloc (.cells #[.int .i64 (a + 1), .int .i64 0, .int .i64 0, .string ⟨#[]⟩] 76)).heap.size) := Lib.hid (by first | (simp; done) | (simp; omega))
      have hu0 : _ := World.alloc_heap_new ((w.alloc (.cells #[.int .i64 6, .int .i64 a, .int .i64 b, .int .i64 c, .string s] 117)).alloc (.cells #[.int .i64 0, .int .i64 0, .int .i64 0, .string ⟨#[]⟩] 76)) (.cells #[.int .i64 ((a + 1)), .int .i64 (0), .int .i64 (0), .string ⟨#[]⟩] 76)
      clear hZ
      rw [World.size_alloc, World.size_alloc] at hu0
      obtain ⟨u0, u1, u2, u3⟩ := cells4 hu0
      have HU4 := Lib.hid (At4.of_heap hu0)
      clear hu0
      go_enter Tryz.func103, Tryz.ntmps103
      go_upto_region 6 with fail
      generalize hWW : (((w.alloc (.cells #[.int .i64 6, .int .i64 a, .int .i64 b, .int .i64 c, .string s] 117)).alloc (.cells #[.int .i64 0, .int .i64 0, .int .i64 0, .string ⟨#[]⟩] 76)).alloc (.cells #[.int .i64 (a + 1), .int .i64 0, .int .i64 0, .string ⟨#[]⟩] 76)) = WW at HZ HB HLT HLU HU4 u0 u1 u2 u3 ⊢
      clear hWW x0 x1 x2 x3 x4 y0 y1 y2 y3 y4
      obtain ⟨r, hrr⟩ : ∃ r, Ver.right ⟨(a + 1), 0, 0, []⟩ = r := ⟨_, rfl⟩
      have HRR := Lib.hid hrr
      clear hrr u0 u1 u2 u3
      refine wp_region_inv (by kernel_rfl) (I := UpJ w ((a + 1)) (0) (0) r _ _ _ _ _ _ _ _ _ _ _ _ _ _ _ _ _ _ _ _ _ _ _ _ _ _ _ _ _ _ _ _ _ _ _ _ _ _ _ _) (.mk false false false false false _ _ _ _ _ ⟨HB.out.drew, HU4.out.drew, fun _ => HZ.out.drew, nofun, nofun, nofun, nofun, nofun⟩) ?step ?fin
      case step =>
        rintro l a' w' i ⟨b0, b1, b2, b3, b4, v3, v41, v42, v43, _, HT⟩ hi
        obtain ⟨hi_, hib⟩ := ready_lt hi
        have HTH := Lib.hid HT
        match i, hi_, hi, hib with
        | 0, _, hi, hib =>
          obtain ⟨u0, u1, u2, u3, _, _, _, _⟩ := HT.u
          clear HT
          refine wpOp_one rfl rfl (fun K hK => ?_)
          go_simp
          exact hK.out _ _ (.mk true b1 b2 b3 b4 _ _ _ _ _ { HTH.out with h0 := fun _ => rfl })
        | 1, _, hi, hib =>
          obtain ⟨u0, u1, u2, u3, _, _, _, _⟩ := HT.u
          clear HT
          refine wpOp_one rfl rfl (fun K hK => ?_)
          go_simp
          exact hK.out _ _ (.mk b0 true b2 b3 b4 _ _ _ _ _ { HTH.out with h1 := fun _ => rfl })
        | 2, _, hi, hib =>
          have d1 : b1 = true := ready_dep hi rfl 1 (by kernel_rfl)
          have hd1 := HT.h1 d1
          subst hd1
          have HC := Lib.hid (HR.out ((a + 1)) (0) (0) w')
          rw [show Ver.right ⟨(a + 1), 0, 0, bs ⟨#[]⟩⟩ = r from HRR.out] at HC
          clear HT
          refine wpOp_one rfl rfl (fun K hK => ?_)
          go_simp
          refine HC.out.mono ?_
          rintro e w2 ⟨rfl, hb⟩
          exact hK.out _ _ (.mk b0 b1 true b3 b4 _ _ _ _ _ { HTH.out with bel := HTH.out.bel.trans (hb.mono HTH.out.bel.size), u := HTH.out.u.block (hb.block _ HTH.out.u.lt), z4 := fun h => (HTH.out.z4 h).block (hb.block _ (HTH.out.z4 h).lt), h3 := fun h => (HTH.out.h3 h).block (hb.block _ (HTH.out.h3 h).lt), h2 := fun _ => rfl })
        | 3, _, hi, hib =>
          have d0 : b0 = true := ready_dep hi rfl 0 (by kernel_rfl)
          have hd0 := HT.h0 d0
          subst hd0
          obtain rfl : b3 = false := by simpa using hib
          have h4 := HT.z4 rfl
          obtain ⟨z0, z1, z2, z3, e0, e1, e2, e3⟩ := h4
          clear HT
          refine wpOp_one rfl rfl (fun K hK => ?_)
          go_simp
          refine hK.out _ _ (.mk b0 b1 b2 true b4 _ _ _ _ _ { HTH.out with bel := ?_, u := ?_, z4 := nofun, h3 := fun _ => ?_ })
          · have h := set4_below HTH.out.bel (show w.heap.size ≤ w.heap.size + 1 by omega) ((a + 1)) (0) (0) ⟨#[]⟩
            simp only [set4] at h
            exact h
          · have h := HTH.out.u.block (set4_block w' (w.heap.size + 1) ((a + 1)) (0) (0) ⟨#[]⟩ (w.heap.size + 1 + 1) (by omega))
            simp only [set4] at h
            exact h
          · have h := (HTH.out.z4 rfl).set (a' := (a + 1)) (b' := 0) (c' := 0) (s' := ⟨#[]⟩)
            simp only [set4] at h
            exact h
        | 4, _, hi, hib =>
          have d2 : b2 = true := ready_dep hi rfl 2 (by kernel_rfl)
          have hd2 := HT.h2 d2
          subst hd2
          clear HT
          refine wpOp_one rfl rfl (fun K hK => ?_)
          go_simp
          exact hK.out _ _ (.mk b0 b1 b2 b3 true _ _ _ _ _ { HTH.out with h4 := fun _ => rfl })
      case fin =>
        rintro l a' w' ⟨b0, b1, b2, b3, b4, v3, v41, v42, v43, _, HT⟩ hr
        obtain rfl : b0 = true := by
          cases b0 with
          | true => rfl
          | false => exact (ready_in 0 rfl rfl (by simp [Region.binds]) hr).elim
        obtain rfl : b1 = true := by
          cases b1 with
          | true => rfl
          | false => exact (ready_in 1 rfl rfl (by simp [Region.binds]) hr).elim
        obtain rfl : b2 = true := by
          cases b2 with
          | true => rfl
          | false => exact (ready_in 2 rfl rfl (by simp [Region.binds]) hr).elim
        obtain rfl : b3 = true := by
          cases b3 with
          | true => rfl
          | false => exact (ready_in 3 rfl rfl (by simp [Region.binds]) hr).elim
        obtain rfl : b4 = true := by
          cases b4 with
          | true => rfl
          | false => exact (ready_in 4 rfl rfl (by simp [Region.binds]) hr).elim
        have k0 := HT.h0 rfl
        have k1 := HT.h1 rfl
        have k2 := HT.h2 rfl
        have k4 := HT.h4 rfl
        subst k0 k1 k2 k4
        obtain ⟨g0, g1, g2, g3, _, _, _, _⟩ := HT.h3 rfl
        have HB2 := Lib.hid HT.bel
        clear HT hr
        show _
        go_wp2
        refine bodyPost_ret (v := .tuple #[verV ((a + 1)) (0) (0) ⟨#[]⟩, .bool r]) (by simp [results, Tryz.results103, go_sem, g0, g1, g2, g3]) rfl ⟨by rw [HU.out, HRR.out], HB2.out⟩
    · have da : decide (0 < a) = false := decide_eq_false ha0
      by_cases hb0 : b = 0
      · subst hb0
        have HU : Hid (upV 6 a 0 c = (0, 0, (c + 1))) := Lib.hid (by unfold upV; rw [if_neg (fun h => ha0 h.2), if_pos ⟨rfl, rfl⟩])
        have hZ : (((w.alloc (.cells #[.int .i64 6, .int .i64 a, .int .i64 0, .int .i64 c, .string s] 117)).alloc (.cells #[.int .i64 0, .int .i64 0, .int .i64 0, .string ⟨#[]⟩] 76)).alloc (.cells #[.int .i64 0, .int .i64 0, .int .i64 (c + 1), .string ⟨#[]⟩] 76)).heap[w.heap.size + 1]? = some (.cells #[.int .i64 0, .int .i64 0, .int .i64 0, .string ⟨#[]⟩] 76) := by
          rw [Below.heap_alloc _ _ _ (by simp)]
          have h := World.alloc_heap_new (w.alloc (.cells #[.int .i64 6, .int .i64 a, .int .i64 0, .int .i64 c, .string s] 117)) (.cells #[.int .i64 0, .int .i64 0, .int .i64 0, .string ⟨#[]⟩] 76)
          rw [World.size_alloc] at h; exact h
        have HZ := Lib.hid (At4.of_heap hZ)
        have HB : Hid (Below w.heap.size w (((w.alloc (.cells #[.int .i64 6, .int .i64 a, .int .i64 0, .int .i64 c, .string s] 117)).alloc (.cells #[.int .i64 0, .int .i64 0, .int .i64 0, .string ⟨#[]⟩] 76)).alloc (.cells #[.int .i64 0, .int .i64 0, .int .i64 (c + 1), .string ⟨#[]⟩] 76))) := Lib.hid ((((Below.refl _ w).alloc (Nat.le_refl _) _).alloc (by simp) _).alloc (by first | (simp; done) | (simp; omega)) _)
        have HLU : Hid (w.heap.size + 1 + 1 < (((w.alloc (.cells #[.int .i64 6, .int .i64 a, .int .i64 0, .int .i64 c, .string s] 117)).alloc (.cells #[.int .i64 0, .int .i64 0, .int .i64 0, .string ⟨#[]⟩] 76)).alloc (.cells #[.int .i64 0, .int .i64 0, .int .i64 (c + 1), .string ⟨#[]⟩] 76)).heap.size) := Lib.hid (by first | (simp; done) | (simp; omega))
        have HLT : Hid (w.heap.size + 1 < (((w.alloc (.cells #[.int .i64 6, .int .i64 a, .int .i64 0, .int .i64 c, .string s] 117)).alloc (.cells #[.int .i64 0, .int .i64 0, .int .i64 0, .string ⟨#[]⟩] 76)).alloc (.cells #[.int .i64 0, .int .i64 0, .int .i64 (c + 1), .string ⟨#[]⟩] 76)).heap.size) := Lib.hid (by first | (simp; done) | (simp; omega))
        have hu0 : _ := World.alloc_heap_new ((w.alloc (.cells #[.int .i64 6, .int .i64 a, .int .i64 0, .int .i64 c, .string s] 117)).alloc (.cells #[.int .i64 0, .int .i64 0, .int .i64 0, .string ⟨#[]⟩] 76)) (.cells #[.int .i64 (0), .int .i64 (0), .int .i64 ((c + 1)), .string ⟨#[]⟩] 76)
        clear hZ
        rw [World.size_alloc, World.size_alloc] at hu0
        obtain ⟨u0, u1, u2, u3⟩ := cells4 hu0
        have HU4 := Lib.hid (At4.of_heap hu0)
        clear hu0
        go_enter Tryz.func103, Tryz.ntmps103
        go_upto_region 6 with fail
        generalize hWW : (((w.alloc (.cells #[.int .i64 6, .int .i64 a, .int .i64 0, .int .i64 c, .string s] 117)).alloc (.cells #[.int .i64 0, .int .i64 0, .int .i64 0, .string ⟨#[]⟩] 76)).alloc (.cells #[.int .i64 0, .int .i64 0, .int .i64 (c + 1), .string ⟨#[]⟩] 76)) = WW at HZ HB HLT HLU HU4 u0 u1 u2 u3 ⊢
        clear hWW x0 x1 x2 x3 x4 y0 y1 y2 y3 y4
        obtain ⟨r, hrr⟩ : ∃ r, Ver.right ⟨0, 0, (c + 1), []⟩ = r := ⟨_, rfl⟩
        have HRR := Lib.hid hrr
        clear hrr u0 u1 u2 u3
        refine wp_region_inv (by kernel_rfl) (I := UpJ w (0) (0) ((c + 1)) r _ _ _ _ _ _ _ _ _ _ _ _ _ _ _ _ _ _ _ _ _ _ _ _ _ _ _ _ _ _ _ _ _ _ _ _ _ _ _ _) (.mk false false false false false _ _ _ _ _ ⟨HB.out.drew, HU4.out.drew, fun _ => HZ.out.drew, nofun, nofun, nofun, nofun, nofun⟩) ?step ?fin
        case step =>
          rintro l a' w' i ⟨b0, b1, b2, b3, b4, v3, v41, v42, v43, _, HT⟩ hi
          obtain ⟨hi_, hib⟩ := ready_lt hi
          have HTH := Lib.hid HT
          match i, hi_, hi, hib with
          | 0, _, hi, hib =>
            obtain ⟨u0, u1, u2, u3, _, _, _, _⟩ := HT.u
            clear HT
            refine wpOp_one rfl rfl (fun K hK => ?_)
            go_simp
            exact hK.out _ _ (.mk true b1 b2 b3 b4 _ _ _ _ _ { HTH.out with h0 := fun _ => rfl })
          | 1, _, hi, hib =>
            obtain ⟨u0, u1, u2, u3, _, _, _, _⟩ := HT.u
            clear HT
            refine wpOp_one rfl rfl (fun K hK => ?_)
            go_simp
            exact hK.out _ _ (.mk b0 true b2 b3 b4 _ _ _ _ _ { HTH.out with h1 := fun _ => rfl })
          | 2, _, hi, hib =>
            have d1 : b1 = true := ready_dep hi rfl 1 (by kernel_rfl)
            have hd1 := HT.h1 d1
            subst hd1
            have HC := Lib.hid (HR.out (0) (0) ((c + 1)) w')
            rw [show Ver.right ⟨0, 0, (c + 1), bs ⟨#[]⟩⟩ = r from HRR.out] at HC
            clear HT
            refine wpOp_one rfl rfl (fun K hK => ?_)
            go_simp
            refine HC.out.mono ?_
            rintro e w2 ⟨rfl, hb⟩
            exact hK.out _ _ (.mk b0 b1 true b3 b4 _ _ _ _ _ { HTH.out with bel := HTH.out.bel.trans (hb.mono HTH.out.bel.size), u := HTH.out.u.block (hb.block _ HTH.out.u.lt), z4 := fun h => (HTH.out.z4 h).block (hb.block _ (HTH.out.z4 h).lt), h3 := fun h => (HTH.out.h3 h).block (hb.block _ (HTH.out.h3 h).lt), h2 := fun _ => rfl })
          | 3, _, hi, hib =>
            have d0 : b0 = true := ready_dep hi rfl 0 (by kernel_rfl)
            have hd0 := HT.h0 d0
            subst hd0
            obtain rfl : b3 = false := by simpa using hib
            have h4 := HT.z4 rfl
            obtain ⟨z0, z1, z2, z3, e0, e1, e2, e3⟩ := h4
            clear HT
            refine wpOp_one rfl rfl (fun K hK => ?_)
            go_simp
            refine hK.out _ _ (.mk b0 b1 b2 true b4 _ _ _ _ _ { HTH.out with bel := ?_, u := ?_, z4 := nofun, h3 := fun _ => ?_ })
            · have h := set4_below HTH.out.bel (show w.heap.size ≤ w.heap.size + 1 by omega) (0) (0) ((c + 1)) ⟨#[]⟩
              simp only [set4] at h
              exact h
            · have h := HTH.out.u.block (set4_block w' (w.heap.size + 1) (0) (0) ((c + 1)) ⟨#[]⟩ (w.heap.size + 1 + 1) (by omega))
              simp only [set4] at h
              exact h
            · have h := (HTH.out.z4 rfl).set (a' := 0) (b' := 0) (c' := (c + 1)) (s' := ⟨#[]⟩)
              simp only [set4] at h
              exact h
          | 4, _, hi, hib =>
            have d2 : b2 = true := ready_dep hi rfl 2 (by kernel_rfl)
            have hd2 := HT.h2 d2
            subst hd2
            clear HT
            refine wpOp_one rfl rfl (fun K hK => ?_)
            go_simp
            exact hK.out _ _ (.mk b0 b1 b2 b3 true _ _ _ _ _ { HTH.out with h4 := fun _ => rfl })
        case fin =>
          rintro l a' w' ⟨b0, b1, b2, b3, b4, v3, v41, v42, v43, _, HT⟩ hr
          obtain rfl : b0 = true := by
            cases b0 with
            | true => rfl
            | false => exact (ready_in 0 rfl rfl (by simp [Region.binds]) hr).elim
          obtain rfl : b1 = true := by
            cases b1 with
            | true => rfl
            | false => exact (ready_in 1 rfl rfl (by simp [Region.binds]) hr).elim
          obtain rfl : b2 = true := by
            cases b2 with
            | true => rfl
            | false => exact (ready_in 2 rfl rfl (by simp [Region.binds]) hr).elim
          obtain rfl : b3 = true := by
            cases b3 with
            | true => rfl
            | false => exact (ready_in 3 rfl rfl (by simp [Region.binds]) hr).elim
          obtain rfl : b4 = true := by
            cases b4 with
            | true => rfl
            | false => exact (ready_in 4 rfl rfl (by simp [Region.binds]) hr).elim
          have k0 := HT.h0 rfl
          have k1 := HT.h1 rfl
          have k2 := HT.h2 rfl
          have k4 := HT.h4 rfl
          subst k0 k1 k2 k4
          obtain ⟨g0, g1, g2, g3, _, _, _, _⟩ := HT.h3 rfl
          have HB2 := Lib.hid HT.bel
          clear HT hr
          show _
          go_wp2
          refine bodyPost_ret (v := .tuple #[verV (0) (0) ((c + 1)) ⟨#[]⟩, .bool r]) (by simp [results, Tryz.results103, go_sem, g0, g1, g2, g3]) rfl ⟨by rw [HU.out, HRR.out], HB2.out⟩
      · have db : (b == 0) = false := by rw [beq_eq_false_iff_ne]; exact hb0
        have HU : Hid (upV 6 a b c = (a, (b + 1), 0)) := Lib.hid (by unfold upV; rw [if_neg (fun h => ha0 h.2), if_neg (fun h => hb0 h.2)])
        have hZ : (((w.alloc (.cells #[.int .i64 6, .int .i64 a, .int .i64 b, .int .i64 c, .string s] 117)).alloc (.cells #[.int .i64 0, .int .i64 0, .int .i64 0, .string ⟨#[]⟩] 76)).alloc (.cells #[.int .i64 a, .int .i64 (b + 1), .int .i64 0, .string ⟨#[]⟩] 76)).heap[w.heap.size + 1]? = some (.cells #[.int .i64 0, .int .i64 0, .int .i64 0, .string ⟨#[]⟩] 76) := by
          rw [Below.heap_alloc _ _ _ (by simp)]
          have h := World.alloc_heap_new (w.alloc (.cells #[.int .i64 6, .int .i64 a, .int .i64 b, .int .i64 c, .string s] 117)) (.cells #[.int .i64 0, .int .i64 0, .int .i64 0, .string ⟨#[]⟩] 76)
          rw [World.size_alloc] at h; exact h
        have HZ := Lib.hid (At4.of_heap hZ)
        have HB : Hid (Below w.heap.size w (((w.alloc (.cells #[.int .i64 6, .int .i64 a, .int .i64 b, .int .i64 c, .string s] 117)).alloc (.cells #[.int .i64 0, .int .i64 0, .int .i64 0, .string ⟨#[]⟩] 76)).alloc (.cells #[.int .i64 a, .int .i64 (b + 1), .int .i64 0, .string ⟨#[]⟩] 76))) := Lib.hid ((((Below.refl _ w).alloc (Nat.le_refl _) _).alloc (by simp) _).alloc (by first | (simp; done) | (simp; omega)) _)
        have HLU : Hid (w.heap.size + 1 + 1 < (((w.alloc (.cells #[.int .i64 6, .int .i64 a, .int .i64 b, .int .i64 c, .string s] 117)).alloc (.cells #[.int .i64 0, .int .i64 0, .int .i64 0, .string ⟨#[]⟩] 76)).alloc (.cells #[.int .i64 a, .int .i64 (b + 1), .int .i64 0, .string ⟨#[]⟩] 76)).heap.size) := Lib.hid (by first | (simp; done) | (simp; omega))
        have HLT : Hid (w.heap.size + 1 < (((w.alloc (.cells #[.int .i64 6, .int .i64 a, .int .i64 b, .int .i64 c, .string s] 117)).alloc (.cells #[.int .i64 0, .int .i64 0, .int .i64 0, .string ⟨#[]⟩] 76)).alloc (.cells #[.int .i64 a, .int .i64 (b + 1), .int .i64 0, .string ⟨#[]⟩] 76)).heap.size) := Lib.hid (by first | (simp; done) | (simp; omega))
        have hu0 : _ := World.alloc_heap_new ((w.alloc (.cells #[.int .i64 6, .int .i64 a, .int .i64 b, .int .i64 c, .string s] 117)).alloc (.cells #[.int .i64 0, .int .i64 0, .int .i64 0, .string ⟨#[]⟩] 76)) (.cells #[.int .i64 (a), .int .i64 ((b + 1)), .int .i64 (0), .string ⟨#[]⟩] 76)
        clear hZ
        rw [World.size_alloc, World.size_alloc] at hu0
        obtain ⟨u0, u1, u2, u3⟩ := cells4 hu0
        have HU4 := Lib.hid (At4.of_heap hu0)
        clear hu0
        go_enter Tryz.func103, Tryz.ntmps103
        go_upto_region 6 with fail
        generalize hWW : (((w.alloc (.cells #[.int .i64 6, .int .i64 a, .int .i64 b, .int .i64 c, .string s] 117)).alloc (.cells #[.int .i64 0, .int .i64 0, .int .i64 0, .string ⟨#[]⟩] 76)).alloc (.cells #[.int .i64 a, .int .i64 (b + 1), .int .i64 0, .string ⟨#[]⟩] 76)) = WW at HZ HB HLT HLU HU4 u0 u1 u2 u3 ⊢
        clear hWW x0 x1 x2 x3 x4 y0 y1 y2 y3 y4
        obtain ⟨r, hrr⟩ : ∃ r, Ver.right ⟨a, (b + 1), 0, []⟩ = r := ⟨_, rfl⟩
        have HRR := Lib.hid hrr
        clear hrr u0 u1 u2 u3
        refine wp_region_inv (by kernel_rfl) (I := UpJ w (a) ((b + 1)) (0) r _ _ _ _ _ _ _ _ _ _ _ _ _ _ _ _ _ _ _ _ _ _ _ _ _ _ _ _ _ _ _ _ _ _ _ _ _ _ _ _) (.mk false false false false false _ _ _ _ _ ⟨HB.out.drew, HU4.out.drew, fun _ => HZ.out.drew, nofun, nofun, nofun, nofun, nofun⟩) ?step ?fin
        case step =>
          rintro l a' w' i ⟨b0, b1, b2, b3, b4, v3, v41, v42, v43, _, HT⟩ hi
          obtain ⟨hi_, hib⟩ := ready_lt hi
          have HTH := Lib.hid HT
          match i, hi_, hi, hib with
          | 0, _, hi, hib =>
            obtain ⟨u0, u1, u2, u3, _, _, _, _⟩ := HT.u
            clear HT
            refine wpOp_one rfl rfl (fun K hK => ?_)
            go_simp
            exact hK.out _ _ (.mk true b1 b2 b3 b4 _ _ _ _ _ { HTH.out with h0 := fun _ => rfl })
          | 1, _, hi, hib =>
            obtain ⟨u0, u1, u2, u3, _, _, _, _⟩ := HT.u
            clear HT
            refine wpOp_one rfl rfl (fun K hK => ?_)
            go_simp
            exact hK.out _ _ (.mk b0 true b2 b3 b4 _ _ _ _ _ { HTH.out with h1 := fun _ => rfl })
          | 2, _, hi, hib =>
            have d1 : b1 = true := ready_dep hi rfl 1 (by kernel_rfl)
            have hd1 := HT.h1 d1
            subst hd1
            have HC := Lib.hid (HR.out (a) ((b + 1)) (0) w')
            rw [show Ver.right ⟨a, (b + 1), 0, bs ⟨#[]⟩⟩ = r from HRR.out] at HC
            clear HT
            refine wpOp_one rfl rfl (fun K hK => ?_)
            go_simp
            refine HC.out.mono ?_
            rintro e w2 ⟨rfl, hb⟩
            exact hK.out _ _ (.mk b0 b1 true b3 b4 _ _ _ _ _ { HTH.out with bel := HTH.out.bel.trans (hb.mono HTH.out.bel.size), u := HTH.out.u.block (hb.block _ HTH.out.u.lt), z4 := fun h => (HTH.out.z4 h).block (hb.block _ (HTH.out.z4 h).lt), h3 := fun h => (HTH.out.h3 h).block (hb.block _ (HTH.out.h3 h).lt), h2 := fun _ => rfl })
          | 3, _, hi, hib =>
            have d0 : b0 = true := ready_dep hi rfl 0 (by kernel_rfl)
            have hd0 := HT.h0 d0
            subst hd0
            obtain rfl : b3 = false := by simpa using hib
            have h4 := HT.z4 rfl
            obtain ⟨z0, z1, z2, z3, e0, e1, e2, e3⟩ := h4
            clear HT
            refine wpOp_one rfl rfl (fun K hK => ?_)
            go_simp
            refine hK.out _ _ (.mk b0 b1 b2 true b4 _ _ _ _ _ { HTH.out with bel := ?_, u := ?_, z4 := nofun, h3 := fun _ => ?_ })
            · have h := set4_below HTH.out.bel (show w.heap.size ≤ w.heap.size + 1 by omega) (a) ((b + 1)) (0) ⟨#[]⟩
              simp only [set4] at h
              exact h
            · have h := HTH.out.u.block (set4_block w' (w.heap.size + 1) (a) ((b + 1)) (0) ⟨#[]⟩ (w.heap.size + 1 + 1) (by omega))
              simp only [set4] at h
              exact h
            · have h := (HTH.out.z4 rfl).set (a' := a) (b' := (b + 1)) (c' := 0) (s' := ⟨#[]⟩)
              simp only [set4] at h
              exact h
          | 4, _, hi, hib =>
            have d2 : b2 = true := ready_dep hi rfl 2 (by kernel_rfl)
            have hd2 := HT.h2 d2
            subst hd2
            clear HT
            refine wpOp_one rfl rfl (fun K hK => ?_)
            go_simp
            exact hK.out _ _ (.mk b0 b1 b2 b3 true _ _ _ _ _ { HTH.out with h4 := fun _ => rfl })
        case fin =>
          rintro l a' w' ⟨b0, b1, b2, b3, b4, v3, v41, v42, v43, _, HT⟩ hr
          obtain rfl : b0 = true := by
            cases b0 with
            | true => rfl
            | false => exact (ready_in 0 rfl rfl (by simp [Region.binds]) hr).elim
          obtain rfl : b1 = true := by
            cases b1 with
            | true => rfl
            | false => exact (ready_in 1 rfl rfl (by simp [Region.binds]) hr).elim
          obtain rfl : b2 = true := by
            cases b2 with
            | true => rfl
            | false => exact (ready_in 2 rfl rfl (by simp [Region.binds]) hr).elim
          obtain rfl : b3 = true := by
            cases b3 with
            | true => rfl
            | false => exact (ready_in 3 rfl rfl (by simp [Region.binds]) hr).elim
          obtain rfl : b4 = true := by
            cases b4 with
            | true => rfl
            | false => exact (ready_in 4 rfl rfl (by simp [Region.binds]) hr).elim
          have k0 := HT.h0 rfl
          have k1 := HT.h1 rfl
          have k2 := HT.h2 rfl
          have k4 := HT.h4 rfl
          subst k0 k1 k2 k4
          obtain ⟨g0, g1, g2, g3, _, _, _, _⟩ := HT.h3 rfl
          have HB2 := Lib.hid HT.bel
          clear HT hr
          show _
          go_wp2
          refine bodyPost_ret (v := .tuple #[verV (a) ((b + 1)) (0) ⟨#[]⟩, .bool r]) (by simp [results, Tryz.results103, go_sem, g0, g1, g2, g3]) rfl ⟨by rw [HU.out, HRR.out], HB2.out⟩
  · have d6 : (op == 6) = false := by rw [beq_eq_false_iff_ne]; exact h6
    have HU : Hid (upV op a b c = (a, (b + 1), 0)) := Lib.hid (by unfold upV; rw [if_neg (fun h => h6 h.1), if_neg (fun h => h6 h.1)])
    have hZ : (((w.alloc (.cells #[.int .i64 op, .int .i64 a, .int .i64 b, .int .i64 c, .string s] 117)).alloc (.cells #[.int .i64 0, .int .i64 0, .int .i64 0, .string ⟨#[]⟩] 76)).alloc (.cells #[.int .i64 a, .int .i64 (b + 1), .int .i64 0, .string ⟨#[]⟩] 76)).heap[w.heap.size + 1]? = some (.cells #[.int .i64 0, .int .i64 0, .int .i64 0, .string ⟨#[]⟩] 76) := by
      rw [Below.heap_alloc _ _ _ (by simp)]
      have h := World.alloc_heap_new (w.alloc (.cells #[.int .i64 op, .int .i64 a, .int .i64 b, .int .i64 c, .string s] 117)) (.cells #[.int .i64 0, .int .i64 0, .int .i64 0, .string ⟨#[]⟩] 76)
      rw [World.size_alloc] at h; exact h
    have HZ := Lib.hid (At4.of_heap hZ)
    have HB : Hid (Below w.heap.size w (((w.alloc (.cells #[.int .i64 op, .int .i64 a, .int .i64 b, .int .i64 c, .string s] 117)).alloc (.cells #[.int .i64 0, .int .i64 0, .int .i64 0, .string ⟨#[]⟩] 76)).alloc (.cells #[.int .i64 a, .int .i64 (b + 1), .int .i64 0, .string ⟨#[]⟩] 76))) := Lib.hid ((((Below.refl _ w).alloc (Nat.le_refl _) _).alloc (by simp) _).alloc (by first | (simp; done) | (simp; omega)) _)
    have HLU : Hid (w.heap.size + 1 + 1 < (((w.alloc (.cells #[.int .i64 op, .int .i64 a, .int .i64 b, .int .i64 c, .string s] 117)).alloc (.cells #[.int .i64 0, .int .i64 0, .int .i64 0, .string ⟨#[]⟩] 76)).alloc (.cells #[.int .i64 a, .int .i64 (b + 1), .int .i64 0, .string ⟨#[]⟩] 76)).heap.size) := Lib.hid (by first | (simp; done) | (simp; omega))
    have HLT : Hid (w.heap.size + 1 < (((w.alloc (.cells #[.int .i64 op, .int .i64 a, .int .i64 b, .int .i64 c, .string s] 117)).alloc (.cells #[.int .i64 0, .int .i64 0, .int .i64 0, .string ⟨#[]⟩] 76)).alloc (.cells #[.int .i64 a, .int .i64 (b + 1), .int .i64 0, .string ⟨#[]⟩] 76)).heap.size) := Lib.hid (by first | (simp; done) | (simp; omega))
    have hu0 : _ := World.alloc_heap_new ((w.alloc (.cells #[.int .i64 op, .int .i64 a, .int .i64 b, .int .i64 c, .string s] 117)).alloc (.cells #[.int .i64 0, .int .i64 0, .int .i64 0, .string ⟨#[]⟩] 76)) (.cells #[.int .i64 (a), .int .i64 ((b + 1)), .int .i64 (0), .string ⟨#[]⟩] 76)
    clear hZ
    rw [World.size_alloc, World.size_alloc] at hu0
    obtain ⟨u0, u1, u2, u3⟩ := cells4 hu0
    have HU4 := Lib.hid (At4.of_heap hu0)
    clear hu0
    go_enter Tryz.func103, Tryz.ntmps103
    go_upto_region 6 with fail
    generalize hWW : (((w.alloc (.cells #[.int .i64 op, .int .i64 a, .int .i64 b, .int .i64 c, .string s] 117)).alloc (.cells #[.int .i64 0, .int .i64 0, .int .i64 0, .string ⟨#[]⟩] 76)).alloc (.cells #[.int .i64 a, .int .i64 (b + 1), .int .i64 0, .string ⟨#[]⟩] 76)) = WW at HZ HB HLT HLU HU4 u0 u1 u2 u3 ⊢
    clear hWW x0 x1 x2 x3 x4 y0 y1 y2 y3 y4
    obtain ⟨r, hrr⟩ : ∃ r, Ver.right ⟨a, (b + 1), 0, []⟩ = r := ⟨_, rfl⟩
    have HRR := Lib.hid hrr
    clear hrr u0 u1 u2 u3
    refine wp_region_inv (by kernel_rfl) (I := UpJ w (a) ((b + 1)) (0) r _ _ _ _ _ _ _ _ _ _ _ _ _ _ _ _ _ _ _ _ _ _ _ _ _ _ _ _ _ _ _ _ _ _ _ _ _ _ _ _) (.mk false false false false false _ _ _ _ _ ⟨HB.out.drew, HU4.out.drew, fun _ => HZ.out.drew, nofun, nofun, nofun, nofun, nofun⟩) ?step ?fin
    case step =>
      rintro l a' w' i ⟨b0, b1, b2, b3, b4, v3, v41, v42, v43, _, HT⟩ hi
      obtain ⟨hi_, hib⟩ := ready_lt hi
      have HTH := Lib.hid HT
      match i, hi_, hi, hib with
      | 0, _, hi, hib =>
        obtain ⟨u0, u1, u2, u3, _, _, _, _⟩ := HT.u
        clear HT
        refine wpOp_one rfl rfl (fun K hK => ?_)
        go_simp
        exact hK.out _ _ (.mk true b1 b2 b3 b4 _ _ _ _ _ { HTH.out with h0 := fun _ => rfl })
      | 1, _, hi, hib =>
        obtain ⟨u0, u1, u2, u3, _, _, _, _⟩ := HT.u
        clear HT
        refine wpOp_one rfl rfl (fun K hK => ?_)
        go_simp
        exact hK.out _ _ (.mk b0 true b2 b3 b4 _ _ _ _ _ { HTH.out with h1 := fun _ => rfl })
      | 2, _, hi, hib =>
        have d1 : b1 = true := ready_dep hi rfl 1 (by kernel_rfl)
        have hd1 := HT.h1 d1
        subst hd1
        have HC := Lib.hid (HR.out (a) ((b + 1)) (0) w')
        rw [show Ver.right ⟨a, (b + 1), 0, bs ⟨#[]⟩⟩ = r from HRR.out] at HC
        clear HT
        refine wpOp_one rfl rfl (fun K hK => ?_)
        go_simp
        refine HC.out.mono ?_
        rintro e w2 ⟨rfl, hb⟩
        exact hK.out _ _ (.mk b0 b1 true b3 b4 _ _ _ _ _ { HTH.out with bel := HTH.out.bel.trans (hb.mono HTH.out.bel.size), u := HTH.out.u.block (hb.block _ HTH.out.u.lt), z4 := fun h => (HTH.out.z4 h).block (hb.block _ (HTH.out.z4 h).lt), h3 := fun h => (HTH.out.h3 h).block (hb.block _ (HTH.out.h3 h).lt), h2 := fun _ => rfl })
      | 3, _, hi, hib =>
        have d0 : b0 = true := ready_dep hi rfl 0 (by kernel_rfl)
        have hd0 := HT.h0 d0
        subst hd0
        obtain rfl : b3 = false := by simpa using hib
        have h4 := HT.z4 rfl
        obtain ⟨z0, z1, z2, z3, e0, e1, e2, e3⟩ := h4
        clear HT
        refine wpOp_one rfl rfl (fun K hK => ?_)
        go_simp
        refine hK.out _ _ (.mk b0 b1 b2 true b4 _ _ _ _ _ { HTH.out with bel := ?_, u := ?_, z4 := nofun, h3 := fun _ => ?_ })
        · have h := set4_below HTH.out.bel (show w.heap.size ≤ w.heap.size + 1 by omega) (a) ((b + 1)) (0) ⟨#[]⟩
          simp only [set4] at h
          exact h
        · have h := HTH.out.u.block (set4_block w' (w.heap.size + 1) (a) ((b + 1)) (0) ⟨#[]⟩ (w.heap.size + 1 + 1) (by omega))
          simp only [set4] at h
          exact h
        · have h := (HTH.out.z4 rfl).set (a' := a) (b' := (b + 1)) (c' := 0) (s' := ⟨#[]⟩)
          simp only [set4] at h
          exact h
      | 4, _, hi, hib =>
        have d2 : b2 = true := ready_dep hi rfl 2 (by kernel_rfl)
        have hd2 := HT.h2 d2
        subst hd2
        clear HT
        refine wpOp_one rfl rfl (fun K hK => ?_)
        go_simp
        exact hK.out _ _ (.mk b0 b1 b2 b3 true _ _ _ _ _ { HTH.out with h4 := fun _ => rfl })
    case fin =>
      rintro l a' w' ⟨b0, b1, b2, b3, b4, v3, v41, v42, v43, _, HT⟩ hr
      obtain rfl : b0 = true := by
        cases b0 with
        | true => rfl
        | false => exact (ready_in 0 rfl rfl (by simp [Region.binds]) hr).elim
      obtain rfl : b1 = true := by
        cases b1 with
        | true => rfl
        | false => exact (ready_in 1 rfl rfl (by simp [Region.binds]) hr).elim
      obtain rfl : b2 = true := by
        cases b2 with
        | true => rfl
        | false => exact (ready_in 2 rfl rfl (by simp [Region.binds]) hr).elim
      obtain rfl : b3 = true := by
        cases b3 with
        | true => rfl
        | false => exact (ready_in 3 rfl rfl (by simp [Region.binds]) hr).elim
      obtain rfl : b4 = true := by
        cases b4 with
        | true => rfl
        | false => exact (ready_in 4 rfl rfl (by simp [Region.binds]) hr).elim
      have k0 := HT.h0 rfl
      have k1 := HT.h1 rfl
      have k2 := HT.h2 rfl
      have k4 := HT.h4 rfl
      subst k0 k1 k2 k4
      obtain ⟨g0, g1, g2, g3, _, _, _, _⟩ := HT.h3 rfl
      have HB2 := Lib.hid HT.bel
      clear HT hr
      show _
      go_wp2
      refine bodyPost_ret (v := .tuple #[verV (a) ((b + 1)) (0) ⟨#[]⟩, .bool r]) (by simp [results, Tryz.results103, go_sem, g0, g1, g2, g3]) rfl ⟨by rw [HU.out, HRR.out], HB2.out⟩
end Go.Proofs.YtebflhlgcpbikaaGreat
