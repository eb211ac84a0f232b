/-
  CONTRACT: plainList (printed by genrpl2.py).
-/
import Derived.Test.YtbmhjmdbolnbaaaDoorRPlP
import Derived.Test.YtbmhjmdbolnbaaaDoorRPl
namespace Go.Proofs.YtbmhjmdbolnbaaaDoor
open Go.RowKit
open SemP
set_option linter.unusedVariables false
set_option linter.unusedSimpArgs false
set_option maxRecDepth 100000
set_option maxHeartbeats 16000000 in
theorem plainList_any (A : Option Addr) (n cp : Nat) (l : List CV) (w : World) (B : Nat) (hr : RdC w B A n l) (hB : B ≤ w.heap.size) (hx : ∀ x ∈ l, x.right = true) (hn : n ≤ 20) (hm : LenAt w) (h1 : 1 < w.heap.size) :
    Calls Tryd.prog 66 #[.slice A n cp] w fun e w' => (∃ A2 c2, e = .returned (.slice A2 (plainLs l).length c2) ∧ RdC w' w'.heap.size A2 (plainLs l).length (plainLs l) ∧ ∀ b off, A2 = some ⟨b, off, none⟩ → w.heap.size ≤ b ∧ b < w'.heap.size) ∧ Below w.heap.size w w' := by
  have HR := Lib.hid hr
  have HXR := Lib.hid hx
  have HLE := Lib.hid hr.1
  have HM := Lib.hid (And.intro hm h1)
  have HBB := Lib.hid hB
  have HN20 := Lib.hid hn
  clear hr hx hm h1 hB hn
  go_enter Tryd.func66, Tryd.ntmps66
  go_wp2
  go_loopw [3, 5, 6, 7, 10] (fun v3 v5 v6 v7 v10 wr => ∃ (i : Nat), i ≤ n ∧ v10 = .int .i64 (i : Int) ∧ Hid (OwnC wr w.heap.size v3 (plainLs (l.take i))) ∧ Hid (Below w.heap.size w wr)) (fun _ _ _ _ v _ => n - (intOf v).toNat)
  case atStart => exact ⟨0, Nat.zero_le _, rfl, Lib.hid (OwnC.nil_ _ _), Lib.hid (Below.refl _ _)⟩
  case round =>
    obtain ⟨i, hi, rfl, HO, HB⟩ := hrel
    obtain ⟨A3, c3, hv3⟩ := HO.out.shape
    subst hv3
    obtain ⟨K, hK⟩ : ∃ K, (plainLs (l.take i)).length = K := ⟨_, rfl⟩
    have HK := Lib.hid hK
    have HK40 : Hid (K ≤ 40) := Lib.hid (by
      have h := plainLs_len (l.take i)
      rw [hK, List.length_take, HLE.out] at h
      have := HN20.out
      omega)
    rw [hK] at HO ⊢
    clear hK
    by_cases him : i < n
    · have hd : decide ((i : Int) < (n : Int)) = true := decide_eq_true (by omega)
      have hadd : IntKind.i64.wrap ((i : Int) + 1) = ((i + 1 : Nat) : Int) := by rw [IntWalk.i64_in _ (by have := HN20.out; omega)]; omega
      obtain ⟨b, off, rfl, hlt, q0, q1, q2, q3, q4⟩ := (HR.out.below (HB.out.mono HBB.out)).2 i him
      have HMr := Lib.hid (HM.out.1.below HM.out.2 HB.out)
      have HIL : Hid (i < l.length) := Lib.hid (by rw [HLE.out]; exact him)
      have HXI : Hid ((cvAt l i).right = true) := Lib.hid (HXR.out _ (cvAt_mem HIL.out))
      obtain ⟨x, hx⟩ : ∃ x, cvAt l i = x := ⟨_, rfl⟩
      have HTS : Hid (plainLs (l.take (i + 1)) = plainLs (l.take i) ++ plainC x) := Lib.hid (by rw [take_snocC HIL.out, plainLs_snoc, hx])
      rw [hx] at q0 q1 q2 q3 q4 HXI
      have HX := Lib.hid hx
      have HVR := Lib.hid (cv_ver HXI.out)
      have HB5 : Hid (Below w.heap.size w (wr.alloc (compC x.op x.a x.b x.c x.s))) := Lib.hid (HB.out.alloc HB.out.size _)
      have HO5 : Hid (OwnC (wr.alloc (compC x.op x.a x.b x.c x.s)) w.heap.size (.slice A3 K c3) (plainLs (l.take i))) := Lib.hid (World.ownsRow.alloc HO.out _)
      clear hx
      by_cases h6 : x.op < 6
      · have d6 : (x.op != 6) = true := by rw [bne_iff_ne]; omega
        have d7 : (x.op != 7) = true := by rw [bne_iff_ne]; omega
        have HP : Hid (plainC x = [x]) := Lib.hid (by unfold plainC; rw [if_pos h6])
        have HO6 : Hid (OwnC ((wr.alloc (compC x.op x.a x.b x.c x.s)).alloc (compC x.op x.a x.b x.c x.s)) w.heap.size (.slice A3 K c3) (plainLs (l.take i))) := Lib.hid (World.ownsRow.alloc HO5.out _)
        have HB6 : Hid (Below w.heap.size w ((wr.alloc (compC x.op x.a x.b x.c x.s)).alloc (compC x.op x.a x.b x.c x.s))) := Lib.hid (HB5.out.alloc HB5.out.size _)
        have hz6 : ((wr.alloc (compC x.op x.a x.b x.c x.s)).alloc (compC x.op x.a x.b x.c x.s)).heap[wr.heap.size + 1]? = some (compC x.op x.a x.b x.c x.s) := by
          have h := World.alloc_heap_new (wr.alloc (compC x.op x.a x.b x.c x.s)) (compC x.op x.a x.b x.c x.s)
          rw [World.size_alloc] at h; exact h
        have HCC := Lib.hid (cells5 hz6)
        have HSZ := Lib.hid HB6.out.size
        clear hz6
        go_wp2_with (at_builtin; refine wpl_appC rfl (.tmp 22) (.tmp 24) rfl w.heap.size (.slice A3 K c3) _ rfl HO6.out (wr.heap.size + 1) x rfl HCC.out.1 HCC.out.2.1 HCC.out.2.2.1 HCC.out.2.2.2.1 HCC.out.2.2.2.2 (by rw [HK.out]; have := HK40.out; omega) HSZ.out ?_; intro g c2 w2 hown2 hgr2)
        go_roundw
        case rel => exact ⟨i + 1, by omega, rfl, Lib.hid (by rw [HTS.out, HP.out]; exact hown2), Lib.hid (HB6.out.grown hgr2 HSZ.out (fun g hg => own_ge HO6.out g hg))⟩
        case measure => simp [intOf]; omega
      · have HOP : Hid (x.op = 6 ∨ x.op = 7) := Lib.hid (by have := HVR.out.2; omega)
        obtain ⟨X, Y, Z, hup⟩ : ∃ X Y Z : Int, upV x.op x.a x.b x.c = (X, Y, Z) := ⟨_, _, _, rfl⟩
        obtain ⟨r, hr⟩ : ∃ r, Ver.right ⟨X, Y, Z, []⟩ = r := ⟨_, rfl⟩
        have HE : Hid (endR x.op ⟨x.a, x.b, x.c, bs x.s⟩ = if r = true then some ⟨X, Y, Z, []⟩ else none) := Lib.hid (by
          have h := up_endR (op := x.op) (p := bs x.s) HVR.out.1 HOP.out
          rw [hup] at h
          simp only at h
          rw [hr] at h
          exact h)
        have HEV : Hid (∃ X' Y' Z' : Int, endV (endR x.op ⟨x.a, x.b, x.c, bs x.s⟩) = .tuple #[verV X' Y' Z' ⟨#[]⟩, .bool r] ∧ (r = true → X' = X ∧ Y' = Y ∧ Z' = Z)) := Lib.hid (by
          rw [HE.out]
          cases r with
          | false => exact ⟨0, 0, 0, rfl, nofun⟩
          | true => exact ⟨X, Y, Z, rfl, fun _ => ⟨rfl, rfl, rfl⟩⟩)
        obtain ⟨X', Y', Z', hev, himp⟩ := HEV.out
        have HEV2 := Lib.hid hev
        have HIMP := Lib.hid himp
        clear hev himp HEV
        have HP : Hid (plainC x = ⟨5, x.a, x.b, x.c, x.s⟩ :: (if r = true then [⟨2, X, Y, Z, ⟨#[]⟩⟩] else [])) := Lib.hid (by unfold plainC; rw [if_neg h6, hup]; simp only; rw [hr])
        clear hup hr h6
        have d67 : ((x.op != 6) = false ∧ True) ∨ ((x.op != 6) = true ∧ (x.op != 7) = false) := by
          rcases HOP.out with h | h
          · exact .inl ⟨by rw [h]; rfl, trivial⟩
          · exact .inr ⟨by rw [h]; rfl, by rw [h]; rfl⟩
        have HO6 : Hid (OwnC ((wr.alloc (compC x.op x.a x.b x.c x.s)).alloc (compC 5 x.a x.b x.c x.s)) w.heap.size (.slice A3 K c3) (plainLs (l.take i))) := Lib.hid (World.ownsRow.alloc HO5.out _)
        have HB6 : Hid (Below w.heap.size w ((wr.alloc (compC x.op x.a x.b x.c x.s)).alloc (compC 5 x.a x.b x.c x.s))) := Lib.hid (HB5.out.alloc HB5.out.size _)
        have hz6 : ((wr.alloc (compC x.op x.a x.b x.c x.s)).alloc (compC 5 x.a x.b x.c x.s)).heap[wr.heap.size + 1]? = some (compC 5 x.a x.b x.c x.s) := by
          have h := World.alloc_heap_new (wr.alloc (compC x.op x.a x.b x.c x.s)) (compC 5 x.a x.b x.c x.s)
          rw [World.size_alloc] at h; exact h
        have HX6 : Hid (((wr.alloc (compC x.op x.a x.b x.c x.s)).alloc (compC 5 x.a x.b x.c x.s)).heap[wr.heap.size]? = some (compC x.op x.a x.b x.c x.s)) := Lib.hid (by
          rw [Below.heap_alloc _ _ _ (by simp)]; exact World.alloc_heap_new _ _)
        have HCC := Lib.hid (cells5 hz6)
        have HOV : Hid (∀ g, (Value.slice A3 K c3).ownBlock = some g → g < wr.heap.size) := Lib.hid (own_lt HO.out)
        have HSZ := Lib.hid HB6.out.size
        have HLX : Hid (wr.heap.size < ((wr.alloc (compC x.op x.a x.b x.c x.s)).alloc (compC 5 x.a x.b x.c x.s)).heap.size) := Lib.hid (by simp; omega)
        clear hz6
        rcases d67 with ⟨d6, _⟩ | ⟨d6, d7⟩
        · go_wp2_with (at_builtin; refine wpl_appC rfl (.tmp 26) (.tmp 30) rfl w.heap.size (.slice A3 K c3) _ rfl HO6.out (wr.heap.size + 1) ⟨5, x.a, x.b, x.c, x.s⟩ rfl HCC.out.1 HCC.out.2.1 HCC.out.2.2.1 HCC.out.2.2.2.1 HCC.out.2.2.2.2 (by rw [HK.out]; have := HK40.out; omega) HSZ.out ?_; intro g c2 w2 hown2 hgr2; (have hx2 : w2.heap[wr.heap.size]? = some (compC x.op x.a x.b x.c x.s) := (hgr2.block wr.heap.size HLX.out (fun e2 => by have h := HOV.out wr.heap.size e2.symm; omega)).trans HX6.out); (obtain ⟨z0, z1, z2, z3, z4⟩ := cells5 hx2); (have HOWN2 := Lib.hid hown2); (have HGR2 := Lib.hid hgr2); (have HX2 := Lib.hid hx2); clear hown2 hgr2 hx2)
          have HB7 : Hid (Below w.heap.size w w2) := Lib.hid (HB6.out.grown HGR2.out HSZ.out (fun g hg => own_ge HO6.out g hg))
          have HM7 := Lib.hid (HM.out.1.below HM.out.2 HB7.out)
          have HC := Lib.hid (end_any x.op x.a x.b x.c x.s w2 HM7.out.1 HM7.out.2)
          rw [HEV2.out] at HC
          refine HC.out.mono ?_
          rintro e w3 ⟨rfl, hb⟩
          have HL1 : Hid ((plainLs (l.take i) ++ [(⟨5, x.a, x.b, x.c, x.s⟩ : CV)]).length = (plainLs (l.take i)).length + 1) := Lib.hid (by simp)
          have HB8 : Hid (Below w2.heap.size w2 (w3.alloc (verC X' Y' Z' ⟨#[]⟩))) := Lib.hid (hb.alloc hb.size _)
          clear hb HC z0 z1 z2 z3 z4
          cases r with
          | false =>
            have HO8 := Lib.hid (own_kept HOWN2.out HB8.out)
            go_wp2
            go_roundw
            case rel => exact ⟨i + 1, by omega, rfl, Lib.hid (by rw [HTS.out, HP.out, if_neg (by decide)]; exact HO8.out), Lib.hid (HB7.out.trans (HB8.out.mono HB7.out.size))⟩
            case measure => simp [intOf]; omega
          | true =>
            obtain ⟨rfl, rfl, rfl⟩ := HIMP.out rfl
            have HP2 : Hid (plainC x = [(⟨5, x.a, x.b, x.c, x.s⟩ : CV), ⟨2, X', Y', Z', ⟨#[]⟩⟩]) := Lib.hid (by rw [HP.out]; simp)
            have HB9 : Hid (Below w2.heap.size w2 ((w3.alloc (verC X' Y' Z' ⟨#[]⟩)).alloc (compC 2 X' Y' Z' ⟨#[]⟩))) := Lib.hid (HB8.out.alloc HB8.out.size _)
            have HO9 : Hid (OwnC ((w3.alloc (verC X' Y' Z' ⟨#[]⟩)).alloc (compC 2 X' Y' Z' ⟨#[]⟩)) w.heap.size (.slice (some ⟨g, 0, none⟩) ((plainLs (l.take i)).length + 1) c2) (plainLs (l.take i) ++ [(⟨5, x.a, x.b, x.c, x.s⟩ : CV)])) := Lib.hid (own_kept HOWN2.out HB9.out)
            have HBW9 : Hid (Below w.heap.size w ((w3.alloc (verC X' Y' Z' ⟨#[]⟩)).alloc (compC 2 X' Y' Z' ⟨#[]⟩))) := Lib.hid (HB7.out.trans (HB9.out.mono HB7.out.size))
            have hz9 : ((w3.alloc (verC X' Y' Z' ⟨#[]⟩)).alloc (compC 2 X' Y' Z' ⟨#[]⟩)).heap[w3.heap.size + 1]? = some (compC 2 X' Y' Z' ⟨#[]⟩) := by
              have h := World.alloc_heap_new (w3.alloc (verC X' Y' Z' ⟨#[]⟩)) (compC 2 X' Y' Z' ⟨#[]⟩)
              rw [World.size_alloc] at h; exact h
            have HCC9 := Lib.hid (cells5 hz9)
            have HSZ9 := Lib.hid HBW9.out.size
            clear hz9
            go_wp2_with (at_builtin; refine wpl_appC rfl (.tmp 38) (.tmp 41) rfl w.heap.size (.slice (some ⟨g, 0, none⟩) ((plainLs (l.take i)).length + 1) c2) (plainLs (l.take i) ++ [(⟨5, x.a, x.b, x.c, x.s⟩ : CV)]) rfl HO9.out (w3.heap.size + 1) (⟨2, X', Y', Z', ⟨#[]⟩⟩ : CV) rfl HCC9.out.1 HCC9.out.2.1 HCC9.out.2.2.1 HCC9.out.2.2.2.1 HCC9.out.2.2.2.2 (by rw [HL1.out, HK.out]; have := HK40.out; omega) HSZ9.out ?_; intro g3 c4 w5 hown5 hgr5)
            go_roundw
            case rel => exact ⟨i + 1, by omega, rfl, Lib.hid (by rw [HTS.out, HP2.out, show plainLs (l.take i) ++ [(⟨5, x.a, x.b, x.c, x.s⟩ : CV), ⟨2, X', Y', Z', ⟨#[]⟩⟩] = (plainLs (l.take i) ++ [⟨5, x.a, x.b, x.c, x.s⟩]) ++ [⟨2, X', Y', Z', ⟨#[]⟩⟩] from by simp]; (have h5 := hown5); (first | exact h5 | (rw [HL1.out] at h5; exact h5))), Lib.hid (HBW9.out.grown hgr5 HSZ9.out (fun g hg => own_ge HO9.out g hg))⟩
            case measure => simp [intOf]; omega
        · go_wp2_with (at_builtin; refine wpl_appC rfl (.tmp 26) (.tmp 30) rfl w.heap.size (.slice A3 K c3) _ rfl HO6.out (wr.heap.size + 1) ⟨5, x.a, x.b, x.c, x.s⟩ rfl HCC.out.1 HCC.out.2.1 HCC.out.2.2.1 HCC.out.2.2.2.1 HCC.out.2.2.2.2 (by rw [HK.out]; have := HK40.out; omega) HSZ.out ?_; intro g c2 w2 hown2 hgr2; (have hx2 : w2.heap[wr.heap.size]? = some (compC x.op x.a x.b x.c x.s) := (hgr2.block wr.heap.size HLX.out (fun e2 => by have h := HOV.out wr.heap.size e2.symm; omega)).trans HX6.out); (obtain ⟨z0, z1, z2, z3, z4⟩ := cells5 hx2); (have HOWN2 := Lib.hid hown2); (have HGR2 := Lib.hid hgr2); (have HX2 := Lib.hid hx2); clear hown2 hgr2 hx2)
          have HB7 : Hid (Below w.heap.size w w2) := Lib.hid (HB6.out.grown HGR2.out HSZ.out (fun g hg => own_ge HO6.out g hg))
          have HM7 := Lib.hid (HM.out.1.below HM.out.2 HB7.out)
          have HC := Lib.hid (end_any x.op x.a x.b x.c x.s w2 HM7.out.1 HM7.out.2)
          rw [HEV2.out] at HC
          refine HC.out.mono ?_
          rintro e w3 ⟨rfl, hb⟩
          have HL1 : Hid ((plainLs (l.take i) ++ [(⟨5, x.a, x.b, x.c, x.s⟩ : CV)]).length = (plainLs (l.take i)).length + 1) := Lib.hid (by simp)
          have HB8 : Hid (Below w2.heap.size w2 (w3.alloc (verC X' Y' Z' ⟨#[]⟩))) := Lib.hid (hb.alloc hb.size _)
          clear hb HC z0 z1 z2 z3 z4
          cases r with
          | false =>
            have HO8 := Lib.hid (own_kept HOWN2.out HB8.out)
            go_wp2
            go_roundw
            case rel => exact ⟨i + 1, by omega, rfl, Lib.hid (by rw [HTS.out, HP.out, if_neg (by decide)]; exact HO8.out), Lib.hid (HB7.out.trans (HB8.out.mono HB7.out.size))⟩
            case measure => simp [intOf]; omega
          | true =>
            obtain ⟨rfl, rfl, rfl⟩ := HIMP.out rfl
            have HP2 : Hid (plainC x = [(⟨5, x.a, x.b, x.c, x.s⟩ : CV), ⟨2, X', Y', Z', ⟨#[]⟩⟩]) := Lib.hid (by rw [HP.out]; simp)
            have HB9 : Hid (Below w2.heap.size w2 ((w3.alloc (verC X' Y' Z' ⟨#[]⟩)).alloc (compC 2 X' Y' Z' ⟨#[]⟩))) := Lib.hid (HB8.out.alloc HB8.out.size _)
            have HO9 : Hid (OwnC ((w3.alloc (verC X' Y' Z' ⟨#[]⟩)).alloc (compC 2 X' Y' Z' ⟨#[]⟩)) w.heap.size (.slice (some ⟨g, 0, none⟩) ((plainLs (l.take i)).length + 1) c2) (plainLs (l.take i) ++ [(⟨5, x.a, x.b, x.c, x.s⟩ : CV)])) := Lib.hid (own_kept HOWN2.out HB9.out)
            have HBW9 : Hid (Below w.heap.size w ((w3.alloc (verC X' Y' Z' ⟨#[]⟩)).alloc (compC 2 X' Y' Z' ⟨#[]⟩))) := Lib.hid (HB7.out.trans (HB9.out.mono HB7.out.size))
            have hz9 : ((w3.alloc (verC X' Y' Z' ⟨#[]⟩)).alloc (compC 2 X' Y' Z' ⟨#[]⟩)).heap[w3.heap.size + 1]? = some (compC 2 X' Y' Z' ⟨#[]⟩) := by
              have h := World.alloc_heap_new (w3.alloc (verC X' Y' Z' ⟨#[]⟩)) (compC 2 X' Y' Z' ⟨#[]⟩)
              rw [World.size_alloc] at h; exact h
            have HCC9 := Lib.hid (cells5 hz9)
            have HSZ9 := Lib.hid HBW9.out.size
            clear hz9
            go_wp2_with (at_builtin; refine wpl_appC rfl (.tmp 38) (.tmp 41) rfl w.heap.size (.slice (some ⟨g, 0, none⟩) ((plainLs (l.take i)).length + 1) c2) (plainLs (l.take i) ++ [(⟨5, x.a, x.b, x.c, x.s⟩ : CV)]) rfl HO9.out (w3.heap.size + 1) (⟨2, X', Y', Z', ⟨#[]⟩⟩ : CV) rfl HCC9.out.1 HCC9.out.2.1 HCC9.out.2.2.1 HCC9.out.2.2.2.1 HCC9.out.2.2.2.2 (by rw [HL1.out, HK.out]; have := HK40.out; omega) HSZ9.out ?_; intro g3 c4 w5 hown5 hgr5)
            go_roundw
            case rel => exact ⟨i + 1, by omega, rfl, Lib.hid (by rw [HTS.out, HP2.out, show plainLs (l.take i) ++ [(⟨5, x.a, x.b, x.c, x.s⟩ : CV), ⟨2, X', Y', Z', ⟨#[]⟩⟩] = (plainLs (l.take i) ++ [⟨5, x.a, x.b, x.c, x.s⟩]) ++ [⟨2, X', Y', Z', ⟨#[]⟩⟩] from by simp]; (have h5 := hown5); (first | exact h5 | (rw [HL1.out] at h5; exact h5))), Lib.hid (HBW9.out.grown hgr5 HSZ9.out (fun g hg => own_ge HO9.out g hg))⟩
            case measure => simp [intOf]; omega
    · have hd : decide ((i : Int) < (n : Int)) = false := decide_eq_false (by omega)
      have hiL : i = n := by omega
      subst hiL
      have HO2 : Hid (OwnC wr w.heap.size (.slice A3 K c3) (plainLs l)) := Lib.hid (by have h := HO.out; rw [List.take_of_length_le (by rw [HLE.out]; exact Nat.le_refl _)] at h; exact h)
      have HKL : Hid (K = (plainLs l).length) := Lib.hid (HK.out.symm.trans (by rw [List.take_of_length_le (by rw [HLE.out]; exact Nat.le_refl _)]))
      go_wp2
      refine bodyPost_ret (results_tmp rfl _ _ _) rfl ⟨⟨A3, c3, by rw [HKL.out]; rfl, ?_, ?_⟩, HB.out⟩
      · have h := HO2.out
        rw [HKL.out] at h
        exact h.rd rfl
      · intro b off e
        subst e
        exact ⟨own_ge HO2.out b rfl, own_lt HO2.out b rfl⟩
end Go.Proofs.YtbmhjmdbolnbaaaDoor
