/-
  RANGES: contract: parseComp (printed by genrcomp.py).
-/
import Derived.Test.YtpnbbbhbbnemlaaGreatDoorRSign
namespace Go.Proofs.YtpnbbbhbbnemlaaGreatDoor
open Go.RowKit
open SemP
set_option linter.unusedVariables false
set_option linter.unusedSimpArgs false
set_option maxRecDepth 100000

structure At5 (w : World) (g : Nat) (op a b c : Int) (s : ByteArray) : Prop where
  c0 : w.cell? ⟨g, 0, none⟩ = some (.int .i64 op)
  c1 : w.cell? ⟨g, 1, none⟩ = some (.int .i64 a)
  c2 : w.cell? ⟨g, 2, none⟩ = some (.int .i64 b)
  c3 : w.cell? ⟨g, 3, none⟩ = some (.int .i64 c)
  c4 : w.cell? ⟨g, 4, none⟩ = some (.string s)
  f0 : w.frozen? ⟨g, 0, none⟩ = false
  f1 : w.frozen? ⟨g, 1, none⟩ = false
  f2 : w.frozen? ⟨g, 2, none⟩ = false
  f3 : w.frozen? ⟨g, 3, none⟩ = false
  f4 : w.frozen? ⟨g, 4, none⟩ = false
def set5 (w : World) (g : Nat) (op a b c : Int) (s : ByteArray) : World := ((((w.setCell ⟨g, 0, none⟩ (.int .i64 op)).setCell ⟨g, 1, none⟩ (.int .i64 a)).setCell ⟨g, 2, none⟩ (.int .i64 b)).setCell ⟨g, 3, none⟩ (.int .i64 c)).setCell ⟨g, 4, none⟩ (.string s)
theorem At5.of_heap {w : World} {g : Nat} {op a b c : Int} {s : ByteArray} {T : TypeId} (h : w.heap[g]? = some (.cells #[.int .i64 op, .int .i64 a, .int .i64 b, .int .i64 c, .string s] T (0, 0))) : At5 w g op a b c s := by
  obtain ⟨x0, x1, x2, x3, x4⟩ := cells5 h
  exact ⟨x0, x1, x2, x3, x4, by simp only [World.frozen?, h]; rfl, by simp only [World.frozen?, h]; rfl, by simp only [World.frozen?, h]; rfl, by simp only [World.frozen?, h]; rfl, by simp only [World.frozen?, h]; rfl⟩
theorem At5.block {w w' : World} {g : Nat} {op a b c : Int} {s : ByteArray} (h : At5 w g op a b c s) (hb : w'.heap[g]? = w.heap[g]?) : At5 w' g op a b c s :=
  ⟨(World.cell?_of_block hb).trans h.c0, (World.cell?_of_block hb).trans h.c1, (World.cell?_of_block hb).trans h.c2, (World.cell?_of_block hb).trans h.c3, (World.cell?_of_block hb).trans h.c4,
   (World.frozen?_of_block hb).trans h.f0, (World.frozen?_of_block hb).trans h.f1, (World.frozen?_of_block hb).trans h.f2, (World.frozen?_of_block hb).trans h.f3, (World.frozen?_of_block hb).trans h.f4⟩
theorem set5_size (w : World) (g : Nat) (op a b c : Int) (s : ByteArray) : (set5 w g op a b c s).heap.size = w.heap.size := by unfold set5; simp
theorem set5_below {B : Nat} {w0 w : World} (h : Below B w0 w) {g : Nat} (hg : B ≤ g) (op a b c : Int) (s : ByteArray) : Below B w0 (set5 w g op a b c s) :=
  ((((h.setCell (p := ⟨g, 0, none⟩) hg _).setCell (p := ⟨g, 1, none⟩) hg _).setCell (p := ⟨g, 2, none⟩) hg _).setCell (p := ⟨g, 3, none⟩) hg _).setCell (p := ⟨g, 4, none⟩) hg _
theorem cset_same {w : World} {g i : Nat} {u v : Value} (h : w.cell? ⟨g, i, none⟩ = some u) : (w.setCell ⟨g, i, none⟩ v).cell? ⟨g, i, none⟩ = some v := World.cell?_setCell_same _ _ _ h
theorem cset_other {w : World} {g i j : Nat} {v : Value} (h : i ≠ j) : (w.setCell ⟨g, i, none⟩ v).cell? ⟨g, j, none⟩ = w.cell? ⟨g, j, none⟩ := World.cell?_setCell_other _ _ _ _ (by simp [h])
theorem At5.set {w : World} {g : Nat} {op a b c op' a' b' c' : Int} {s s' : ByteArray} (h : At5 w g op a b c s) : At5 (set5 w g op' a' b' c' s') g op' a' b' c' s' := by
  unfold set5
  refine ⟨?_, ?_, ?_, ?_, ?_, ?_, ?_, ?_, ?_, ?_⟩
  · rw [cset_other (by decide), cset_other (by decide), cset_other (by decide), cset_other (by decide)]; exact cset_same h.c0
  · rw [cset_other (by decide), cset_other (by decide), cset_other (by decide)]; exact cset_same ((cset_other (by decide)).trans h.c1)
  · rw [cset_other (by decide), cset_other (by decide)]; exact cset_same ((cset_other (by decide)).trans ((cset_other (by decide)).trans h.c2))
  · rw [cset_other (by decide)]; exact cset_same ((cset_other (by decide)).trans ((cset_other (by decide)).trans ((cset_other (by decide)).trans h.c3)))
  · exact cset_same ((cset_other (by decide)).trans ((cset_other (by decide)).trans ((cset_other (by decide)).trans ((cset_other (by decide)).trans h.c4))))
  · simp [h.f0]
  · simp [h.f1]
  · simp [h.f2]
  · simp [h.f3]
  · simp [h.f4]
theorem foldS_pre (s : Str) (i : Nat) (h : (foldS s i).2 = true) : Lib.hasPrefix s (sg (foldS s i).1) = true := by
  induction i with
  | zero => cases h
  | succ i ih =>
    unfold foldS at h ⊢
    split at h
    · next hc =>
      rw [if_pos hc]
      rw [Bool.and_eq_true] at hc; exact hc.1
    · next hc => rw [if_neg hc]; exact ih h
theorem prefix_len {s p : Str} (h : Lib.hasPrefix s p = true) : p.length ≤ s.length := by
  unfold Lib.hasPrefix at h
  exact (List.isPrefixOf_iff_prefix.1 h).length_le
def zeroC : CV := ⟨0, 0, 0, 0, ⟨#[]⟩⟩
def CV.val (x : CV) : Value := compV x.op x.a x.b x.c x.s
/-- A text as a comparison. -/
def parseC (s : Str) : CV × Bool :=
  if (signR s).2 = false then (zeroC, false)
  else if (signR s).1 = 0 then (zeroC, (s.drop (sg (signR s).1).length).isEmpty)
  else match parseV (s.drop (sg (signR s).1).length) with
    | some v => (⟨((signR s).1 : Int), v.major, v.minor, v.patch, mk v.pre⟩, true)
    | none => (⟨((signR s).1 : Int), 0, 0, 0, ⟨#[]⟩⟩, false)
set_option maxHeartbeats 8000000 in
theorem parseComp_any (s : ByteArray) (w : World) (hs : s.size < 4294967281) (hg : SignsAt w) (hm : LenAt w) (h1 : 1 < w.heap.size) :
    Calls Tryz.prog 61 #[.string s] w fun e w' => e = .returned (.tuple #[(parseC (bs s)).1.val, .bool (parseC (bs s)).2]) ∧ Below w.heap.size w w' := by
  obtain ⟨W0, hW0⟩ : ∃ W0, w.alloc (compC 0 0 0 0 ⟨#[]⟩) = W0 := ⟨_, rfl⟩
  have hb0 : Below w.heap.size w W0 := by rw [← hW0]; exact (Below.refl _ w).alloc (Nat.le_refl _) _
  have HX0 : Hid (At5 W0 w.heap.size 0 0 0 0 ⟨#[]⟩) := Lib.hid (by rw [← hW0]; exact At5.of_heap (World.alloc_heap_new _ _))
  have HL0 : Hid (w.heap.size < W0.heap.size) := Lib.hid (by rw [← hW0]; simp)
  have HM0 := Lib.hid (hm.below h1 hb0)
  have HG0 : Hid (SignsAt W0) := Lib.hid (hg.below hb0 (by omega))
  have HB0 := Lib.hid hb0
  have HW0 := Lib.hid hW0
  have HS := Lib.hid hs
  have HSI := Lib.hid (signOf_any s W0 HG0.out)
  have HV := Lib.hid (show parseC (bs s) = parseC (bs s) from rfl)
  obtain ⟨op, hop⟩ : ∃ op, (signR (bs s)).1 = op := ⟨_, rfl⟩
  obtain ⟨ok, hok⟩ : ∃ ok, (signR (bs s)).2 = ok := ⟨_, rfl⟩
  have HOP := Lib.hid hop
  have HOK := Lib.hid hok
  rw [hop, hok] at HSI
  have op8 : op < 8 := by rw [← hop]; exact foldS_lt _ 8 (Nat.le_refl _)
  have HLE : Hid (ok = true → (mk (sg op)).size ≤ s.size) := Lib.hid (fun h => by
    rw [← hok] at h
    have := prefix_len (foldS_pre (bs s) 8 h)
    rw [mk_size, Lib.size_eq]
    rw [← hop]; exact this)
  clear hb0 hm hg hs hW0 hop hok
  go_enter Tryz.func61, Tryz.ntmps61
  go_wp2_with fail
  try rw [show w.alloc (.cells #[.int .i64 0, .int .i64 0, .int .i64 0, .int .i64 0, .string ⟨#[]⟩] 73) = W0 from HW0.out]
  refine HSI.out.mono ?_
  rintro e w' ⟨rfl, hw⟩
  subst w'
  obtain ⟨x0, x1, x2, x3, x4, f0, f1, f2, f3, f4⟩ := HX0.out
  cases ok with
  | false =>
    have HP : Hid (parseC (bs s) = (zeroC, false)) := Lib.hid (by unfold parseC; rw [if_pos HOK.out])
    have HF5 := Lib.hid (HX0.out.set (op' := 0) (a' := 0) (b' := 0) (c' := 0) (s' := ⟨#[]⟩))
    obtain ⟨g0, g1, g2, g3, g4, _, _, _, _, _⟩ := HF5.out
    simp only [set5] at g0 g1 g2 g3 g4
    have HBS : Hid (Below w.heap.size w (set5 W0 w.heap.size 0 0 0 0 ⟨#[]⟩)) := Lib.hid (set5_below HB0.out (Nat.le_refl _) _ _ _ _ _)
    go_wp2
    refine bodyPost_ret (v := .tuple #[compV 0 0 0 0 ⟨#[]⟩, .bool false]) (by simp [results, Tryz.results61, go_sem, g0, g1, g2, g3, g4]) rfl ⟨by rw [HP.out]; rfl, HBS.out⟩
  | true =>
    have gop := HG0.out op op8
    obtain ⟨so, hso⟩ : ∃ so, mk (sg op) = so := ⟨_, rfl⟩
    have hle : so.size ≤ s.size := by rw [← hso]; exact HLE.out rfl
    have HSO : Hid ((sg op).length = so.size) := Lib.hid (by rw [← hso]; exact (mk_size _).symm)
    rw [hso] at gop
    obtain ⟨rs, hrs⟩ : ∃ rs, s.extract so.size s.size = rs := ⟨_, rfl⟩
    have HRS : Hid (bs rs = (bs s).drop so.size) := Lib.hid (by rw [← hrs]; exact bs_tail s so.size)
    have HRZ : Hid (rs.size < 4294967281) := Lib.hid (by have := HS.out; rw [← hrs]; simp; omega)
    clear hso
    by_cases h0 : op = 0
    · subst h0
      have HP : Hid (parseC (bs s) = (zeroC, (bs rs).isEmpty)) := Lib.hid (by unfold parseC; rw [if_neg (by rw [HOK.out]; simp), if_pos HOP.out, HOP.out, HSO.out, HRS.out])
      have HSE := Lib.hid (show rs.toList.isEmpty = (bs rs).isEmpty by rw [ByteArray.toList_eq])
      have HF5 := Lib.hid (HX0.out.set (op' := 0) (a' := 0) (b' := 0) (c' := 0) (s' := ⟨#[]⟩))
      obtain ⟨g0, g1, g2, g3, g4, _, _, _, _, _⟩ := HF5.out
      simp only [set5] at g0 g1 g2 g3 g4
      have HBS : Hid (Below w.heap.size w (set5 W0 w.heap.size 0 0 0 0 ⟨#[]⟩)) := Lib.hid (set5_below HB0.out (Nat.le_refl _) _ _ _ _ _)
      cases hee : (bs rs).isEmpty with
      | true =>
        have hse : rs.toList.isEmpty = true := by rw [HSE.out]; exact hee
        have HE := Lib.hid hee
        clear hee
        go_wp2
        refine bodyPost_ret (v := .tuple #[compV 0 0 0 0 ⟨#[]⟩, .bool true]) (by simp [results, Tryz.results61, go_sem, g0, g1, g2, g3, g4]) rfl ⟨by rw [HP.out, HE.out]; rfl, HBS.out⟩
      | false =>
        have hse : rs.toList.isEmpty = false := by rw [HSE.out]; exact hee
        have HE := Lib.hid hee
        clear hee
        go_wp2
        refine bodyPost_ret (v := .tuple #[compV 0 0 0 0 ⟨#[]⟩, .bool false]) (by simp [results, Tryz.results61, go_sem, g0, g1, g2, g3, g4]) rfl ⟨by rw [HP.out, HE.out]; rfl, HBS.out⟩
    · have d0 : ((op : Int) == 0) = false := by rw [beq_eq_false_iff_ne]; omega
      have HP : Hid (parseC (bs s) = match parseV (bs rs) with
          | some v => (⟨(op : Int), v.major, v.minor, v.patch, mk v.pre⟩, true)
          | none => (⟨(op : Int), 0, 0, 0, ⟨#[]⟩⟩, false)) := Lib.hid (by unfold parseC; rw [if_neg (by rw [HOK.out]; simp), if_neg (by rw [HOP.out]; exact h0), HOP.out, HSO.out, HRS.out])
      have HPA := Lib.hid (Parse_any rs W0 HRZ.out HM0.out.1 HM0.out.2)
      have HPR : Hid (∃ a b c u k, parseR (parseV (bs rs)) = .tuple #[verV a b c u, .int .i64 k] ∧ parseC (bs s) = (⟨(op : Int), a, b, c, u⟩, k == 0)) := Lib.hid (by
        rw [HP.out]
        cases parseV (bs rs) with
        | some v => exact ⟨_, _, _, _, _, rfl, rfl⟩
        | none => exact ⟨_, _, _, _, _, rfl, rfl⟩)
      obtain ⟨a, b, c, u, k, hpr, hpc⟩ := HPR.out
      have HPC := Lib.hid hpc
      have HPRR := Lib.hid hpr
      clear h0 hpr hpc HPR
      go_wp2_with fail
      refine HPA.out.mono ?_
      rintro e W2 ⟨rfl, hb⟩
      rw [HPRR.out]
      have HX2 := Lib.hid (HX0.out.block (hb.block _ HL0.out))
      have HB2 : Hid (Below w.heap.size w W2) := Lib.hid (HB0.out.trans (hb.mono HB0.out.size))
      have hlt2 : w.heap.size < W2.heap.size := Nat.lt_of_lt_of_le HL0.out hb.size
      have hne : w.heap.size ≠ W2.heap.size := by omega
      have hne2 : W2.heap.size ≠ w.heap.size := by omega
      have HX3 := Lib.hid (HX2.out.block (w' := W2.alloc (.cells #[.int .i64 a, .int .i64 b, .int .i64 c, .string u] 69)) (Below.heap_alloc _ _ _ hlt2))
      have HF5 := Lib.hid ((HX2.out.set (op' := (op : Int)) (a' := a) (b' := b) (c' := c) (s' := u)).block (w' := (set5 W2 w.heap.size (op : Int) a b c u).alloc (.cells #[.int .i64 a, .int .i64 b, .int .i64 c, .string u] 69)) (Below.heap_alloc _ _ _ (by rw [set5_size]; exact hlt2)))
      have HBS : Hid (Below w.heap.size w ((set5 W2 w.heap.size (op : Int) a b c u).alloc (.cells #[.int .i64 a, .int .i64 b, .int .i64 c, .string u] 69))) := Lib.hid ((set5_below HB2.out (Nat.le_refl _) _ _ _ _ _).alloc (by rw [set5_size]; exact HB2.out.size) _)
      clear hb HPA x0 x1 x2 x3 x4 f0 f1 f2 f3 f4
      obtain ⟨x0, x1, x2, x3, x4, f0, f1, f2, f3, f4⟩ := HX2.out
      obtain ⟨y0, y1, y2, y3, y4, e0, e1, e2, e3, e4⟩ := HX3.out
      obtain ⟨g0, g1, g2, g3, g4, _, _, _, _, _⟩ := HF5.out
      simp only [set5] at g0 g1 g2 g3 g4
      go_wp2
      refine bodyPost_ret (v := .tuple #[compV (op : Int) a b c u, .bool (k == 0)]) (by simp [results, Tryz.results61, go_sem, g0, g1, g2, g3, g4]) rfl ⟨by rw [HPC.out]; rfl, HBS.out⟩
end Go.Proofs.YtpnbbbhbbnemlaaGreatDoor
