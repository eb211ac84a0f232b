/-
  PLAIN MATHEMATICS for WalLasts: a log's bytes cut anywhere behind some records read as that log with some records; what a crash leaves.
-/
import Derived.Test.YtadajkgiijpakaaWOpG
import Derived.Test.YtadajkgiijpakaaWRec
namespace Go.Proofs.Ytadajkgiijpakaa
open Go.RowKit
open ByteP
set_option linter.unusedVariables false
set_option maxRecDepth 10000
theorem cut_no {p : List Int} (hb : Bytes p) (hl : p.length ≤ 65536) {u : Nat} (hu : u < p.length + 8) : openN ((frameL p.length p).take u) ≠ 0 := by
  obtain ⟨h1, _, _⟩ := frame_opens (ys := []) hb hl
  rw [List.append_nil] at h1
  have hfl := frameL_length p.length p
  have hzl : ((frameL p.length p).take u).length = u := by rw [List.length_take, hfl]; omega
  by_cases h4 : u < 4
  · rw [open13 (by rw [hzl]; exact h4)]; omega
  · have e : lenN ((frameL p.length p).take u) = p.length := by
      unfold lenN at h1 ⊢
      rw [← numL_take, List.take_take, Nat.min_eq_left (by omega), numL_take]
      exact h1
    rw [open13b (by rw [hzl]; exact h4) (by rw [e]; omega) (by rw [hzl, e]; exact hu)]
    omega
theorem flat_tail {ps : List (List Int)} (tail : List Int) (hok : ∀ p, p ∈ ps → Bytes p ∧ p.length ≤ 65536) : ∀ j, j ≤ ps.length → (flatF ps ++ tail).drop (atN (flatF ps ++ tail) j) = flatF (ps.drop j) ++ tail
  | 0, _ => rfl
  | j + 1, hj => by
    have ih := flat_tail tail hok j (by omega)
    obtain ⟨p, t, e⟩ : ∃ p t, ps.drop j = p :: t := by
      cases h : ps.drop j with
      | nil => have := congrArg List.length h; rw [List.length_drop] at this; simp at this; omega
      | cons p t => exact ⟨p, t, rfl⟩
    have hp : p ∈ ps := List.mem_of_mem_drop (i := j) (by rw [e]; simp)
    have e2 : ps.drop (j + 1) = t := by
      rw [← List.drop_drop (i := 1) (j := j) (l := ps), e]
      rfl
    have hf := frame_opens (ys := flatF t ++ tail) (hok p hp).1 (hok p hp).2
    show (flatF ps ++ tail).drop (atN (flatF ps ++ tail) j + sizeN ((flatF ps ++ tail).drop (atN (flatF ps ++ tail) j))) = _
    rw [← List.drop_drop, ih, e, e2, flatF, List.append_assoc, sizeN_yes hf.2.2, hf.1, List.drop_left' (frameL_length _ _)]
section
variable {b : List Int} {rs : List (List Int)} {tail : List Int}
theorem tail_at (hb : RecOK b) (hr : ∀ x, x ∈ rs → RecOK x) {j : Nat} (hj : j < rs.length + 1) :
    openN ((logL b rs ++ tail).drop (atN (logL b rs ++ tail) j)) = 0 ∧ pT (logL b rs ++ tail) j = mkN j :: (b :: rs).getD j [] := by
  have hok := pays_ok hb hr
  have h1 := flat_tail tail hok j (by rw [List.length_cons, List.length_map]; omega)
  rw [← log_flat] at h1
  obtain ⟨p, t, e, ep⟩ : ∃ p t, ((0 :: b) :: rs.map (fun x => 1 :: x)).drop j = p :: t ∧ p = mkN j :: (b :: rs).getD j [] := by
    cases j with
    | zero => exact ⟨_, _, rfl, rfl⟩
    | succ i =>
      have hi : i < rs.length := by omega
      refine ⟨1 :: rs.getD i [], (rs.drop (i + 1)).map (fun x => 1 :: x), ?_, ?_⟩
      · rw [List.drop_succ_cons, ← List.map_drop, List.drop_eq_getElem_cons hi, List.map_cons]
        rw [show rs.getD i [] = rs[i] by simp [List.getD, hi]]
      · show _ = mkN (i + 1) :: rs.getD i []
        rfl
  have hp : p ∈ ((0 :: b) :: rs.map (fun x => 1 :: x)) := List.mem_of_mem_drop (i := j) (by rw [e]; simp)
  have hf := frame_opens (ys := flatF t ++ tail) (hok p hp).1 (hok p hp).2
  rw [e, flatF, List.append_assoc] at h1
  unfold pT
  rw [h1]
  exact ⟨hf.2.2, by rw [payT_yes hf.2.2, hf.2.1, ep]⟩
theorem tail_end (hb : RecOK b) (hr : ∀ x, x ∈ rs → RecOK x) : (logL b rs ++ tail).drop (atN (logL b rs ++ tail) (rs.length + 1)) = tail := by
  have h1 := flat_tail tail (pays_ok hb hr) (rs.length + 1) (by rw [List.length_cons, List.length_map]; omega)
  rw [← log_flat] at h1
  rw [h1, List.drop_eq_nil_of_le (by rw [List.length_cons, List.length_map]; omega)]
  rfl
theorem tail_reads (hb : RecOK b) (hr : ∀ x, x ∈ rs → RecOK x) (ht : openN tail ≠ 0) : Reads (logL b rs ++ tail) (rs.length + 1) := by
  refine ⟨fun j hj => ?_, fun h => ?_⟩
  · obtain ⟨h1, h2⟩ := tail_at (tail := tail) hb hr hj
    unfold pT at h2
    exact ⟨h1, by rw [h2]; simp, by rw [h2]; rfl⟩
  · have := h.1
    rw [tail_end hb hr] at this
    exact ht this
theorem tail_atN (hb : RecOK b) (hr : ∀ x, x ∈ rs → RecOK x) : atN (logL b rs ++ tail) (rs.length + 1) = (logL b rs).length := by
  have h1 := congrArg List.length (tail_end (tail := tail) hb hr)
  rw [List.length_drop, List.length_append] at h1
  have h2 := atN_le (xs := logL b rs ++ tail) (rs.length + 1) (fun j hj => (tail_at hb hr hj).1)
  rw [List.length_append] at h2
  omega
theorem tail_bsOf (hb : RecOK b) (hr : ∀ x, x ∈ rs → RecOK x) : bsOf (logL b rs ++ tail) (rs.length + 1) = b := by
  unfold bsOf
  rw [if_neg (by omega), (tail_at hb hr (by omega)).2]
  rfl
theorem tail_rsOf (hb : RecOK b) (hr : ∀ x, x ∈ rs → RecOK x) : rsOf (logL b rs ++ tail) (rs.length + 1) = rs := by
  show (List.range (rs.length + 1 - 1)).map (fun j => (pT (logL b rs ++ tail) (j + 1)).tail) = rs
  refine List.ext_getElem (by simp) (fun i h1 h2 => ?_)
  rw [List.getElem_map, List.getElem_range, (tail_at hb hr (by omega)).2]
  show (b :: rs).getD (i + 1) [] = _
  simp [List.getD, h2]
theorem log_mono (b : List Int) (rs : List (List Int)) (q : Nat) : logL b rs = logL b (rs.take q) ++ recsL (rs.drop q) := by
  unfold logL
  rw [List.append_assoc, ← recsL_append, List.take_append_drop]
/-- What stands of a log that was cut behind its first s records. -/
theorem recover (hb : RecOK b) (hr : ∀ x, x ∈ rs → RecOK x) {t : Nat} : ∀ (d s : Nat), s + d = rs.length → (logL b (rs.take s)).length ≤ t → t ≤ (logL b rs).length → ∃ q tl, s ≤ q ∧ q ≤ rs.length ∧ openN tl ≠ 0 ∧ (logL b rs).take t = logL b (rs.take q) ++ tl
  | 0, s, hs, h1, h2 => by
    obtain rfl : s = rs.length := by omega
    rw [List.take_length] at h1
    exact ⟨rs.length, [], Nat.le_refl _, Nat.le_refl _, open_nil, by rw [List.take_length, List.append_nil, List.take_of_length_le h1]⟩
  | d + 1, s, hs, h1, h2 => by
    by_cases h3 : (logL b (rs.take (s + 1))).length ≤ t
    · obtain ⟨q, tl, h4, h5, h6, h7⟩ := recover hb hr d (s + 1) (by omega) h3 h2
      exact ⟨q, tl, by omega, h5, h6, h7⟩
    · have hsl : s < rs.length := by omega
      have e1 : logL b (rs.take (s + 1)) = logL b (rs.take s) ++ frmP 1 (rs.getD s []) := by rw [take_snocR rs s hsl, logL_snoc]
      have hx := hr _ (getD_mem hsl)
      have e2 := log_mono b rs (s + 1)
      rw [e1] at h3 e2
      rw [List.length_append] at h3
      refine ⟨s, (frmP 1 (rs.getD s [])).take (t - (logL b (rs.take s)).length), Nat.le_refl _, by omega, ?_, ?_⟩
      · unfold frmP at h3 ⊢
        rw [frameL_length] at h3
        have h := cut_no (p := 1 :: rs.getD s []) (bytes_cons (by omega) (by omega) hx.1) (by rw [List.length_cons]; have := hx.2; omega) (u := t - (logL b (rs.take s)).length) (by omega)
        exact h
      · rw [e2, List.append_assoc, List.take_append, List.take_of_length_le h1, List.take_append, show t - (logL b (rs.take s)).length - (frmP 1 (rs.getD s [])).length = 0 by omega, List.take_zero, List.append_nil]
end
theorem not_whole0 {F : Int → Option Fi} {x : Int} {g : Fi} (h : F x = some g) (hn : openN g.bs ≠ 0) : ¬ whole F x := by
  rintro ⟨g', r, h1, h2, h3⟩
  rw [h] at h1
  injection h1 with h1
  subst h1
  exact hn (h3.1 0 h2).1
/-- What a crash keeps of the files F. -/
structure CrOK (F G : Int → Option Fi) : Prop where
  no : ∀ x, F x = none → G x = none
  yes : ∀ x f, F x = some f → ∃ g, G x = some g ∧ f.s ≤ g.s ∧ g.s ≤ g.n ∧ g.n ≤ f.n ∧ g.bs = f.bs.take g.n
theorem crOK_refl {F : Int → Option Fi} (h : ∀ x f, F x = some f → f.s ≤ f.n ∧ f.bs.length = f.n) : CrOK F F :=
  ⟨fun x h => h, fun x f hf => ⟨f, hf, Nat.le_refl _, (h x f hf).1, Nat.le_refl _, by rw [← (h x f hf).2, List.take_length]⟩⟩
theorem crOK_step {F : Int → Option Fi} {ks : List Int} {x : Int} {c : Cr} (h : CrOK F c.F) (hx : (c.F x).isSome = true) : CrOK F (crS ks x c).F := by
  obtain ⟨g, hg⟩ := Option.isSome_iff_exists.1 hx
  by_cases e : g.s = g.n
  · rw [crS_same hg e]; exact h
  · rw [crS_cut hg e]
    refine ⟨fun y hy => ?_, fun y f hf => ?_⟩
    · have h1 := h.no y hy
      by_cases e2 : y = x
      · rw [e2, hg] at h1; cases h1
      · show putF c.F x _ y = none
        rw [putF_other _ _ e2]; exact h1
    · obtain ⟨g', h1, h2, h3, h4, h5⟩ := h.yes y f hf
      by_cases e2 : y = x
      · subst e2
        rw [hg] at h1
        injection h1 with h1
        subst h1
        have hk := kpt_le ks c.l g h3
        refine ⟨_, putF_same _ _ _, ?_, Nat.le_refl _, ?_, ?_⟩
        · show f.s ≤ g.s + kpt ks c.l g
          omega
        · show g.s + kpt ks c.l g ≤ f.n
          omega
        · show g.bs.take (g.s + kpt ks c.l g) = f.bs.take (g.s + kpt ks c.l g)
          rw [h5, List.take_take, Nat.min_eq_left hk]
      · exact ⟨g', by show putF c.F x _ y = _; rw [putF_other _ _ e2]; exact h1, h2, h3, h4, h5⟩
theorem crOK_all {F : Int → Option Fi} {ks ns : List Int} (h0 : CrOK F F) (hm : ∀ x, x ∈ ns → (F x).isSome = true) : ∀ j, j ≤ ns.length → CrOK F (crK F ks ns j).F
  | 0, _ => h0
  | j + 1, hj => crOK_step (crOK_all h0 hm j (by omega)) (by rw [crK_some hm j (by omega)]; exact hm _ (ix_mem (by omega)))
theorem crSz {F : Int → Option Fi} {ks ns : List Int} {z : Int} (h0 : SzOK z F) (hm : ∀ x, x ∈ ns → (F x).isSome = true) : ∀ j, j ≤ ns.length → SzOK (z + (crK F ks ns j).d) (crK F ks ns j).F
  | 0, _ => by show SzOK (z + 0) F; rw [Int.add_zero]; exact h0
  | j + 1, hj => by
    have ih := crSz (ks := ks) h0 hm j (by omega)
    obtain ⟨g, hg⟩ := Option.isSome_iff_exists.1 (show ((crK F ks ns j).F (ix ns j)).isSome = true by rw [crK_some hm j (by omega)]; exact hm _ (ix_mem (by omega)))
    show SzOK (z + (crS ks (ix ns j) (crK F ks ns j)).d) (crS ks (ix ns j) (crK F ks ns j)).F
    by_cases e : g.s = g.n
    · rw [crS_same hg e]; exact ih
    · rw [crS_cut hg e]
      have h := ih.put (ix ns j) (cutTo g (g.s + kpt ks (crK F ks ns j).l g) (g.s + kpt ks (crK F ks ns j).l g))
      have e2 : fileAt (crK F ks ns j).F (ix ns j) = g := by unfold fileAt; rw [hg]; rfl
      rw [e2] at h
      have e3 : z + (crK F ks ns j).d - (g.n : Int) + ((cutTo g (g.s + kpt ks (crK F ks ns j).l g) (g.s + kpt ks (crK F ks ns j).l g)).n : Int) = z + ((crK F ks ns j).d - ((g.n : Int) - (g.s + kpt ks (crK F ks ns j).l g : Nat))) := by
        show z + (crK F ks ns j).d - (g.n : Int) + ((g.s + kpt ks (crK F ks ns j).l g : Nat) : Int) = _
        omega
      rw [e3] at h
      exact h
/-- The files of the law: the log's file, and maybe the one that is to be the next. -/
structure LsF (F : Int → Option Fi) (name : Nat) (f : Fi) (bs : List Int) (rs : List (List Int)) (safe : Nat) (rot : Bool) (nx : List Int) : Prop where
  one : F name = some f
  fb : f.bs = logL bs rs
  fs : (logL bs (rs.take safe)).length ≤ f.s
  sr : safe ≤ rs.length
  oth : ∀ x : Int, x ≠ name → x ≠ (name : Int) + 1 → F x = none
  no : rot = false → F ((name : Int) + 1) = none
  yes : rot = true → ∃ g, F ((name : Int) + 1) = some g ∧ g.bs = frmP 0 nx
  okb : RecOK bs
  okr : ∀ x, x ∈ rs → RecOK x
  okn : RecOK nx
/-- What is opened behind a crash. -/
def Opened (G : Int → Option Fi) (name : Nat) (bs : List Int) (rs : List (List Int)) (safe : Nat) (rot : Bool) (nx : List Int) (nm : Nat) (g : Fi) (r : Nat) (bs' : List Int) (rs' : List (List Int)) : Prop :=
  Holds G nm g r ∧ bsOf g.bs r = bs' ∧ rsOf g.bs r = rs' ∧ g.bs.take (atN g.bs r) = logL bs' rs' ∧ atN g.bs r = (logL bs' rs').length ∧ nm ≤ name + 1 ∧ RecOK bs' ∧ (∀ x, x ∈ rs' → RecOK x) ∧
    ((rot = true ∧ bs' = nx ∧ rs' = []) ∨ (bs' = bs ∧ ∃ q, safe ≤ q ∧ q ≤ rs.length ∧ rs' = rs.take q))
theorem ls_open {F G : Int → Option Fi} {name : Nat} {f : Fi} {bs : List Int} {rs : List (List Int)} {safe : Nat} {rot : Bool} {nx : List Int} (h : LsF F name f bs rs safe rot nx) (hfn : f.bs.length = f.n) (hc : CrOK F G) :
    ∃ nm g r bs' rs', Opened G name bs rs safe rot nx nm g r bs' rs' := by
  obtain ⟨g, h1, h2, h3, h4, h5⟩ := hc.yes _ f h.one
  have hkeep : (∀ x, (name : Int) < x → ¬ whole G x) → ∃ nm g r bs' rs', Opened G name bs rs safe rot nx nm g r bs' rs' := fun hl => by
    obtain ⟨q, tl, hq1, hq2, hq3, hq4⟩ := recover (t := g.n) h.okb h.okr (rs.length - safe) safe (by have := h.sr; omega) (by have := h.fs; omega) (by have := h.fb; rw [← h.fb, hfn]; exact h4)
    have e : g.bs = logL bs (rs.take q) ++ tl := by rw [h5, h.fb]; exact hq4
    have hr2 : ∀ x, x ∈ rs.take q → RecOK x := fun x hx => h.okr x (List.mem_of_mem_take hx)
    have hlen : (rs.take q).length = q := by rw [List.length_take]; omega
    have hR := tail_reads (tail := tl) h.okb hr2 hq3
    have hA := tail_atN (tail := tl) h.okb hr2
    have hB := tail_bsOf (tail := tl) h.okb hr2
    have hRs := tail_rsOf (tail := tl) h.okb hr2
    rw [← e] at hR hA hB hRs
    refine ⟨name, g, (rs.take q).length + 1, bs, rs.take q, ⟨h1, by omega, hR, hl⟩, hB, hRs, ?_, hA, by omega, h.okb, hr2, .inr ⟨rfl, q, hq1, hq2, rfl⟩⟩
    rw [hA, e, List.take_left' rfl]
  have hoth : ∀ x : Int, (name : Int) < x → x ≠ (name : Int) + 1 → ¬ whole G x := fun x hx hx2 ⟨g', r', h6, _⟩ => by
    rw [hc.no x (h.oth x (by omega) hx2)] at h6; cases h6
  cases hrot : rot with
  | false =>
    subst hrot
    refine hkeep (fun x hx hw => ?_)
    by_cases e : x = (name : Int) + 1
    · obtain ⟨g', r', h6, _⟩ := hw
      rw [e, hc.no _ (h.no rfl)] at h6; cases h6
    · exact hoth x hx e hw
  | true =>
    subst hrot
    obtain ⟨gn, hg1, hg2⟩ := h.yes rfl
    obtain ⟨g', h6, h7, h8, h9, h10⟩ := hc.yes _ gn hg1
    by_cases hfull : openN g'.bs = 0
    · have hno : ∀ x, x ∈ ([] : List (List Int)) → RecOK x := fun x hx => by cases hx
      have e : g'.bs = logL nx [] := by
        have h11 : g'.bs = (frameL (0 :: nx).length (0 :: nx)).take g'.n := by rw [h10, hg2]; rfl
        by_cases hlt : g'.n < (0 :: nx).length + 8
        · exact absurd hfull (by rw [h11]; exact cut_no (bytes_cons (by omega) (by omega) h.okn.1) (by rw [List.length_cons]; have := h.okn.2; omega) hlt)
        · rw [h11, List.take_of_length_le (by rw [frameL_length]; omega), logL_nil]; rfl
      have hR := log_reads h.okn hno
      have hA := log_atN h.okn hno
      have hB := log_bsOf h.okn hno
      have hRs := log_rsOf h.okn hno
      rw [← e] at hR hA hB hRs
      refine ⟨name + 1, g', 1, nx, [], ⟨by rw [show ((name + 1 : Nat) : Int) = (name : Int) + 1 by omega]; exact h6, by omega, hR, fun x hx => hoth x (by omega) (by omega)⟩, hB, hRs, ?_, by rw [← e]; exact hA, by omega, h.okn, hno, .inl ⟨rfl, rfl, rfl⟩⟩
      have hA2 : atN g'.bs 1 = g'.bs.length := hA
      rw [hA2, List.take_length, e]
    · refine hkeep (fun x hx hw => ?_)
      by_cases e : x = (name : Int) + 1
      · rw [e] at hw; exact not_whole0 h6 hfull hw
      · exact hoth x hx e hw
end Go.Proofs.Ytadajkgiijpakaa
