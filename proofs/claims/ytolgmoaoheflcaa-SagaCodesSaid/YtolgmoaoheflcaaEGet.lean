/-
  CONTRACTS of the program's reader of layer 12: lists of numbers; GetNumbers.
-/
import Derived.Test.YtolgmoaoheflcaaENum
namespace Go.Proofs.Ytolgmoaoheflcaa
open Go.RowKit
open ByteP CodeP
set_option linter.unusedVariables false
set_option maxRecDepth 10000

theorem num_bytes {r : List Int} {n : Nat} {r' : List Int} (hb : Bytes r) (h : num r = .inr (n, r')) : Bytes r' := by
  have := (num_back hb h).2
  rw [this] at hb
  exact bytes_right hb
theorem num_err {r : List Int} {e : Int} (h : num r = .inl e) : e = 12 ∨ e = 13 := rd1_err _ _ _ _ _ h
theorem cnt_err {r : List Int} {e : Int} (h : cnt r = .inl e) : e = 12 ∨ e = 13 := by
  unfold cnt at h
  split at h
  · next e' he => injection h with h; rw [← h]; exact num_err he
  · split at h
    · injection h with h; omega
    · cases h
theorem cnt_ok {r : List Int} {n : Nat} {r' : List Int} (h : cnt r = .inr (n, r')) : num r = .inr (n, r') ∧ n ≤ r'.length := by
  unfold cnt at h
  split at h
  · cases h
  · next n2 r2 hn =>
    split at h
    · cases h
    · injection h with h
      injection h with h1 h2
      subst h1 h2
      exact ⟨hn, by omega⟩
theorem Rdr.grown {w w' : World} {rb B : Nat} {rest : List Int} {e : Int} (h : Rdr w rb B rest e) {row : Option Nat} (hg : w.grownBy w' row) (hr : ∀ g, row = some g → rb < g) : Rdr w' rb B rest e := by
  obtain ⟨A, c, h1, h2, h3⟩ := h.row
  have hlt := h.lt
  have hh := h.here
  exact ⟨⟨A, c, (hg.block rb hh (fun e => by have := hr rb e.symm; omega)).trans h1, h2.grown hg (by omega) (fun g hg' => by have := hr g hg'; omega), h3⟩, hlt⟩
theorem Rdr.alloc {w : World} {rb B : Nat} {rest : List Int} {e : Int} (h : Rdr w rb B rest e) (o : Obj) : Rdr (w.alloc o) rb B rest e :=
  h.grown (row := none) ⟨rfl, rfl, rfl, by simp, fun k hk _ => Below.heap_alloc w o k hk⟩ (fun g hg => by cases hg)

theorem count_any {w : World} {rb B : Nat} {rest : List Int} (h : Rdr w rb B rest 0) (hb : Bytes rest) (hl : rest.length ≤ 1000000000) :
    Calls Try.prog 80 #[.pointer (some ⟨rb, 0, none⟩)] w fun en w' => ∃ n, en = .returned (.int .i64 n) ∧ NumP w w' rb B (cnt rest) n := by
  have H := Lib.hid (number_go h hb)
  have HBY := Lib.hid hb
  clear h hb
  go_enter Try.func80, Try.ntmps80
  go_wp2_with fail
  refine H.out.mono ?_
  rintro en w1 ⟨n, rfl, hn⟩
  cases hres : num rest with
  | inl e =>
    rw [hres] at hn
    obtain ⟨hg, rfl, r, hrd⟩ := hn
    have HF : Hid (NumP w w1 rb B (cnt rest) 0) := Lib.hid (by
      have e : cnt rest = .inl e := by unfold cnt; rw [hres]
      rw [e]; exact ⟨hg, rfl, r, hrd⟩)
    obtain ⟨A, c, hrow, _, _⟩ := hrd.row
    obtain ⟨hc0, hc1, _, _⟩ := row2 hrow
    clear hg hrd hrow hres
    have d0 : decide (r.length < 0) = false := by simp
    go_wp2
    go_ret
    exact ⟨0, rfl, HF.out⟩
  | inr p =>
    obtain ⟨m, r⟩ := p
    rw [hres] at hn
    obtain ⟨hg, rfl, hrd⟩ := hn
    have HRD := Lib.hid hrd
    have HG := Lib.hid hg
    obtain ⟨A, c, hrow, _, _⟩ := hrd.row
    obtain ⟨hc0, hc1, _, _⟩ := row2 hrow
    by_cases hlt : r.length < m
    · have hz : decide ((r.length : Int) < (m : Int)) = true := by simp; omega
      have HC : Hid (cnt rest = .inl 13) := Lib.hid (by unfold cnt; rw [hres]; simp only; rw [if_pos hlt])
      have HFL := Lib.hid (fail_any HRD.out 13)
      clear hrd hg hrow hres
      go_wp2_with fail
      refine HFL.out.mono ?_
      rintro en w2 ⟨rfl, h2, hg2⟩
      have HF : Hid (NumP w w2 rb B (cnt rest) 0) := Lib.hid (by rw [HC.out]; exact ⟨grown_add HG.out hg2, rfl, r, by simpa using h2⟩)
      clear h2 hg2
      go_wp2
      go_ret
      exact ⟨0, rfl, HF.out⟩
    · have hz : decide ((r.length : Int) < (m : Int)) = false := by simp; omega
      have HF : Hid (NumP w w1 rb B (cnt rest) (m : Int)) := Lib.hid (by
        have e : cnt rest = .inr (m, r) := by unfold cnt; rw [hres]; simp only; rw [if_neg hlt]
        rw [e]; exact ⟨hg, rfl, hrd⟩)
      clear hrd hg hrow hres
      go_wp2
      go_ret
      exact ⟨_, rfl, HF.out⟩

def casts (l : List Nat) : List Int := l.map (fun n : Nat => (n : Int))
theorem casts_len (l : List Nat) : (casts l).length = l.length := by simp [casts]
theorem casts_snoc (l : List Nat) (x : Nat) : casts (l ++ [x]) = casts l ++ [(x : Int)] := by simp [casts]
/-- More in front. -/
def cont (l : List Nat) (res : Sum Int (List Nat × List Int)) : Sum Int (List Nat × List Int) :=
  match res with
  | .inl e => .inl e
  | .inr (m, r) => .inr (l ++ m, r)
theorem cont_nil (res : Sum Int (List Nat × List Int)) : cont [] res = res := by
  unfold cont
  split
  · rfl
  · simp
theorem cont_cont (l : List Nat) (x : Nat) (res : Sum Int (List Nat × List Int)) : cont l (cont [x] res) = cont (l ++ [x]) res := by
  cases res with
  | inl e => rfl
  | inr p => simp [cont]
theorem rdN_step {n : Nat} {r : List Int} {x : Nat} {r1 : List Int} (h : num r = .inr (x, r1)) : rdN (n + 1) r = cont [x] (rdN n r1) := by
  rw [rdN, h]
  simp only
  unfold cont
  split <;> simp_all
theorem rdN_err {n : Nat} {r : List Int} {e : Int} (h : num r = .inl e) : rdN (n + 1) r = .inl e := by rw [rdN, h]
/-- What getList leaves. -/
def LstP (w0 w : World) (rb B : Nat) (res : Sum Int (List Nat × List Int)) (v : Value) : Prop :=
  Below rb w0 w ∧ match res with
    | .inl e => v = .slice none 0 0 ∧ ∃ r, Rdr w rb B r e
    | .inr (l, r) => Own w (rb + 1) v l.length (casts l) ∧ Rdr w rb B r 0
theorem rest_len {r : List Int} {n : Nat} {r' : List Int} (hb : Bytes r) (h : num r = .inr (n, r')) : r'.length ≤ r.length := by
  have := (num_back hb h).2
  rw [this, List.length_append]
  omega
set_option maxHeartbeats 2000000 in
theorem getInts_any {w : World} {rb B : Nat} {rest : List Int} (h : Rdr w rb B rest 0) (hb : Bytes rest) (hl : rest.length ≤ 1000000000) :
    Calls Try.prog 78 #[.pointer (some ⟨rb, 0, none⟩), .func (.func 79) #[.pointer (some ⟨rb, 0, none⟩)] #[]] w fun en w' => ∃ A n c, en = .returned (.slice A n c) ∧ LstP w w' rb B (lst rest) (.slice A n c) := by
  have H := Lib.hid (count_any h hb hl)
  have HBY := Lib.hid hb
  have hrl := h.here
  clear h hb
  go_enter Try.func78, Try.ntmps78
  go_wp2_with fail
  refine H.out.mono ?_
  rintro en w1 ⟨n, rfl, hn⟩
  cases hres : cnt rest with
  | inl e =>
    rw [hres] at hn
    obtain ⟨hg, rfl, r, hrd⟩ := hn
    -- nothing follows, and the list is empty: the error stays
    have HF : Hid (LstP w w1 rb B (lst rest) (.slice none 0 0)) := Lib.hid (by
      have e2 : lst rest = .inl e := by unfold lst; rw [hres]
      rw [e2]
      exact ⟨(Below.refl _ _).grown hg (by omega) (fun g hg => by injection hg with e; omega), rfl, r, hrd⟩)
    clear hg hrd hres
    go_wp2
    refine wp_loop_rounds 1 ?_
    rw [rounds_succ]
    go_wp2
    go_ret
    exact ⟨none, 0, 0, rfl, HF.out⟩
  | inr p =>
    obtain ⟨m, r0⟩ := p
    rw [hres] at hn
    obtain ⟨hg, rfl, hrd⟩ := hn
    obtain ⟨hnum, hm⟩ := cnt_ok hres
    have HRD := Lib.hid hrd
    have HB1 : Hid (Below rb w w1) := Lib.hid ((Below.refl _ _).grown hg (by omega) (fun g hg => by injection hg with e; omega))
    have HBY0 := Lib.hid (num_bytes HBY.out hnum)
    have hrl1 := rest_len HBY.out hnum
    have HL : Hid (lst rest = rdN m r0) := Lib.hid (by unfold lst; rw [hres])
    have hz1 := hg.size
    clear hg hrd hres hnum
    go_wp2
    go_loopw [5, 6, 9] (fun v5 _ v9 wr => ∃ (j : Nat) (l : List Nat) (r : List Int) (A : Option Addr) (c : Nat), j ≤ m ∧ v9 = .int .i64 (j : Int) ∧ v5 = .slice A j c ∧ Hid (Own wr (rb + 1) (.slice A j c) j (casts l)) ∧ Hid (l.length = j) ∧ Hid (Rdr wr rb B r 0) ∧ Hid (Bytes r) ∧ r.length ≤ 1000000000 ∧ Hid (cont l (rdN (m - j) r) = rdN m r0) ∧ Hid (Below rb w wr) ∧ rb < wr.heap.size) (fun _ _ v _ => m - (intOf v).toNat)
    case atStart => exact ⟨0, [], r0, none, 0, Nat.zero_le _, rfl, rfl, Lib.hid (Own.nil_ _ _), Lib.hid rfl, HRD, HBY0, by omega, Lib.hid (by rw [cont_nil]; rfl), HB1, by omega⟩
    case round =>
      obtain ⟨j, l, r, A, c, hj, rfl, rfl, HO, HLE, HR, HBR, hrlen, HN, HB, hlt⟩ := hrel
      by_cases hjm : j < m
      · have hd : decide ((j : Int) < (m : Int)) = true := by simp; omega
        have hadd : IntKind.i64.wrap ((j : Int) + 1) = ((j + 1 : Nat) : Int) := by rw [IntWalk.i64_in _ (by omega)]; omega
        have HNG := Lib.hid (number_go HR.out HBR.out)
        go_wp2_with fail
        refine HNG.out.mono ?_
        rintro en w2 ⟨x, rfl, hx⟩
        clear HNG
        cases hres : num r with
        | inl e =>
          rw [hres] at hx
          obtain ⟨hg, rfl, r2, hrd⟩ := hx
          have he := num_err hres
          have hne : (e != 0) = true := by rcases he with h | h <;> subst h <;> rfl
          have HF : Hid (LstP w w2 rb B (lst rest) (.slice none 0 0)) := Lib.hid (by
            have e2 : lst rest = .inl e := by
              rw [HL.out, ← HN.out, show m - j = (m - j - 1) + 1 by omega, rdN_err hres]; rfl
            rw [e2]
            exact ⟨HB.out.grown hg (by omega) (fun g hg => by injection hg with e; omega), rfl, r2, hrd⟩)
          obtain ⟨A', c', hrow, _, _⟩ := hrd.row
          obtain ⟨hc0, hc1, _, _⟩ := row2 hrow
          clear hg hrd hres hrow he
          go_wp2
          go_ret
          exact ⟨none, 0, 0, rfl, HF.out⟩
        | inr p =>
          obtain ⟨q, r2⟩ := p
          rw [hres] at hx
          obtain ⟨hg, rfl, hrd⟩ := hx
          have HRD2 := Lib.hid hrd
          have HB2 : Hid (Below rb w w2) := Lib.hid (HB.out.grown hg (by omega) (fun g hg => by injection hg with e; omega))
          have HO2 : Hid (Own w2 (rb + 1) (.slice A j c) j (casts l)) := Lib.hid (HO.out.other hg (fun g hg' e => by injection e with e; have := HO.out.ge g hg'; omega))
          have HBR2 := Lib.hid (num_bytes HBR.out hres)
          have hrl2 := rest_len HBR.out hres
          have HN2 : Hid (cont (l ++ [q]) (rdN (m - (j + 1)) r2) = rdN m r0) := Lib.hid (by
            rw [← HN.out, show m - j = (m - (j + 1)) + 1 by omega, rdN_step hres, cont_cont])
          have hlt2 := hrd.here
          have hcl : (w2.alloc (.cells #[.int .i64 (q : Int)] 3)).cell? ⟨w2.heap.size, 0, none⟩ = some (.int .i64 (q : Int)) := by
            have := heap_alloc_new w2 (.cells #[.int .i64 (q : Int)] 3)
            simp only [World.cell?, this]; rfl
          have HCL := Lib.hid hcl
          obtain ⟨A', c', hrow, _, _⟩ := hrd.row
          obtain ⟨hc0, hc1, _, _⟩ := row2 hrow
          clear hg hrd hres hrow hcl
          go_wp2_with (at_builtin; refine wpl_app rfl (.tmp 18) (.tmp 20) rfl (rb + 1) (.slice A j c) j (casts l) rfl (HO2.out.alloc _) w2.heap.size (q : Int) rfl HCL.out (by omega) (by simp; omega) ?_; intro g c2 w3 hown3 hge3 hgr3 hat3)
          have HO3 : Hid (Own w3 (rb + 1) (.slice (some ⟨g, 0, none⟩) (j + 1) c2) (j + 1) (casts (l ++ [q]))) := Lib.hid (by rw [casts_snoc]; exact hown3)
          have HR3 : Hid (Rdr w3 rb B r2 0) := Lib.hid ((HRD2.out.alloc _).grown hgr3 (fun g hg => by have := HO2.out.ge g hg; omega))
          have HB3 : Hid (Below rb w w3) := Lib.hid ((HB2.out.alloc (by omega) _).grown hgr3 (by simp; omega) (fun g hg => by have := HO2.out.ge g hg; omega))
          have hz3 := hgr3.size
          have hlt3 : rb < w3.heap.size := by simp at hz3; omega
          clear hown3 hgr3 hat3 hz3
          go_roundw
          case rel => exact ⟨j + 1, l ++ [q], r2, _, _, by omega, rfl, rfl, HO3, Lib.hid (by rw [List.length_append, HLE.out]; rfl), HR3, HBR2, by omega, HN2, HB3, hlt3⟩
          case measure => simp [intOf]; omega
      · have hd : decide ((j : Int) < (m : Int)) = false := by simp; omega
        obtain rfl : j = m := by omega
        have HF : Hid (LstP w wr rb B (lst rest) (.slice A j c)) := Lib.hid (by
          have e2 : lst rest = .inr (l, r) := by
            rw [HL.out, ← HN.out, Nat.sub_self]
            simp [rdN, cont]
          rw [e2]
          refine ⟨HB.out, ?_, HR.out⟩
          rw [HLE.out]
          exact HO.out)
        go_wp2
        go_ret
        exact ⟨A, _, c, rfl, HF.out⟩
theorem numbers_any {w : World} {rb B : Nat} {rest : List Int} (h : Rdr w rb B rest 0) (hb : Bytes rest) (hl : rest.length ≤ 1000000000) :
    Calls Try.prog 60 #[.pointer (some ⟨rb, 0, none⟩)] w fun en w' => ∃ A n c, en = .returned (.slice A n c) ∧ LstP w w' rb B (lst rest) (.slice A n c) := by
  have H := Lib.hid (getInts_any h hb hl)
  clear h hb
  go_enter Try.func60, Try.ntmps60
  go_wp2_with fail
  refine H.out.mono ?_
  rintro en w1 ⟨A, n, c, rfl, hp⟩
  have HP := Lib.hid hp
  clear hp
  go_wp2
  go_ret
  exact ⟨A, n, c, rfl, HP.out⟩
def endE (e : Int) (rest : List Int) : Int := if e = 0 ∧ rest ≠ [] then 12 else e
theorem endE_nil (e : Int) : endE e [] = e := by simp [endE]
theorem endE_zero {r : List Int} (h : r ≠ []) : endE 0 r = 12 := by simp [endE, h]
theorem endE_err {e : Int} (h : e ≠ 0) (r : List Int) : endE e r = e := by simp [endE, h]
theorem ended_any {w : World} {rb B : Nat} {rest : List Int} {e : Int} (h : Rdr w rb B rest e) :
    Calls Try.prog 65 #[.pointer (some ⟨rb, 0, none⟩)] w fun en w' => en = .returned (.int .i64 (endE e rest)) ∧ w.grownBy w' (some rb) := by
  obtain ⟨A, c, hrow, _, _⟩ := h.row
  obtain ⟨hc0, hc1, _, _⟩ := row2 hrow
  have HFL := Lib.hid (fail_any h 12)
  clear h hrow
  cases rest with
  | nil =>
    rw [endE_nil]
    have hz : decide ((0 : Int) < (([] : List Int).length : Int)) = false := by simp
    go_enter Try.func65, Try.ntmps65
    go_wp2
    go_ret
    exact ⟨rfl, World.grownBy.refl _ _⟩
  | cons b r =>
    have hln : (b :: r).length = r.length + 1 := rfl
    rw [hln] at hc0
    by_cases he : e = 0
    · subst he
      rw [endE_zero (by simp)]
      go_enter Try.func65, Try.ntmps65
      go_wp2_with fail
      refine HFL.out.mono ?_
      rintro en w2 ⟨rfl, h2, hg2⟩
      have HG := Lib.hid hg2
      obtain ⟨A', c', hrow', _, _⟩ := h2.row
      obtain ⟨hz0, hz1, _, _⟩ := row2 hrow'
      simp at hz1
      clear h2 hg2 hrow'
      go_wp2
      go_ret
      exact ⟨rfl, HG.out⟩
    · rw [endE_err he]
      have HE := Lib.hid he
      clear he
      go_enter Try.func65, Try.ntmps65
      go_wp2_with fail
      refine HFL.out.mono ?_
      rintro en w2 ⟨rfl, h2, hg2⟩
      have HG := Lib.hid hg2
      obtain ⟨A', c', hrow', _, _⟩ := h2.row
      obtain ⟨hz0, hz1, _, _⟩ := row2 hrow'
      have hz2 : w2.cell? ⟨rb, 1, none⟩ = some (.int .i64 e) := by rw [hz1]; simp [HE.out]
      clear h2 hg2 hrow' hz1
      go_wp2
      go_ret
      exact ⟨rfl, HG.out⟩
/-- What GetNumbers answers. -/
def GetP (w0 w : World) (res : Sum Int (List Nat)) (v : Value) (er : Int) : Prop :=
  Below w0.heap.size w0 w ∧ match res with
    | .inl e => v = .slice none 0 0 ∧ er = e ∧ (e = 12 ∨ e = 13)
    | .inr l => er = 0 ∧ Own w w0.heap.size v l.length (casts l)
theorem lst_err {r : List Int} {e : Int} (hb : Bytes r) (h : lst r = .inl e) : e = 12 ∨ e = 13 := by
  unfold lst at h
  split at h
  · next e' he => injection h with h; rw [← h]; exact cnt_err he
  · next n r1 hc =>
    clear hc
    revert r1
    induction n with
    | zero => intro r1 h; cases h
    | succ n ih =>
      intro r1 h
      unfold rdN at h
      split at h
      · next e' he => injection h with h; rw [← h]; exact num_err he
      · next x r2 hx =>
        split at h
        · next e' he => injection h with h; subst h; exact ih r2 he
        · cases h
theorem all_err {r : List Int} {e : Int} (hb : Bytes r) (h : all r = .inl e) : e = 12 ∨ e = 13 := by
  unfold all at h
  split at h
  · next e' he => injection h with h; rw [← h]; exact lst_err hb he
  · split at h
    · cases h
    · injection h with h; omega
set_option maxHeartbeats 1000000 in
theorem getN_any {w : World} {B n c : Nat} {A : Option Addr} {bs : List Int} (hr : RdY w B A n bs) (hc : CapA A n c) (hB : B ≤ w.heap.size) (hb : Bytes bs) (hl : n ≤ 1000000000) :
    Calls Try.prog 52 #[.slice A n c] w fun en w' => ∃ A' n' c' er, en = .returned (.tuple #[.slice A' n' c', .int .i64 er]) ∧ GetP w w' (all bs) (.slice A' n' c') er := by
  have hlen := hr.len
  have HB0 : Hid (Below w.heap.size w (w.alloc (.cells #[.slice A n c, .int .i64 0] 116))) := Lib.hid ((Below.refl _ w).alloc (Nat.le_refl _) _)
  have HR : Hid (Rdr (w.alloc (.cells #[.slice A n c, .int .i64 0] 116)) w.heap.size B bs 0) := Lib.hid ⟨⟨A, c, by rw [hlen]; exact heap_alloc_new w _, by rw [hlen]; exact hr.alloc hB _, by rw [hlen]; exact hc⟩, hB⟩
  have HBY := Lib.hid hb
  have HN := Lib.hid (numbers_any HR.out hb (by omega))
  clear hr hc hb
  go_enter Try.func52, Try.ntmps52
  go_wp2_with fail
  refine HN.out.mono ?_
  rintro en w1 ⟨A1, n1, c1, rfl, hp⟩
  clear HN
  cases hres : lst bs with
  | inl e =>
    rw [hres] at hp
    obtain ⟨hbl, e1, r, hrd⟩ := hp
    injection e1 with e2 e3 e4
    subst e2 e3 e4
    have he := lst_err HBY.out hres
    have hne : (e != 0) = true := by rcases he with h | h <;> subst h <;> rfl
    have HE := Lib.hid (ended_any hrd)
    have HF : Hid (∀ w2, w1.grownBy w2 (some w.heap.size) → GetP w w2 (all bs) (.slice none 0 0) e) := Lib.hid (fun w2 hg => by
      have e5 : all bs = .inl e := by unfold all; rw [hres]
      rw [e5]
      exact ⟨(HB0.out.trans hbl).grown hg (by have := hrd.here; omega) (fun g hg => by injection hg with e; omega), rfl, rfl, he⟩)
    have HNE : Hid (endE e r = e) := Lib.hid (endE_err (by omega) r)
    clear hbl hrd hres he
    go_wp2_with fail
    refine HE.out.mono ?_
    rintro en w2 ⟨rfl, hg2⟩
    rw [HNE.out]
    have HF2 := Lib.hid (HF.out w2 hg2)
    clear hg2
    go_wp2
    go_ret2
    exact ⟨none, 0, 0, e, rfl, HF2.out⟩
  | inr p =>
    obtain ⟨l, r⟩ := p
    rw [hres] at hp
    obtain ⟨hbl, hown, hrd⟩ := hp
    have HE := Lib.hid (ended_any hrd)
    have HO := Lib.hid hown
    have HB1 : Hid (∀ w2, w1.grownBy w2 (some w.heap.size) → Below w.heap.size w w2) := Lib.hid (fun w2 hg => (HB0.out.trans hbl).grown hg (by have := hrd.here; omega) (fun g hg => by injection hg with e; omega))
    by_cases hr0 : r = []
    · subst hr0
      have HALL : Hid (all bs = .inr l) := Lib.hid (by unfold all; rw [hres]; simp)
      clear hbl hrd hres hown
      go_wp2_with fail
      refine HE.out.mono ?_
      rintro en w2 ⟨rfl, hg2⟩
      have HF2 : Hid (GetP w w2 (all bs) (.slice A1 n1 c1) 0) := Lib.hid (by
        rw [HALL.out]
        exact ⟨HB1.out w2 hg2, rfl, (HO.out.other hg2 (fun g hg e => by injection e with e; have := HO.out.ge g hg; omega)).less (by omega)⟩)
      clear hg2
      rw [endE_nil]
      go_wp2
      go_ret2
      exact ⟨A1, n1, c1, 0, rfl, HF2.out⟩
    · have HALL : Hid (all bs = .inl 12) := Lib.hid (by unfold all; rw [hres]; simp only; rw [if_neg hr0])
      have HE12 : Hid (endE 0 r = 12) := Lib.hid (endE_zero hr0)
      clear hbl hrd hres hown hr0
      go_wp2_with fail
      refine HE.out.mono ?_
      rintro en w2 ⟨rfl, hg2⟩
      have HF2 : Hid (GetP w w2 (all bs) (.slice none 0 0) 12) := Lib.hid (by
        rw [HALL.out]
        exact ⟨HB1.out w2 hg2, rfl, rfl, .inl rfl⟩)
      clear hg2
      rw [HE12.out]
      go_wp2
      go_ret2
      exact ⟨none, 0, 0, 12, rfl, HF2.out⟩
end Go.Proofs.Ytolgmoaoheflcaa
