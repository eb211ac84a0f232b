/-
  Catalogues in bytes: plain mathematics, and the words for their memory.
-/
import Derived.Test.YtmfoammkcokcoaaUGr
namespace Go.Proofs.Ytmfoammkcokcoaa
open Go.RowKit
open ByteP CodeP
set_option linter.unusedVariables false
set_option maxRecDepth 10000
abbrev Nd := Int × List (List CV)
abbrev Ver := Int × Int × Int × ByteArray
abbrev Rl := Ver × Int × List Nd
abbrev Sv := ByteArray × List Rl
instance : Inhabited Ver := ⟨(0, 0, 0, ⟨#[]⟩)⟩
instance : Inhabited Rl := ⟨((0, 0, 0, ⟨#[]⟩), 0, [])⟩
instance : Inhabited Sv := ⟨(⟨#[]⟩, [])⟩
theorem Both.congr {α : Type} {p : Pr α} {e e' : α → List Int} {ok ok' : α → Prop} (h : Both p e ok) (he : ∀ x, ok x → e x = e' x) (hok : ∀ x, ok x ↔ ok' x) : Both p e' ok' where
  pos x hx := by rw [← he x ((hok x).2 hx)]; exact h.pos x ((hok x).2 hx)
  bytes x hx := by rw [← he x ((hok x).2 hx)]; exact h.bytes x ((hok x).2 hx)
  err := h.err
  enc {x} hx r := by rw [← he x ((hok x).2 hx)]; exact h.enc ((hok x).2 hx) r
  back {r r' x} hb hp := by
    obtain ⟨h1, h2⟩ := h.back hb hp
    exact ⟨(hok x).1 h1, by rw [← he x h1]; exact h2⟩
  cut {x} hx k hk := by
    rw [← he x ((hok x).2 hx)] at hk ⊢
    exact h.cut ((hok x).2 hx) k hk
def verOt (v : Ver) : List Int := verO v.1 v.2.1 v.2.2.1 v.2.2.2
def verBt (v : Ver) : Bool := verB v.1 v.2.1 v.2.2.1
def okVt (v : Ver) : Prop := verBt v = false ∧ v.2.2.2.size ≤ 1099511627776
def verF (v : Nat × Nat × Nat × List Int) : Ver := ((v.1 : Int), (v.2.1 : Int), (v.2.2.1 : Int), strOfNums v.2.2.2)
def verG (v : Ver) : Nat × Nat × Nat × List Int := (v.1.toNat, v.2.1.toNat, v.2.2.1.toNat, bsS v.2.2.2)
def verP : Pr Ver := mapP verF verV
theorem okVt_iff (v : Ver) : (okV (verG v) ∧ verF (verG v) = v) ↔ okVt v := by
  obtain ⟨a, b, c, s⟩ := v
  constructor
  · rintro ⟨⟨h1, h2, h3, h4, _⟩, h⟩
    simp only [verG, bsS_len] at h1 h2 h3 h4
    simp only [verF, verG, Prod.mk.injEq] at h
    obtain ⟨e1, e2, e3, _⟩ := h
    refine ⟨?_, h4⟩
    unfold verBt verB
    simp only
    rw [← e1, ← e2, ← e3, okI_nat h1, okI_nat h2, okI_nat h3]; rfl
  · rintro ⟨h, hs⟩
    unfold verBt verB at h
    simp only [Bool.or_eq_false_iff, Bool.not_eq_false'] at h hs
    obtain ⟨h1, h2, h3⟩ := h
    obtain ⟨x, rfl, hx⟩ := okI_of h1
    obtain ⟨y, rfl, hy⟩ := okI_of h2
    obtain ⟨z, rfl, hz⟩ := okI_of h3
    refine ⟨⟨?_, ?_, ?_, ?_, bsS_bytes s⟩, ?_⟩
    · simpa [verG] using hx
    · simpa [verG] using hy
    · simpa [verG] using hz
    · simpa [verG, bsS_len] using hs
    · simp [verF, verG, str_bs]
theorem verP_both : Both verP verOt okVt :=
  (ver_both.map verF verG (fun x hx => by
    obtain ⟨a, b, c, t⟩ := x
    simp only [verF, verG, Int.toNat_natCast, bs_str hx.2.2.2.2])).congr (fun v hv => by
    obtain ⟨⟨h1, h2, h3, _⟩, h⟩ := hv
    obtain ⟨a, b, c, s⟩ := v
    simp only [verG] at h1 h2 h3
    simp only [verF, verG, Prod.mk.injEq] at h
    obtain ⟨e1, e2, e3, _⟩ := h
    have e := verO_nat (s := s) h1 h2 h3
    rw [e1, e2, e3] at e
    exact e.symm) okVt_iff
def strP : Pr ByteArray := mapP strOfNums txt
def strO (s : ByteArray) : List Int := enc s.size ++ bsS s
def okS (s : ByteArray) : Prop := s.size ≤ 1099511627776
theorem strP_both : Both strP strO okS :=
  (txt_both.map strOfNums bsS (fun x hx => bs_str hx.2)).congr (fun s hs => by rw [bsS_len]; rfl) (fun s => ⟨fun h => by have := h.1.1; rw [bsS_len] at this; exact this, fun h => ⟨⟨by rw [bsS_len]; exact h, bsS_bytes s⟩, str_bs s⟩⟩)
def rlO (r : Rl) : List Int := verOt r.1 ++ (outI r.2.1 ++ lsE pinO r.2.2)
def rlB (r : Rl) : Bool := verBt r.1 || (!okI r.2.1 || badN r.2.2)
def relP : Pr Rl := pairP verP (pairP numI (lsL pinP))
def okRl (r : Rl) : Prop := okVt r.1 ∧ okI r.2.1 = true ∧ okL okPin r.2.2
theorem rel_both : Both relP rlO okRl := verP_both.pair (numI_both.pair pin_both.list)
def badRl (l : List Rl) : Bool := l.any rlB
def svO (s : Sv) : List Int := strO s.1 ++ lsE rlO s.2
def svB (s : Sv) : Bool := badRl s.2
def svP : Pr Sv := pairP strP (lsL relP)
def okSv (s : Sv) : Prop := okS s.1 ∧ okL okRl s.2
theorem sv_both : Both svP svO okSv := strP_both.pair rel_both.list
def badSv (l : List Sv) : Bool := l.any svB
def catP : Pr (List Sv) := lsL svP
def catO (c : List Sv) : List Int := lsE svO c
def okCat (c : List Sv) : Prop := okL okSv c
theorem cat_both : Both catP catO okCat := sv_both.list
theorem badRl_snoc (l : List Rl) (x : Rl) : badRl (l ++ [x]) = (badRl l || rlB x) := by simp [badRl]
theorem badSv_snoc (l : List Sv) (x : Sv) : badSv (l ++ [x]) = (badSv l || svB x) := by simp [badSv]
theorem take_d {α : Type} [Inhabited α] (l : List α) (k : Nat) (h : k < l.length) : l.take (k + 1) = l.take k ++ [l.getD k default] := by
  rw [List.take_add_one, List.getElem?_eq_getElem h]
  simp [List.getD, h]
theorem getD_mem {α : Type} [Inhabited α] {l : List α} {j : Nat} (h : j < l.length) : l.getD j default ∈ l := by simp [List.getD, h]
theorem fl_take {α : Type} (e : α → List Int) (l : List α) (j : Nat) : (fl e (l.take j)).length ≤ (fl e l).length := by
  have h : fl e l = fl e (l.take j) ++ fl e (l.drop j) := by rw [← fl_append, List.take_append_drop]
  rw [h, List.length_append]; omega
theorem fl_at {α : Type} [Inhabited α] (e : α → List Int) (l : List α) (j : Nat) (h : j < l.length) : (fl e (l.take j)).length + (e (l.getD j default)).length ≤ (fl e l).length := by
  have := fl_take e l (j + 1)
  rw [take_d l j h, fl_snoc, List.length_append] at this
  exact this
/-! ### Shapes -/
def ShRl (r : Rl) : Prop := r.1.2.2.2.size ≤ 2000000 ∧ ShN r.2.2
def ShRls (l : List Rl) : Prop := l.length ≤ 2000000 ∧ ∀ r ∈ l, ShRl r
def ShSv (s : Sv) : Prop := s.1.size ≤ 2000000 ∧ ShRls s.2
def ShCat (c : List Sv) : Prop := c.length ≤ 2000000 ∧ ∀ s ∈ c, ShSv s
theorem shRl_ok {r : Rl} (h : rlB r = false) (hs : ShRl r) : okRl r := by
  unfold rlB at h
  simp only [Bool.or_eq_false_iff, Bool.not_eq_false'] at h
  exact ⟨⟨h.1, by have := hs.1; omega⟩, h.2.1, shN_ok h.2.2 hs.2⟩
theorem shRls_ok {l : List Rl} (h : badRl l = false) (hs : ShRls l) : okL okRl l := ⟨by have := hs.1; omega, fun r hr => shRl_ok (by
  have := (List.any_eq_false.1 h) r hr
  simpa using this) (hs.2 r hr)⟩
theorem shSv_ok {s : Sv} (h : svB s = false) (hs : ShSv s) : okSv s := ⟨by have := hs.1; unfold okS; omega, shRls_ok h hs.2⟩
theorem shCat_ok {c : List Sv} (h : badSv c = false) (hs : ShCat c) : okCat c := ⟨by have := hs.1; omega, fun s hm => shSv_ok (by
  have := (List.any_eq_false.1 h) s hm
  simpa using this) (hs.2 s hm)⟩
theorem okRl_bad {l : List Rl} (h : ∀ r ∈ l, okRl r) : badRl l = false := List.any_eq_false.2 fun r hr => by
  unfold rlB
  rw [(h r hr).1.1, (h r hr).2.1, okPin_bad (h r hr).2.2.2]; simp
theorem okCat_bad {c : List Sv} (h : okCat c) : badSv c = false := List.any_eq_false.2 fun s hs => by
  unfold svB
  rw [okRl_bad (h.2 s hs).2.2]; simp
theorem lsE_len {α : Type} (e : α → List Int) (l : List α) : (lsE e l).length = (enc l.length).length + (fl e l).length := by unfold lsE; rw [List.length_append]
theorem memF {α : Type} {e : α → List Int} : ∀ {l : List α} {x : α}, x ∈ l → (e x).length ≤ (fl e l).length
  | y :: l, x, h => by
    rw [fl_cons, List.length_append]
    rcases List.mem_cons.1 h with h | h
    · subst h; omega
    · have := memF (e := e) h; omega
theorem okC_sz {x : CV} (h : okC x) : x.s.size ≤ (compO x).length := by
  rcases okC_cases h with rfl | ⟨n, a, b, c, s, rfl, hn, hv⟩
  · exact Nat.zero_le _
  · rw [compO_of hn hv, List.length_append]
    have e : (verE (a, b, c, bsS s)).length = (enc a).length + ((enc b).length + ((enc c).length + ((enc (bsS s).length).length + (bsS s).length))) := by
      simp only [verE, List.length_append]
    rw [e, bsS_len]
    show s.size ≤ _
    omega
theorem shC_of {l : List CV} (h : okL okC l) (hl : (lisO l).length ≤ 2000000) : ShC l := by
  have h1 := fl_ge comp_both h.2
  rw [lisO_eq, lsE_len] at hl
  refine ⟨by omega, fun x hx => ?_⟩
  have h2 := memF (e := compO) hx
  have h3 := okC_sz (h.2 x hx)
  omega
theorem shL_of {r : List (List CV)} (h : okR r) (hl : (rngO r).length ≤ 2000000) : ShL r := by
  have h1 := fl_ge comp_both.list h.2
  rw [rngO_eq, lsE_len] at hl
  refine ⟨by omega, fun l hl2 => shC_of (h.2 l hl2) ?_⟩
  have h2 := memF (e := lsE compO) hl2
  rw [lisO_eq]; omega
theorem shN_of {l : List Nd} (h : okL okPin l) (hl : (lsE pinO l).length ≤ 2000000) : ShN l := by
  have h1 := fl_ge pin_both h.2
  rw [lsE_len] at hl
  refine ⟨by omega, fun p hp => shL_of (h.2 p hp).2 ?_⟩
  have h3 := memF (e := pinO) hp
  have e3 : (pinO p).length = (outI p.1).length + (rngO p.2).length := by unfold pinO; rw [List.length_append]
  omega
theorem verOt_sz (v : Ver) : v.2.2.2.size ≤ (verOt v).length := by
  unfold verOt verO
  simp only [List.length_append, bsS_len]; omega
theorem shRls_of {l : List Rl} (h : okL okRl l) (hl : (lsE rlO l).length ≤ 2000000) : ShRls l := by
  have h1 := fl_ge rel_both h.2
  rw [lsE_len] at hl
  refine ⟨by omega, fun r hr => ?_⟩
  have h3 := memF (e := rlO) hr
  have e3 : (rlO r).length = (verOt r.1).length + ((outI r.2.1).length + (lsE pinO r.2.2).length) := by unfold rlO; rw [List.length_append, List.length_append]
  have h4 := verOt_sz r.1
  exact ⟨by omega, shN_of (h.2 r hr).2.2 (by omega)⟩
theorem shCat_of {c : List Sv} (h : okCat c) (hl : (catO c).length ≤ 2000000) : ShCat c := by
  have h1 := fl_ge sv_both h.2
  unfold catO at hl
  rw [lsE_len] at hl
  refine ⟨by omega, fun s hs => ?_⟩
  have h3 := memF (e := svO) hs
  have e3 : (svO s).length = (strO s.1).length + (lsE rlO s.2).length := by unfold svO; rw [List.length_append]
  have e4 : (strO s.1).length = (enc s.1.size).length + s.1.size := by unfold strO; rw [List.length_append, bsS_len]
  exact ⟨by omega, shRls_of (h.2 s hs).2 (by omega)⟩
/-! ### Memory -/
/-- A version's four cells. -/
def vnI : ItT Ver := FlI (fun v => [.int .i64 v.1, .int .i64 v.2.1, .int .i64 v.2.2.1, .string v.2.2.2])
theorem vn_turns : Turns vnI := FlI.turns
def stI : ItT ByteArray := FlI (fun s => [.string s])
theorem st_turns : Turns stI := FlI.turns
def reI : ItT Rl := TwI vnI (TwI inI psI)
theorem re_turns : Turns reI := TwI.turns vn_turns (TwI.turns in_turns ps_turns)
def rsI : ItT (List Rl) := SlI 6 reI
theorem rs_turns : Turns rsI := SlI.turns re_turns
def svI : ItT Sv := TwI stI rsI
theorem sv_turns : Turns svI := TwI.turns st_turns rs_turns
def ssI : ItT (List Sv) := SlI 2 svI
theorem ss_turns : Turns ssI := SlI.turns sv_turns
theorem psI.rdB {w : World} {B : Nat} {A : Option Addr} {n c : Nat} {l : List Nd} (h : psI w (fun b => B ≤ b) [.slice A n c] l) : RdN w B A n l := by
  obtain ⟨A', n', c', e, hr⟩ := h
  injection e with e _
  injection e with e1 e2 e3
  subst e1 e2 e3
  exact hr.n
theorem RdG.below {α : Type} [Inhabited α] {z : Nat} {I : ItT α} (hI : Turns I) {w w' : World} {B : Nat} {A : Option Addr} {n : Nat} {l : List α} (h : RdG z I w (fun b => B ≤ b) A n l) (hb : Below B w w') : RdG z I w' (fun b => B ≤ b) A n l :=
  h.turn hI (FrM.of_below hb (fun b _ h => h)) (fun b h => .inl h)
theorem Turns.below {α : Type} {I : ItT α} (hI : Turns I) {w w' : World} {B : Nat} {vs : List Value} {x : α} (h : I w (fun b => B ≤ b) vs x) (hb : Below B w w') : I w' (fun b => B ≤ b) vs x :=
  hI.go h (FrM.of_below hb (fun b _ h => h)) (fun b h => .inl h)
/-- A release's six cells. -/
theorem reI.parts {w : World} {M : Nat → Prop} {vs : List Value} {x : Rl} (h : reI w M vs x) : ∃ A n c, vs = [.int .i64 x.1.1, .int .i64 x.1.2.1, .int .i64 x.1.2.2.1, .string x.1.2.2.2, .int .i64 x.2.1, .slice A n c] ∧ psI w M [.slice A n c] x.2.2 := by
  obtain ⟨us, ts, hvs, h1, us2, ts2, hts, h2, h3⟩ := h
  have h1' : us = [.int .i64 x.1.1, .int .i64 x.1.2.1, .int .i64 x.1.2.2.1, .string x.1.2.2.2] := h1
  have h2' : us2 = [.int .i64 x.2.1] := h2
  have h3' := h3
  obtain ⟨A, n, c, rfl, hr⟩ := h3
  subst h1' h2' hts hvs
  exact ⟨A, n, c, rfl, h3'⟩
theorem svI.parts {w : World} {M : Nat → Prop} {vs : List Value} {x : Sv} (h : svI w M vs x) : ∃ A n c, vs = [.string x.1, .slice A n c] ∧ RdG 6 reI w M A n x.2 := by
  obtain ⟨us, ts, hvs, h1, h2⟩ := h
  have h1' : us = [.string x.1] := h1
  obtain ⟨A, n, c, rfl, hr⟩ := h2
  subst h1' hvs
  exact ⟨A, n, c, rfl, hr⟩
end Go.Proofs.Ytmfoammkcokcoaa
