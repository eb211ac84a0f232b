/-
  WORDS for WalTwice: what docks of the same files hold, a crash of a dock all of which is safe, and what an opening that was cut off leaves.
-/
import Derived.Test.YtadajkgiijpakaaWArm
namespace Go.Proofs.Ytadajkgiijpakaa
open Go.RowKit
open ByteP
set_option linter.unusedVariables false
set_option maxRecDepth 10000
/-- The files' names and bytes. -/
def Cont (F : Int → Option Fi) (g : Int → Option (List Int)) : Prop := ∀ x, (F x).map (fun f => f.bs) = g x
/-- All bytes are safe. -/
def Syn (F : Int → Option Fi) : Prop := ∀ x f, F x = some f → f.s = f.n
theorem cont_nil : Cont (fun _ => none) (fun _ => none) := fun _ => rfl
theorem Cont.put {F : Int → Option Fi} {g : Int → Option (List Int)} (h : Cont F g) (k : Int) (f : Fi) : Cont (putF F k f) (fun x => if x = k then some f.bs else g x) := fun x => by
  show _ = if x = k then some f.bs else g x
  by_cases e : x = k
  · rw [e, putF_same, if_pos rfl]; rfl
  · rw [putF_other _ _ e, if_neg e]; exact h x
theorem Cont.sync {F : Int → Option Fi} {g : Int → Option (List Int)} (h : Cont F g) {k : Int} {f : Fi} (hf : F k = some f) (s : Nat) : Cont (putF F k { f with s := s }) g := fun x => by
  by_cases e : x = k
  · rw [e, putF_same, ← h k, hf]; rfl
  · rw [putF_other _ _ e]; exact h x
theorem Cont.at_ {F G : Int → Option Fi} {g : Int → Option (List Int)} (h : Cont F g) (h2 : Cont G g) {k : Int} {f : Fi} (hf : F k = some f) : ∃ f', G k = some f' ∧ f'.bs = f.bs := by
  have h1 := h k
  have h3 := h2 k
  rw [← h1, hf] at h3
  cases e : G k with
  | none => rw [e] at h3; cases h3
  | some f' => rw [e] at h3; injection h3 with h3; exact ⟨f', rfl, h3⟩
theorem Cont.whole {F G : Int → Option Fi} {g : Int → Option (List Int)} (h : Cont F g) (h2 : Cont G g) {x : Int} (hw : whole F x) : whole G x := by
  obtain ⟨f, r, h3, h4, h5⟩ := hw
  obtain ⟨f', h6, h7⟩ := h.at_ h2 h3
  exact ⟨f', r, h6, h4, by rw [h7]; exact h5⟩
theorem Cont.holds {F G : Int → Option Fi} {g : Int → Option (List Int)} (h : Cont F g) (h2 : Cont G g) {k : Int} {f : Fi} {r : Nat} (hh : Holds F k f r) : ∃ f', Holds G k f' r ∧ f'.bs = f.bs := by
  obtain ⟨f', h6, h7⟩ := h.at_ h2 hh.at_
  exact ⟨f', ⟨h6, hh.pos, by rw [h7]; exact hh.reads, fun x hx hw => hh.last x hx (h2.whole h hw)⟩, h7⟩
theorem newest3 {F : Int → Option Fi} (h : whole F 3) (hn : ∀ x, whole F x → x = 3 ∨ x = 4 ∨ x = 5) : ∃ k f r, Holds F k f r := by
  have key : ∀ k, whole F k → (∀ x, k < x → ¬ whole F x) → ∃ k f r, Holds F k f r := fun k hk hl => by
    obtain ⟨f, r, h1, h2, h3⟩ := hk
    exact ⟨k, f, r, h1, h2, h3, hl⟩
  by_cases h5 : whole F 5
  · exact key 5 h5 (fun x hx hw => by have := hn x hw; omega)
  · by_cases h4 : whole F 4
    · exact key 4 h4 (fun x hx hw => by
        rcases hn x hw with e | e | e
        · omega
        · omega
        · rw [e] at hw; exact h5 hw)
    · exact key 3 h (fun x hx hw => by
        rcases hn x hw with e | e | e
        · omega
        · rw [e] at hw; exact h4 hw
        · rw [e] at hw; exact h5 hw)
theorem crK_syn {F : Int → Option Fi} {ks ns : List Int} (hs : Syn F) (hm : ∀ x, x ∈ ns → (F x).isSome = true) : ∀ j, j ≤ ns.length → crK F ks ns j = ⟨F, 0, 0⟩
  | 0, _ => rfl
  | j + 1, hj => by
    obtain ⟨f, hf⟩ := Option.isSome_iff_exists.1 (hm (ix ns j) (ix_mem (by omega)))
    show crS ks (ix ns j) (crK F ks ns j) = _
    rw [crK_syn hs hm j (by omega)]
    exact crS_same hf (hs _ f hf)
/-- The log that an opening that was cut off leaves. -/
theorem arm_holds {F F' : Int → Option Fi} {k : Int} {f f' : Fi} {r : Nat} (hh : Holds F k f r) (hb : Bytes f.bs) (h1 : F' k = some f') (h2 : f'.bs = f.bs ∨ f'.bs = f.bs.take (atN f.bs r)) (h3 : ∀ x, x ≠ k → F' x = none ∨ F' x = F x) :
    Holds F' k f' r ∧ bsOf f'.bs r = bsOf f.bs r ∧ rsOf f'.bs r = rsOf f.bs r ∧ atN f'.bs r = atN f.bs r := by
  have hl : ∀ x, k < x → ¬ whole F' x := fun x hx hw => by
    obtain ⟨f2, r2, h4, h5, h6⟩ := hw
    rcases h3 x (by omega) with e | e
    · rw [e] at h4; cases h4
    · rw [e] at h4; exact hh.last x hx ⟨f2, r2, h4, h5, h6⟩
  rcases h2 with e | e
  · exact ⟨⟨h1, hh.pos, by rw [e]; exact hh.reads, hl⟩, by rw [e], by rw [e], by rw [e]⟩
  · exact ⟨⟨h1, hh.pos, by rw [e]; exact cut_reads hb hh.reads, hl⟩, by rw [e, cut_bsOf hb hh.reads], by rw [e, cut_rsOf hb hh.reads], by rw [e, cut_atN hb hh.reads]⟩
theorem SzOK.ge {z : Int} {F : Int → Option Fi} (h : SzOK z F) : 0 ≤ z := by
  obtain ⟨ns, _, _, h3⟩ := h
  rw [h3]; exact szL_ge F ns
/-- Two docks' blocks. -/
def Ap (db mb : Nat) (F : Int → Option Fi) (dc mc : Nat) (G : Int → Option Fi) : Prop := ∀ b, Mine db mb F b → ¬ Mine dc mc G b
theorem Ap.symm {db mb dc mc : Nat} {F G : Int → Option Fi} (h : Ap db mb F dc mc G) : Ap dc mc G db mb F := fun b h1 h2 => h b h2 h1
theorem Ap.turn {w : World} {db mb dc mc K : Nat} {n : Nm} {F F' G : Int → Option Fi} (h : Ap db mb F dc mc G) (hk : Dk w dc mc K n G) (hm : ∀ b, Mine db mb F' b → Mine db mb F b ∨ w.heap.size ≤ b) : Ap db mb F' dc mc G := fun b h1 h2 => (hm b h1).elim (fun h3 => h b h3 h2) (fun h3 => hk.notMine h3 h2)
theorem Dk.other {w w' : World} {db mb dc mc K : Nat} {n : Nm} {F G : Int → Option Fi} (hk : Dk w dc mc K n G) (h : Ap db mb F dc mc G) (hf : Fr w w' (Mine db mb F)) : Dk w' dc mc K n G := hk.fr hf (fun b hb h2 => h b h2 hb)
theorem rdY_const (w : World) (xs : List Int) (T : TypeId) (mk : Nat × Nat) : RdY (w.alloc (.cells (xs.map (Value.int .u8)).toArray T mk)) (w.heap.size + 1) (some ⟨w.heap.size, 0, none⟩) xs.length xs := ⟨rfl, fun _ => ⟨w.heap.size, 0, rfl, by omega, fun j hj => by
  rw [World.cell?_alloc_mark]
  simp [ix, List.getD, hj]⟩⟩
theorem rdK_const (w : World) (xs : List Int) (T : TypeId) (mk : Nat × Nat) (M : Nat → Prop) (hM : ¬ M w.heap.size) : RdK (w.alloc (.cells (xs.map (Value.int .u8)).toArray T mk)) M (some ⟨w.heap.size, 0, none⟩) xs.length xs := ⟨rfl, fun hn => ⟨w.heap.size, 0, rfl, by simp, hM, fun j hj => by
  rw [World.cell?_alloc_mark]
  simp [ix, List.getD, hj]⟩⟩
/-- Two docks in one world, and a block h beside them. -/
structure Tw2 (w w1 : World) (h : Nat) (O : Obj) (xb xm Kx : Nat) (nx : Nm) (Fx : Int → Option Fi) (yb ym Ky : Nat) (ny : Nm) (Fy : Int → Option Fi) : Prop where
  x : Dk w xb xm Kx nx Fx
  y : Dk w yb ym Ky ny Fy
  ap : Ap xb xm Fx yb ym Fy
  hh : w.heap[h]? = some O
  hx : ¬ Mine xb xm Fx h
  hy : ¬ Mine yb ym Fy h
  bel : Below w1.heap.size w1 w
  mx : w1.heap.size ≤ xm
  my : w1.heap.size ≤ ym
section
variable {w w' w1 : World} {h xb xm Kx Kx' yb ym Ky : Nat} {O : Obj} {nx nx' ny : Nm} {Fx Fx' Fy : Int → Option Fi}
theorem Tw2.swap (t : Tw2 w w1 h O xb xm Kx nx Fx yb ym Ky ny Fy) : Tw2 w w1 h O yb ym Ky ny Fy xb xm Kx nx Fx := ⟨t.y, t.x, t.ap.symm, t.hh, t.hy, t.hx, t.bel, t.my, t.mx⟩
theorem Tw2.below (t : Tw2 w w1 h O xb xm Kx nx Fx yb ym Ky ny Fy) (hb : Below w.heap.size w w') : Tw2 w' w1 h O xb xm Kx nx Fx yb ym Ky ny Fy := ⟨t.x.below hb, t.y.below hb, t.ap, (hb.block h (heapK_lt t.hh)).trans t.hh, t.hx, t.hy, t.bel.trans (hb.mono t.bel.size), t.mx, t.my⟩
theorem Tw2.turn (t : Tw2 w w1 h O xb xm Kx nx Fx yb ym Ky ny Fy) (hk : Dk w' xb xm Kx' nx' Fx') (hf : Fr w w' (Mine xb xm Fx)) (hm : ∀ b, Mine xb xm Fx' b → Mine xb xm Fx b ∨ w.heap.size ≤ b) : Tw2 w' w1 h O xb xm Kx' nx' Fx' yb ym Ky ny Fy :=
  ⟨hk, t.y.other t.ap hf, t.ap.turn t.y hm, (hf.block h (heapK_lt t.hh) t.hx).trans t.hh, fun h2 => (hm h h2).elim t.hx (fun h3 => by have := heapK_lt t.hh; omega), t.hy, t.bel.trans ((hf.below t.x).mono t.mx), t.mx, t.my⟩
end
/-- What a dock holds: all the law's files, safe; or (not yet filled) none. -/
structure Fl (g : Int → Option (List Int)) (full : Prop) (K : Nat) (s : Int) (F : Int → Option Fi) : Prop where
  sz : SzOK s F
  s0 : 0 ≤ s
  s1 : s ≤ 1000000
  k1 : K ≤ 10
  yes : full → Cont F g ∧ Syn F
  no : ¬ full → F = (fun _ => none) ∧ s = 0 ∧ K = 0
theorem Fl.of {g : Int → Option (List Int)} {p q : Prop} {K : Nat} {s : Int} {F : Int → Option Fi} (h : Fl g p K s F) (e : p ↔ q) : Fl g q K s F := ⟨h.sz, h.s0, h.s1, h.k1, fun h2 => h.yes (e.2 h2), fun h2 => h.no (fun h3 => h2 (e.1 h3))⟩
theorem fl_nil (g : Int → Option (List Int)) {p : Prop} (h : ¬ p) : Fl g p 0 0 (fun _ => none) := ⟨szOK_nil, by omega, by omega, by omega, fun h2 => absurd h2 h, fun _ => ⟨rfl, rfl, rfl⟩⟩
/-- Both docks ahead of round j. -/
def TwJ (w w1 : World) (h : Nat) (O : Obj) (db mb dc mc : Nat) (g : Int → Option (List Int)) (j : Nat) : Prop :=
  ∃ (Kd : Nat) (sd : Int) (Fd : Int → Option Fi) (Kc : Nat) (sc : Int) (Fc : Int → Option Fi), Tw2 w w1 h O db mb Kd ⟨1048576, sd, -1, false⟩ Fd dc mc Kc ⟨1048576, sc, -1, false⟩ Fc ∧ Fl g (1 ≤ j) Kd sd Fd ∧ Fl g (2 ≤ j) Kc sc Fc
/-- The dock that round j fills. -/
theorem TwJ.view {w w1 : World} {h : Nat} {db mb dc mc : Nat} {g : Int → Option (List Int)} {j : Nat} {T : TypeId} {mk : Nat × Nat} (t : TwJ w w1 h (.cells #[.pointer (some ⟨db, 0, none⟩), .pointer (some ⟨dc, 0, none⟩)] T mk) db mb dc mc g j) (hj : j < 2) :
    ∃ (xb xm yb ym Ky : Nat) (sy : Int) (Fy : Int → Option Fi), w.cell? ⟨h, j, none⟩ = some (.pointer (some ⟨xb, 0, none⟩)) ∧ Tw2 w w1 h (.cells #[.pointer (some ⟨db, 0, none⟩), .pointer (some ⟨dc, 0, none⟩)] T mk) xb xm 0 ⟨1048576, 0, -1, false⟩ (fun _ => none) yb ym Ky ⟨1048576, sy, -1, false⟩ Fy ∧
      ∀ w' K' s' F', Tw2 w' w1 h (.cells #[.pointer (some ⟨db, 0, none⟩), .pointer (some ⟨dc, 0, none⟩)] T mk) xb xm K' ⟨1048576, s', -1, false⟩ F' yb ym Ky ⟨1048576, sy, -1, false⟩ Fy → Fl g True K' s' F' → TwJ w' w1 h (.cells #[.pointer (some ⟨db, 0, none⟩), .pointer (some ⟨dc, 0, none⟩)] T mk) db mb dc mc g (j + 1) := by
  obtain ⟨Kd, sd, Fd, Kc, sc, Fc, t2, fd, fc⟩ := t
  by_cases e : j = 0
  · subst e
    obtain ⟨rfl, rfl, rfl⟩ := fd.no (by omega)
    refine ⟨db, mb, dc, mc, Kc, sc, Fc, ?_, t2, fun w' K' s' F' h1 h2 => ⟨K', s', F', Kc, sc, Fc, h1, h2.of ⟨fun _ => by omega, fun _ => trivial⟩, fc.of ⟨fun h => by omega, fun h => by omega⟩⟩⟩
    simp [World.cell?, t2.hh]
  · obtain rfl : j = 1 := by omega
    obtain ⟨rfl, rfl, rfl⟩ := fc.no (by omega)
    refine ⟨dc, mc, db, mb, Kd, sd, Fd, ?_, t2.swap, fun w' K' s' F' h1 h2 => ⟨Kd, sd, Fd, K', s', F', h1.swap, fd.of ⟨fun h => by omega, fun h => by omega⟩, h2.of ⟨fun _ => by omega, fun _ => trivial⟩⟩⟩
    simp [World.cell?, t2.hh]
/-- What the law's files are. -/
def filesG (xo xs xn : List Int) : Int → Option (List Int) := fun x => if x = 5 then some xn else if x = 4 then some xs else if x = 3 then some xo else none
theorem filesG_key {F : Int → Option Fi} {xo xs xn : List Int} (h : Cont F (filesG xo xs xn)) (x : Int) (f : Fi) (hf : F x = some f) : x = 3 ∨ x = 4 ∨ x = 5 := by
  have h1 := h x
  rw [hf] at h1
  unfold filesG at h1
  by_cases e5 : x = 5
  · exact .inr (.inr e5)
  · by_cases e4 : x = 4
    · exact .inr (.inl e4)
    · by_cases e3 : x = 3
      · exact .inl e3
      · rw [if_neg e5, if_neg e4, if_neg e3] at h1; cases h1
theorem filesG_some {F : Int → Option Fi} {xo xs xn : List Int} (h : Cont F (filesG xo xs xn)) {x : Int} (hx : x = 3 ∨ x = 4 ∨ x = 5) : ∃ f, F x = some f := by
  have h1 := h x
  cases e : F x with
  | some f => exact ⟨f, rfl⟩
  | none =>
    rw [e] at h1
    rcases hx with rfl | rfl | rfl <;> cases h1
theorem filesG_holds {F : Int → Option Fi} {xs xn old : List Int} (h : Cont F (filesG (frmP 0 old) xs xn)) (hok : RecOK old) : ∃ k f r, Holds F k f r := by
  have key : ∀ x f, F x = some f → x = 3 ∨ x = 4 ∨ x = 5 := fun x f hf => by
    have h1 := h x
    rw [hf] at h1
    unfold filesG at h1
    by_cases e5 : x = 5
    · exact .inr (.inr e5)
    · by_cases e4 : x = 4
      · exact .inr (.inl e4)
      · by_cases e3 : x = 3
        · exact .inl e3
        · rw [if_neg e5, if_neg e4, if_neg e3] at h1; cases h1
  refine newest3 ?_ (fun x hw => by obtain ⟨f, r, h1, _⟩ := hw; exact key x f h1)
  have h3 := h 3
  cases e : F 3 with
  | none => rw [e] at h3; cases h3
  | some f =>
    rw [e] at h3
    injection h3 with h3
    have hno : ∀ x, x ∈ ([] : List (List Int)) → RecOK x := fun x hx => by cases hx
    have e2 : f.bs = logL old [] := by
      have h4 : f.bs = frmP 0 old := h3
      rw [h4]; show _ = frmP 0 old ++ recsL []; rw [show recsL [] = [] from rfl, List.append_nil]
    exact ⟨f, 1, e, by omega, by rw [e2]; exact log_reads hok hno⟩
end Go.Proofs.Ytadajkgiijpakaa
