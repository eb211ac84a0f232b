/-
  What DockPlays's loop keeps: the dock and the document's twin in one memory, and that they say the same; each step's two calls.
-/
import Derived.Test.YtfpcfbolpnfacaaQCl
import Derived.Test.YtfpcfbolpnfacaaQOth
import Derived.Test.YtfpcfbolpnfacaaKGrow
namespace Go.Proofs.Ytfpcfbolpnfacaa
open Go.RowKit
open ByteP
set_option linter.unusedVariables false
set_option maxRecDepth 10000
/-- The dock and the twin in one memory. -/
structure PlM (wr w : World) (db mb tb K : Nat) (nm : Nm) (F : Int → Option Fi) (A : Option Addr) (c : Nat) (n : TN) (L : List TF) : Prop where
  dk : Dk wr db mb K nm F
  tn : TnB wr (Mine db mb F) w.heap.size tb A c n L
  bel : Below w.heap.size w wr
  mbge : w.heap.size ≤ mb
/-- They say the same. -/
structure PlP (K j : Nat) (nm : Nm) (F : Int → Option Fi) (n : TN) (L : List TF) : Prop where
  lk : LkD F L
  ln : LkN nm n
  size : nm.size = (sizeT L L.length : Int)
  kj : K ≤ 200 * j
  jj : j ≤ 100
  len : L.length ≤ j
  small : ∀ i, i < L.length → (tfAt L i).s ≤ (tfAt L i).n ∧ (tfAt L i).n ≤ 500 * j
  cap0 : 0 ≤ n.cap
  cap1 : n.cap ≤ 16777216
section
variable {wr w w1 w2 : World} {db mb tb K j c : Nat} {nm nm' : Nm} {F F' : Int → Option Fi} {A : Option Addr} {n n' : TN} {L L' : List TF}
theorem PlM.twin (h : PlM wr w db mb tb K nm F A c n L) {A' : Option Addr} {c' : Nat} (ht : TnB w1 (Mine db mb F) w.heap.size tb A' c' n' L') (hf : Fr wr w1 (Tm tb A)) : PlM w1 w db mb tb K nm F A' c' n' L' :=
  ⟨h.dk.fr hf (fun b hb hm => by
    rcases hb with rfl | hb
    · exact h.tn.tm hm
    · exact h.tn.am b hb hm), ht, h.bel.trans ((low_of_fr hf (fun b hb => (h.tn.tmge b hb).1) h.bel.size)), h.mbge⟩
theorem PlM.below (h : PlM wr w db mb tb K nm F A c n L) (hb : Below wr.heap.size wr w1) : PlM w1 w db mb tb K nm F A c n L :=
  ⟨h.dk.below hb, h.tn.below hb, h.bel.trans (hb.mono h.bel.size), h.mbge⟩
theorem PlM.dock {K' : Nat} (h : PlM wr w db mb tb K nm F A c n L) (hd : Dk w1 db mb K' nm' F') (hf : Fr wr w1 (Mine db mb F)) (hm : ∀ b, Mine db mb F' b → Mine db mb F b ∨ wr.heap.size ≤ b) : PlM w1 w db mb tb K' nm' F' A c n L :=
  ⟨hd, h.tn.turn hf hm, h.bel.trans ((hf.below h.dk).mono h.mbge), h.mbge⟩
theorem mine_putQ {k : Int} {f f' : Fi} (hf : F k = some f) (hv : f'.v.ownBlock = f.v.ownBlock) : ∀ b, Mine db mb (putF F k f') b → Mine db mb F b := fun b hb => by
  rcases hb with h | h | ⟨q, g, hg, e⟩
  · exact .inl h
  · exact .inr (.inl h)
  · by_cases hq : q = k
    · subst hq
      rw [putF_same] at hg
      injection hg with hg
      subst hg
      exact .inr (.inr ⟨q, f, hf, by rw [← hv]; exact e⟩)
    · rw [putF_other _ _ hq] at hg
      exact .inr (.inr ⟨q, g, hg, e⟩)
theorem mine_del {k : Int} : ∀ b, Mine db mb (delF F k) b → Mine db mb F b := fun b hb => by
  rcases hb with h | h | ⟨q, g, hg, e⟩
  · exact .inl h
  · exact .inr (.inl h)
  · unfold delF at hg
    by_cases hq : q = k
    · rw [if_pos hq] at hg; cases hg
    · rw [if_neg hq] at hg; exact .inr (.inr ⟨q, g, hg, e⟩)
/-- The state behind a step. -/
def PlE (wr w : World) (db mb tb j : Nat) : Prop := ∃ (K : Nat) (nm : Nm) (F : Int → Option Fi) (A : Option Addr) (c : Nat) (n : TN) (L : List TF), PlM wr w db mb tb K nm F A c n L ∧ PlP K j nm F n L
theorem PlP.more (h : PlP K j nm F n L) (hj : j < 100) : PlP K (j + 1) nm F n L :=
  ⟨h.lk, h.ln, h.size, by have := h.kj; omega, by omega, by have := h.len; omega, fun i hi => by have := h.small i hi; omega, h.cap0, h.cap1⟩
theorem PlP.n8 (h : PlP K j nm F n L) : ∀ i, i < L.length → (tfAt L i).n ≤ 100000000 := fun i hi => by have := h.small i hi; have := h.jj; omega
theorem PlP.sz (h : PlP K j nm F n L) : sizeT L L.length ≤ 50000 * 100 := by
  have h1 := sizeT_le (L := L) (b := 50000) (fun i hi => by have := h.small i hi; have := h.jj; omega) L.length (Nat.le_refl _)
  have h2 := h.len
  have h3 := h.jj
  have : 50000 * L.length ≤ 50000 * 100 := Nat.mul_le_mul_left _ (by omega)
  omega
/-- The numbers behind a call that would be answered OK. -/
theorem PlP.goes (h : PlP K j nm F n L) (hj : j < 100) : PlP K (j + 1) (gd nm) F (tgd n) L := by
  have hg := gd_size nm
  have hc := tgd_cap n
  have := h.more hj
  exact ⟨this.lk, h.ln.goes, hg.1.trans this.size, this.kj, this.jj, this.len, this.small, by rw [hc]; exact this.cap0, by rw [hc]; exact this.cap1⟩
/-- The two calls of a step: the twin's answer, then the dock's. -/
def Pair (wr w : World) (db mb tb j : Nat) (A : Option Addr) (f1 : Nat) (a1 : Array Value) (f2 : Nat) (a2 : Array Value) : Prop :=
  Calls Try.prog f1 a1 wr fun e w1 => ∃ z, e = .returned (.int .i64 z) ∧ Fr wr w1 (Tm tb A) ∧ Calls Try.prog f2 a2 w1 fun e w2 => e = .returned (.int .i64 z) ∧ PlE w2 w db mb tb (j + 1)
theorem pair_app (hm : PlM wr w db mb tb K nm F A c n L) (hp : PlP K j nm F n L) (hj : j < 100) {k : Int} {D : Option Addr} {m d : Nat} {ys : List Int} (hdn : m ≤ 500) (hy : RdY w w.heap.size D m ys) (hby : Bytes ys) :
    Pair wr w db mb tb j A 13 #[.pointer (some ⟨tb, 0, none⟩), .int .i64 k, .slice D m d] 8 #[.pointer (some ⟨db, 0, none⟩), .int .i64 k, .slice D m d] := by
  unfold Pair
  have hsz := hp.sz
  have hln := hp.len
  have hlo := hp.ln.lo
  have hc0 := hp.cap0
  have hc1 := hp.cap1
  have hcap := hp.ln.cap
  have hsize := hp.size
  have hkj := hp.kj
  have hbs := hm.bel.size
  cases hoff : n.off with
  | true =>
    refine (put_off hm.tn.tn hoff k D m d).mono ?_
    rintro e w1 ⟨rfl, rfl⟩
    refine ⟨51, rfl, Fr.refl _ _, (append_down hm.dk (hp.ln.down.trans hoff) k D m d).mono ?_⟩
    rintro e w2 ⟨rfl, rfl⟩
    exact ⟨rfl, K, nm, F, A, c, n, L, hm, hp.more hj⟩
  | false =>
    have hdd : nm.down = false := hp.ln.down.trans hoff
    by_cases hk : k < 0 ∨ 999999 < k
    · refine (put_name hm.tn.tn hoff hk D m d).mono ?_
      rintro e w1 ⟨rfl, rfl⟩
      refine ⟨52, rfl, Fr.refl _ _, (append_name hm.dk hdd hk D m d).mono ?_⟩
      rintro e w2 ⟨rfl, rfl⟩
      exact ⟨rfl, K, nm, F, A, c, n, L, hm, hp.more hj⟩
    · by_cases hfull : n.cap < (sizeT L L.length : Int) + (m : Int)
      · refine (put_full hm.tn.tn hoff (by omega) (by omega) D m d (by omega) (by omega) hp.n8 (by omega) hfull).mono ?_
        rintro e w1 ⟨rfl, hb⟩
        refine ⟨50, rfl, Fr.of_below hb, (append_full (hm.below hb).dk hdd (by omega) (by omega) D m d (by omega) (by omega) (by omega) (by omega)).mono ?_⟩
        rintro e w2 ⟨rfl, q, rfl⟩
        exact ⟨rfl, K, nm, F, A, c, n, L, (hm.below hb).below (below_drewN (Below.refl _ w1) q), hp.more hj⟩
      · obtain ⟨p, hp1, hp2, hp3⟩ := hp.lk.place k
        have hpos := hp.ln.pos
        refine (put_ok (d := d) hm.tn hoff (by omega) (by omega) (by omega) (by omega) hp.n8 (by omega) (by omega) hpos hp.ln.big hbs hm.dk.mlt (hy.below hm.bel) hby hp1 hp2 hp3).mono ?_
        rintro e w1 ⟨rfl, A', c', P', c2, ht, hf, hmm⟩
        have hm1 := hm.twin ht hf
        have hgd := gd_size nm
        have hrk : RdK w1 (Mine db mb F) D m ys := RdK.of_rd (hy.below hm1.bel) hm1.bel.size (fun b hb => hm1.dk.low (by have := hm1.mbge; omega))
        -- what the dock's file is
        have hfa : (fileAt F k).n ≤ 50000 ∧ (fileAt F k).n = (tfAt (insT L k p) p).n ∧ (fileAt F k).s = (tfAt (insT L k p) p).s ∧ (fileAt F k).bs = (tfAt (insT L k p) p).bs ∧ (fileAt F k).s ≤ (fileAt F k).n ∧ (fileAt F k).n ≤ 500 * j := by
          by_cases he : p < L.length ∧ (tfAt L p).nm = k
          · have e1 : insT L k p = L := if_pos he
            rw [e1]
            obtain ⟨f, h1, h2, h3, h4⟩ := hp.lk.fwd p he.1
            rw [he.2] at h1
            have e2 : fileAt F k = f := by unfold fileAt; rw [h1]; rfl
            rw [e2, h2, h3, h4]
            have := hp.small p he.1
            have := hp.jj
            exact ⟨by omega, rfl, rfl, rfl, by omega, by omega⟩
          · have e1 : insT L k p = L.take p ++ ⟨k, none, 0, 0, [], 0⟩ :: L.drop p := if_neg he
            rw [e1, tfAt_ins hp1, if_neg (by omega), if_pos rfl]
            have hn : F k = none := hp.lk.none_of (fun i hi e => by
              by_cases hip : i < p
              · have := hp2 i hip; omega
              · by_cases e2 : i = p
                · exact he ⟨by omega, by rw [← e2]; exact e⟩
                · have := hp.lk.asc p i (by omega) hi
                  have := hp3 (by omega)
                  omega)
            have e2 : fileAt F k = noFi := by unfold fileAt; rw [hn]; rfl
            rw [e2]
            exact ⟨by show 0 ≤ _; omega, rfl, rfl, rfl, Nat.le_refl _, Nat.zero_le _⟩
        obtain ⟨g1, g2, g3, g4, g5, g6⟩ := hfa
        refine ⟨_, rfl, hf, (append_any (k := k) hm1.dk (by omega) hdd hlo.1 hlo.2 (by omega) (by omega) (by omega) (by omega) hrk hby (by omega) (by omega)).mono ?_⟩
        rintro e w2 ⟨rfl, f', b1, b2, b3, hk', hfr', hmi⟩
        refine ⟨by rw [hp.ln.zero]; by_cases h0 : nm.left = 0 <;> simp [h0], K + 1, _, _, A', c', _, _, hm1.dock hk' hfr' hmi, ?_⟩
        have hgo := hp.ln.goes
        have hins := insT_len L k hp1
        -- pure
        have hlk : LkD (putF F k f') (putB (insT L k p) p P' ((tfAt (insT L k p) p).n + m) c2 ((tfAt (insT L k p) p).bs ++ ys)) ∧ sizeT (putB (insT L k p) p P' ((tfAt (insT L k p) p).n + m) c2 ((tfAt (insT L k p) p).bs ++ ys)) (putB (insT L k p) p P' ((tfAt (insT L k p) p).n + m) c2 ((tfAt (insT L k p) p).bs ++ ys)).length = sizeT L L.length + m ∧
            (∀ i, i < (putB (insT L k p) p P' ((tfAt (insT L k p) p).n + m) c2 ((tfAt (insT L k p) p).bs ++ ys)).length → (tfAt (putB (insT L k p) p P' ((tfAt (insT L k p) p).n + m) c2 ((tfAt (insT L k p) p).bs ++ ys)) i).s ≤ (tfAt (putB (insT L k p) p P' ((tfAt (insT L k p) p).n + m) c2 ((tfAt (insT L k p) p).bs ++ ys)) i).n ∧ (tfAt (putB (insT L k p) p P' ((tfAt (insT L k p) p).n + m) c2 ((tfAt (insT L k p) p).bs ++ ys)) i).n ≤ 500 * (j + 1)) := by
          unfold putB
          have hset := sizeT_set (L := insT L k p) (p := p) (x := { tfAt (insT L k p) p with P := P', n := (tfAt (insT L k p) p).n + m, c := c2, bs := (tfAt (insT L k p) p).bs ++ ys }) hins.1 (insT L k p).length
          rw [if_pos hins.1, if_pos hins.1] at hset
          simp only at hset
          rw [List.length_set]
          by_cases he : p < L.length ∧ (tfAt L p).nm = k
          · have e1 : insT L k p = L := if_pos he
            rw [e1] at hset g2 g3 g4 ⊢
            refine ⟨?_, by dsimp only; omega, fun i hi => ?_⟩
            · rw [← he.2]
              exact hp.lk.upd he.1 rfl (by rw [b1, g4]) (by rw [b3, g3]) (by rw [b2, g2])
            · by_cases e : p = i
              · subst e; rw [tfAt_set_same he.1]; simp only; omega
              · rw [tfAt_set_other e]; have := hp.small i hi; omega
          · have e1 : insT L k p = L.take p ++ ⟨k, none, 0, 0, [], 0⟩ :: L.drop p := if_neg he
            have elen : (L.take p ++ (⟨k, none, 0, 0, [], 0⟩ : TF) :: L.drop p).length = L.length + 1 := by simp [List.length_take, List.length_drop]; omega
            have eset : (L.take p ++ (⟨k, none, 0, 0, [], 0⟩ : TF) :: L.drop p).set p ⟨k, P', m, c2, ys, 0⟩ = L.take p ++ ⟨k, P', m, c2, ys, 0⟩ :: L.drop p := by
              rw [List.set_append_right _ _ (by rw [List.length_take]; omega)]
              have : p - (L.take p).length = 0 := by rw [List.length_take]; omega
              rw [this]; rfl
            have etf : tfAt (insT L k p) p = ⟨k, none, 0, 0, [], 0⟩ := by rw [e1, tfAt_ins hp1, if_neg (by omega), if_pos rfl]
            rw [etf] at hset g2 g3 g4 ⊢
            rw [e1] at hset ⊢
            simp only [Nat.zero_add, List.nil_append] at hset ⊢
            rw [eset] at hset ⊢
            rw [elen] at hset ⊢
            have hsi := (sizeT_ins (x := ⟨k, P', m, c2, ys, 0⟩) hp1 (L.length + 1)).2 (by omega)
            rw [Nat.add_sub_cancel] at hsi
            refine ⟨hp.lk.ins hp1 hp2 (fun i hi1 hi2 => ?_) rfl (by rw [b1, g4]; rfl) (by rw [b3, g3]) (by rw [b2, g2]; simp), hsi, fun i hi => ?_⟩
            · have h3 := hp3 (by omega)
              by_cases e : i = p
              · subst e
                have : (tfAt L i).nm ≠ k := fun e => he ⟨hi2, e⟩
                omega
              · have := hp.lk.asc p i (by omega) hi2
                omega
            · rw [tfAt_ins hp1]
              split
              · have := hp.small i (by omega); omega
              · split
                · simp only; omega
                · have := hp.small (i - 1) (by omega); omega
        exact ⟨hlk.1, ⟨by rw [← hgo.cap], hgo.down, hgo.left, hgo.pos, hgo.big⟩, by simp only; rw [hlk.2.1]; omega, by omega, by omega, by rw [putB_len]; omega, hlk.2.2, by rw [tgd_cap]; exact hc0, by rw [tgd_cap]; exact hc1⟩
/-- Of a name: where it stands, or that it stands nowhere. -/
theorem PlP.look (h : PlP K j nm F n L) (k : Int) : (F k = none ∧ findT L k L.length = none) ∨ ∃ p f, p < L.length ∧ (tfAt L p).nm = k ∧ findT L k L.length = some p ∧ F k = some f ∧ f.bs = (tfAt L p).bs ∧ f.s = (tfAt L p).s ∧ f.n = (tfAt L p).n := by
  by_cases he : ∃ i, i < L.length ∧ (tfAt L i).nm = k
  · obtain ⟨p, hp, e⟩ := he
    obtain ⟨f, h1, h2, h3, h4⟩ := h.lk.fwd p hp
    rw [e] at h1
    exact .inr ⟨p, f, hp, e, findT_of h.lk hp e, h1, h2, h3, h4⟩
  · have hn : ∀ i, i < L.length → (tfAt L i).nm ≠ k := fun i hi e => he ⟨i, hi, e⟩
    exact .inl ⟨h.lk.none_of hn, findT_none L.length hn⟩
theorem PlP.keepL (h : PlP K j nm F n L) (hj : j < 100) {K' : Nat} {F' : Int → Option Fi} {p : Nat} {x : TF} (hp : p < L.length) (hx : x.n ≤ (tfAt L p).n) (hs : x.s ≤ x.n) (hk : K' ≤ 200 * (j + 1)) (hlk : LkD F' (L.set p x)) {nm' : Nm} (hn1 : LkN nm' (tgd n)) (hn2 : nm'.size = (sizeT L L.length : Int) - ((tfAt L p).n : Int) + (x.n : Int)) :
    PlP K' (j + 1) nm' F' (tgd n) (L.set p x) := by
  have hset := sizeT_set (x := x) hp L.length
  rw [if_pos hp, if_pos hp] at hset
  have hc := tgd_cap n
  refine ⟨hlk, hn1, by rw [List.length_set, hn2]; omega, hk, by omega, by rw [List.length_set]; have := h.len; omega, fun i hi => ?_, by rw [hc]; exact h.cap0, by rw [hc]; exact h.cap1⟩
  rw [List.length_set] at hi
  by_cases e : p = i
  · subst e; rw [tfAt_set_same hp]; have := h.small p hp; omega
  · rw [tfAt_set_other e]; have := h.small i hi; omega
theorem pair_sync (hm : PlM wr w db mb tb K nm F A c n L) (hp : PlP K j nm F n L) (hj : j < 100) {k q : Int} (hk0 : -9223372036854775808 ≤ k) (hk1 : k ≤ 9223372036854775807) {dA kA : Option Addr} {dn dc kn kc : Nat} :
    Pair wr w db mb tb j A 14 #[.pointer (some ⟨tb, 0, none⟩), opVal 2 k q dA dn dc kA kn kc] 9 #[.pointer (some ⟨db, 0, none⟩), .int .i64 k] := by
  unfold Pair
  have hln := hp.len
  have hlo := hp.ln.lo
  have hkj := hp.kj
  have hbs := hm.bel.size
  have hpos := hp.ln.pos
  cases hoff : n.off with
  | true =>
    refine (other_off hm.tn.tn (by omega) hoff).mono ?_
    rintro e w1 ⟨rfl, hb⟩
    refine ⟨51, rfl, Fr.of_below hb, (sync_down (hm.below hb).dk (hp.ln.down.trans hoff) k).mono ?_⟩
    rintro e w2 ⟨rfl, hb2⟩
    exact ⟨rfl, K, nm, F, A, c, n, L, (hm.below hb).below hb2, hp.more hj⟩
  | false =>
    have hdd : nm.down = false := hp.ln.down.trans hoff
    rcases hp.look k with ⟨hF, hT⟩ | ⟨p, f, hpl, e1, hT, hF, e2, e3, e4⟩
    · refine (other_none hm.tn.tn (by omega) hoff hT).mono ?_
      rintro e w1 ⟨rfl, hb⟩
      refine ⟨52, rfl, Fr.of_below hb, (sync_none (hm.below hb).dk hdd hk0 hk1 hF).mono ?_⟩
      rintro e w2 ⟨rfl, hb2⟩
      exact ⟨rfl, K, nm, F, A, c, n, L, (hm.below hb).below hb2, hp.more hj⟩
    · have hn8 := hp.n8 p hpl
      have hz := hp.ln.zero
      by_cases h0 : nm.left = 0
      · rw [h0] at hz
        refine (other_now hm.tn (by omega) hoff hpl hT hn8 (by decide) (Nat.le_refl _) hz hpos hp.ln.big hm.dk.mlt hbs).mono ?_
        rintro e w1 ⟨rfl, ht, hf⟩
        have hm1 := hm.twin ht (hf.weak (fun b hb => .inl hb))
        refine ⟨51, rfl, hf.weak (fun b hb => .inl hb), (sync_now hm1.dk hdd h0 hk0 hk1 hF).mono ?_⟩
        rintro e w2 ⟨rfl, hk', hf'⟩
        exact ⟨rfl, K, _, F, A, c, _, L, hm1.dock hk' hf' (fun b hb => .inl hb), hp.goes hj⟩
      · rw [decide_eq_false h0] at hz
        refine (other_sync hm.tn (by omega) hoff hpl hT hn8 (Nat.le_refl _) hz hpos hp.ln.big hm.dk.mlt hbs).mono ?_
        rintro e w1 ⟨rfl, ht, hf⟩
        have hm1 := hm.twin ht hf
        refine ⟨0, rfl, hf, (sync_ok hm1.dk (by omega) hdd hlo.1 hlo.2 h0 hF).mono ?_⟩
        rintro e w2 ⟨rfl, hk', hf'⟩
        have hgs := gd_size nm
        have hm2 := hm1.dock hk' hf' (fun b hb => .inl (mine_putQ (f' := { f with s := f.n }) hF rfl b hb))
        exact ⟨rfl, K + 1, _, _, A, c, _, _, hm2, hp.keepL (x := { tfAt L p with s := (tfAt L p).n }) hj hpl (Nat.le_refl _) (Nat.le_refl _) (by omega) (by rw [← e1]; exact hp.lk.upd hpl rfl e2 e4 e4) hp.ln.goes (by rw [hgs.1, hp.size]; show (sizeT L L.length : Int) = _ - ((tfAt L p).n : Int) + ((tfAt L p).n : Int); omega)⟩
theorem pair_rem (hm : PlM wr w db mb tb K nm F A c n L) (hp : PlP K j nm F n L) (hj : j < 100) {k q : Int} (hk0 : -9223372036854775808 ≤ k) (hk1 : k ≤ 9223372036854775807) {dA kA : Option Addr} {dn dc kn kc : Nat} :
    Pair wr w db mb tb j A 14 #[.pointer (some ⟨tb, 0, none⟩), opVal 3 k q dA dn dc kA kn kc] 15 #[.pointer (some ⟨db, 0, none⟩), .int .i64 k] := by
  unfold Pair
  have hln := hp.len
  have hlo := hp.ln.lo
  have hkj := hp.kj
  have hbs := hm.bel.size
  have hpos := hp.ln.pos
  have hsz := hp.sz
  have hsize := hp.size
  cases hoff : n.off with
  | true =>
    refine (other_off hm.tn.tn (by omega) hoff).mono ?_
    rintro e w1 ⟨rfl, hb⟩
    refine ⟨51, rfl, Fr.of_below hb, (remove_down (hm.below hb).dk (hp.ln.down.trans hoff) k).mono ?_⟩
    rintro e w2 ⟨rfl, hb2⟩
    exact ⟨rfl, K, nm, F, A, c, n, L, (hm.below hb).below hb2, hp.more hj⟩
  | false =>
    have hdd : nm.down = false := hp.ln.down.trans hoff
    rcases hp.look k with ⟨hF, hT⟩ | ⟨p, f, hpl, e1, hT, hF, e2, e3, e4⟩
    · refine (other_none hm.tn.tn (by omega) hoff hT).mono ?_
      rintro e w1 ⟨rfl, hb⟩
      refine ⟨52, rfl, Fr.of_below hb, (remove_none (hm.below hb).dk hdd hk0 hk1 hF).mono ?_⟩
      rintro e w2 ⟨rfl, hb2⟩
      exact ⟨rfl, K, nm, F, A, c, n, L, (hm.below hb).below hb2, hp.more hj⟩
    · have hn8 := hp.n8 p hpl
      have hz := hp.ln.zero
      by_cases h0 : nm.left = 0
      · rw [h0] at hz
        refine (other_now hm.tn (by omega) hoff hpl hT hn8 (by decide) (Nat.le_refl _) hz hpos hp.ln.big hm.dk.mlt hbs).mono ?_
        rintro e w1 ⟨rfl, ht, hf⟩
        have hm1 := hm.twin ht (hf.weak (fun b hb => .inl hb))
        refine ⟨51, rfl, hf.weak (fun b hb => .inl hb), (remove_now hm1.dk hdd h0 hF).mono ?_⟩
        rintro e w2 ⟨rfl, hk', hf'⟩
        exact ⟨rfl, K, _, F, A, c, _, L, hm1.dock hk' hf' (fun b hb => .inl hb), hp.goes hj⟩
      · rw [decide_eq_false h0] at hz
        refine (other_rem hm.tn (by omega) hoff hpl hT hn8 (by decide) (by decide) (Nat.le_refl _) hz hpos hp.ln.big hm.dk.mlt hbs).mono ?_
        rintro e w1 ⟨rfl, A', c', ht, hf, hmm⟩
        have hm1 := hm.twin ht hf
        refine ⟨0, rfl, hf, (remove_ok hm1.dk hdd hlo.1 hlo.2 h0 (by omega) (by omega) hF).mono ?_⟩
        rintro e w2 ⟨rfl, hk', hf'⟩
        have hgs := gd_size nm
        have hgo := hp.ln.goes
        have hlen : (L.take p ++ L.drop (p + 1)).length = L.length - 1 := by simp [List.length_take, List.length_drop]; omega
        have hsd := (sizeT_del hpl (L.length - 1)).2 (by omega)
        rw [show L.length - 1 + 1 = L.length by omega] at hsd
        refine ⟨rfl, K, _, _, A', c', _, _, hm1.dock hk' hf' (fun b hb => .inl (mine_del b hb)), ?_, ⟨by rw [← hgo.cap], hgo.down, hgo.left, hgo.pos, hgo.big⟩, ?_, by omega, by omega, by rw [hlen]; omega, fun i hi => ?_, by rw [tgd_cap]; exact hp.cap0, by rw [tgd_cap]; exact hp.cap1⟩
        · rw [← e1]; exact hp.lk.del hpl
        · rw [hlen]; dsimp only; omega
        · rw [hlen] at hi
          rw [tfAt_del hpl]
          split
          · have := hp.small i (by omega); omega
          · have := hp.small (i + 1) (by omega); omega
theorem pair_cut (hm : PlM wr w db mb tb K nm F A c n L) (hp : PlP K j nm F n L) (hj : j < 100) {k q : Int} (hk0 : -9223372036854775808 ≤ k) (hk1 : k ≤ 9223372036854775807) {dA kA : Option Addr} {dn dc kn kc : Nat} :
    Pair wr w db mb tb j A 14 #[.pointer (some ⟨tb, 0, none⟩), opVal 8 k q dA dn dc kA kn kc] 19 #[.pointer (some ⟨db, 0, none⟩), .int .i64 k, .int .i64 q] := by
  unfold Pair
  have hln := hp.len
  have hlo := hp.ln.lo
  have hkj := hp.kj
  have hbs := hm.bel.size
  have hpos := hp.ln.pos
  have hsz := hp.sz
  have hsize := hp.size
  cases hoff : n.off with
  | true =>
    refine (other_off hm.tn.tn (by omega) hoff).mono ?_
    rintro e w1 ⟨rfl, hb⟩
    refine ⟨51, rfl, Fr.of_below hb, (cut_down (hm.below hb).dk (hp.ln.down.trans hoff) k q).mono ?_⟩
    rintro e w2 ⟨rfl, hb2⟩
    exact ⟨rfl, K, nm, F, A, c, n, L, (hm.below hb).below hb2, hp.more hj⟩
  | false =>
    have hdd : nm.down = false := hp.ln.down.trans hoff
    rcases hp.look k with ⟨hF, hT⟩ | ⟨p, f, hpl, e1, hT, hF, e2, e3, e4⟩
    · refine (other_none hm.tn.tn (by omega) hoff hT).mono ?_
      rintro e w1 ⟨rfl, hb⟩
      refine ⟨52, rfl, Fr.of_below hb, (cut_none (hm.below hb).dk hdd hk0 hk1 hF q).mono ?_⟩
      rintro e w2 ⟨rfl, hb2⟩
      exact ⟨rfl, K, nm, F, A, c, n, L, (hm.below hb).below hb2, hp.more hj⟩
    · have hn8 := hp.n8 p hpl
      have hz := hp.ln.zero
      by_cases hbig : q < 0 ∨ ((tfAt L p).n : Int) < q
      · refine (other_big hm.tn.tn (by omega) hoff hpl hT hn8 hbig).mono ?_
        rintro e w1 ⟨rfl, hb⟩
        refine ⟨11, rfl, Fr.of_below hb, (cut_big (hm.below hb).dk hdd hF (by rw [e4]; exact hbig)).mono ?_⟩
        rintro e w2 ⟨rfl, hb2⟩
        exact ⟨rfl, K, nm, F, A, c, n, L, (hm.below hb).below hb2, hp.more hj⟩
      · obtain ⟨z, rfl⟩ : ∃ z : Nat, q = (z : Int) := ⟨q.toNat, by omega⟩
        have hzn : z ≤ (tfAt L p).n := by omega
        by_cases h0 : nm.left = 0
        · rw [h0] at hz
          refine (other_now8 hm.tn (by omega) hoff hpl hT hn8 hzn hz hpos hp.ln.big hm.dk.mlt hbs).mono ?_
          rintro e w1 ⟨rfl, ht, hf⟩
          have hm1 := hm.twin ht (hf.weak (fun b hb => .inl hb))
          refine ⟨51, rfl, hf.weak (fun b hb => .inl hb), (cut_now hm1.dk hdd h0 hF (by omega)).mono ?_⟩
          rintro e w2 ⟨rfl, hk', hf'⟩
          exact ⟨rfl, K, _, F, A, c, _, L, hm1.dock hk' hf' (fun b hb => .inl hb), hp.goes hj⟩
        · rw [decide_eq_false h0] at hz
          refine (other_cut hm.tn (by omega) hoff hpl hT hn8 hzn hz hpos hp.ln.big hm.dk.mlt hbs).mono ?_
          rintro e w1 ⟨rfl, ht, hf⟩
          have hm1 := hm.twin ht hf
          refine ⟨0, rfl, hf, (cut_ok hm1.dk (by omega) hdd hlo.1 hlo.2 h0 (by omega) (by omega) hF (p := z) (by omega)).mono ?_⟩
          rintro e w2 ⟨rfl, hk', hf'⟩
          have hgs := gd_size nm
          have hgo := hp.ln.goes
          have hcl : putS (putB L p (tfAt L p).P z z ((tfAt L p).bs.take z)) p (min (tfAt L p).s z) = L.set p ⟨(tfAt L p).nm, (tfAt L p).P, z, z, (tfAt L p).bs.take z, min (tfAt L p).s z⟩ := by
            unfold putS putB
            rw [tfAt_set_same hpl, List.set_set]
          have hm2 := hm1.dock hk' hf' (fun b hb => .inl (mine_putQ (f' := cutTo f z (min f.s z)) hF (own_block_any _ _ _ _ _) b hb))
          rw [hcl] at hm2
          exact ⟨rfl, K + 1, _, _, A, c, _, _, hm2, hp.keepL hj hpl hzn (by dsimp only; omega) (by omega) (by rw [← e1]; exact hp.lk.upd hpl rfl (by show f.bs.take z = _; rw [e2]) (by show min f.s z = _; rw [e3]) rfl) ⟨by rw [← hgo.cap], hgo.down, hgo.left, hgo.pos, hgo.big⟩ (by dsimp only; rw [hsize, e4]; omega)⟩
/-- Arm, Crash, Grow: the dock's call alone leaves a state from which the twin's own turn leads on. -/
theorem arm_pl (hm : PlM wr w db mb tb K nm F A c n L) (x : Int) : Calls Try.prog 17 #[.pointer (some ⟨db, 0, none⟩), .int .i64 x] wr fun e w1 => e = .returned (.tuple #[]) ∧ Fr wr w1 (Mine db mb F) ∧ PlM w1 w db mb tb K { nm with left := max x (-1) } F A c n L := by
  refine (arm_any hm.dk x).mono ?_
  rintro e w1 ⟨rfl, hk', hf'⟩
  exact ⟨rfl, hf', hm.dock hk' hf' (fun b hb => .inl hb)⟩
theorem grow_pl (hm : PlM wr w db mb tb K nm F A c n L) (x : Int) : Calls Try.prog 20 #[.pointer (some ⟨db, 0, none⟩), .int .i64 x] wr fun e w1 => e = .returned (.tuple #[]) ∧ Fr wr w1 (Mine db mb F) ∧ PlM w1 w db mb tb K { nm with cap := min (max x 0) 16777216 } F A c n L := by
  refine (grow_any hm.dk x).mono ?_
  rintro e w1 ⟨rfl, hk', hf'⟩
  exact ⟨rfl, hf', hm.dock hk' hf' (fun b hb => .inl hb)⟩
theorem PlP.armed (hp : PlP K j nm F n L) (hj : j < 100) {x : Int} (hx : x ≤ 9223372036854775807) : PlP K (j + 1) { nm with left := max x (-1) } F { n with armed := decide (0 ≤ x), left := x } L := by
  have := hp.more hj
  refine ⟨this.lk, ⟨this.ln.cap, this.ln.down, ?_, ?_, hx⟩, this.size, this.kj, this.jj, this.len, this.small, this.cap0, this.cap1⟩
  · show max x (-1) = if decide (0 ≤ x) = true then x else -1
    by_cases h : 0 ≤ x
    · rw [if_pos (by simpa using h)]; omega
    · rw [if_neg (by simpa using h)]; omega
  · intro h
    exact of_decide_eq_true h
theorem PlP.grown (hp : PlP K j nm F n L) (hj : j < 100) (x : Int) : PlP K (j + 1) { nm with cap := min (max x 0) 16777216 } F { n with cap := min (max x 0) 16777216 } L := by
  have := hp.more hj
  exact ⟨this.lk, ⟨rfl, this.ln.down, this.ln.left, this.ln.pos, this.ln.big⟩, this.size, this.kj, this.jj, this.len, this.small, by show 0 ≤ min (max x 0) 16777216; omega, by show min (max x 0) 16777216 ≤ 16777216; omega⟩
theorem pair_crash (hm : PlM wr w db mb tb K nm F A c n L) (hp : PlP K j nm F n L) (hj : j < 100) {Ak : Option Addr} {nk ck : Nat} {ks : List Int} (hks : Rd w w.heap.size Ak nk ks) (hnk : nk ≤ 100) :
    Calls Try.prog 10 #[.pointer (some ⟨db, 0, none⟩), .slice Ak nk ck] wr fun e w1 => e = .returned (.tuple #[]) ∧ Fr wr w1 (Mine db mb F) ∧ Calls Try.prog 18 #[.pointer (some ⟨tb, 0, none⟩), .slice Ak nk ck] w1 fun e w2 => e = .returned (.tuple #[]) ∧ PlE w2 w db mb tb (j + 1) := by
  have hkj := hp.kj
  have hsz := hp.sz
  have hsize := hp.size
  have hlen := hp.len
  have hrz : RdZ wr (Mine db mb F) Ak nk ks := RdZ.of_rd (hks.below hm.bel) hm.bel.size (fun b hb => hm.dk.low (by have := hm.mbge; omega))
  refine (crash_any hm.dk (by omega) (by omega) (by omega) hrz (by omega)).mono ?_
  rintro e w1 ⟨rfl, ns, hasc, hmem, hnl, hk', hf', hmi⟩
  have hns := hp.lk.names hasc hmem
  have hnl2 : ns.length = L.length := by rw [hns]; simp [nms]
  have hm1 := hm.dock hk' hf' (fun b hb => .inl (hmi b hb))
  refine ⟨rfl, hf', (crash_tw hm1.tn (by omega) (fun i hi => ⟨hp.n8 i hi, (hp.small i hi).1⟩) hm1.dk.mlt hm1.bel.size (hks.below hm1.bel) (by omega)).mono ?_⟩
  rintro e w2 ⟨rfl, ht, hf2⟩
  have hm2 := hm1.twin ht hf2
  obtain ⟨c1, c2, c3⟩ := hp.lk.crash ks (fun i hi => (hp.small i hi).1) L.length (Nat.le_refl _)
  have hcl := crTK_len ks L L.length
  have hcs := crTK_small ks (b := 500 * j) hp.small L.length (Nat.le_refl _)
  rw [hns, show (nms L).length = L.length by simp [nms]] at hm2
  exact ⟨rfl, K + L.length, _, _, A, c, _, _, hm2, ⟨c1, ⟨hp.ln.cap, rfl, rfl, nofun, hp.ln.big⟩, by show nm.size + _ = _; rw [c3, hcl, hsize]; omega, by omega, by omega, by rw [hcl]; omega, fun i hi => by rw [hcl] at hi; have := hcs i hi; omega, hp.cap0, hp.cap1⟩⟩
end
end Go.Proofs.Ytfpcfbolpnfacaa
