/-
  CONTRACTS of package wal, over this translation: Open of a dock with one whole log.
-/
import Derived.Test.YtadajkgiijpakaaWRead
import Derived.Test.YtadajkgiijpakaaYFrames
import Derived.Test.YtadajkgiijpakaaWJ
import Derived.Test.YtadajkgiijpakaaWNew
import Derived.Test.YtadajkgiijpakaaKAnch
namespace Go.Proofs.Ytadajkgiijpakaa
open Go.RowKit
open ByteP
set_option linter.unusedVariables false
/-- Frames, one behind the other. -/
def flatF : List (List Int) → List Int
  | [] => []
  | p :: t => frameL p.length p ++ flatF t
theorem recs_flat : ∀ rs : List (List Int), recsL rs = flatF (rs.map (fun x => 1 :: x))
  | [] => rfl
  | x :: t => by
    rw [recsL, List.map_cons, flatF, recs_flat t]
    rfl
theorem log_flat (b : List Int) (rs : List (List Int)) : logL b rs = flatF ((0 :: b) :: rs.map (fun x => 1 :: x)) := by
  unfold logL
  rw [flatF, recs_flat]
  rfl
theorem flat_at {ps : List (List Int)} (hok : ∀ p, p ∈ ps → Bytes p ∧ p.length ≤ 65536) : ∀ j, j ≤ ps.length → (flatF ps).drop (atN (flatF ps) j) = flatF (ps.drop j)
  | 0, _ => rfl
  | j + 1, hj => by
    have ih := flat_at hok j (by omega)
    obtain ⟨p, t, e⟩ : ∃ p t, ps.drop j = p :: t := by
      cases h : ps.drop j with
      | nil => have := congrArg List.length h; rw [List.length_drop] at this; simp at this; omega
      | cons p t => exact ⟨p, t, rfl⟩
    have hp : p ∈ ps := List.mem_of_mem_drop (i := j) (by rw [e]; simp)
    have e2 : ps.drop (j + 1) = t := by
      rw [← List.drop_drop (i := 1) (j := j) (l := ps), e]
      rfl
    have hf := frame_opens (ys := flatF t) (hok p hp).1 (hok p hp).2
    show (flatF ps).drop (atN (flatF ps) j + sizeN ((flatF ps).drop (atN (flatF ps) j))) = _
    rw [← List.drop_drop, ih, e, e2, flatF, sizeN_yes hf.2.2, hf.1, List.drop_left' (frameL_length _ _)]
section
variable {b : List Int} {rs : List (List Int)}
theorem pays_ok (hb : RecOK b) (hr : ∀ x, x ∈ rs → RecOK x) : ∀ p, p ∈ ((0 :: b) :: rs.map (fun x => 1 :: x)) → Bytes p ∧ p.length ≤ 65536 := fun p hp => by
  rcases List.mem_cons.1 hp with rfl | h
  · exact ⟨bytes_cons (by omega) (by omega) hb.1, by rw [List.length_cons]; have := hb.2; omega⟩
  · obtain ⟨x, hx, rfl⟩ := List.mem_map.1 h
    exact ⟨bytes_cons (by omega) (by omega) (hr x hx).1, by rw [List.length_cons]; have := (hr x hx).2; omega⟩
theorem log_at (hb : RecOK b) (hr : ∀ x, x ∈ rs → RecOK x) {j : Nat} (hj : j < rs.length + 1) :
    openN ((logL b rs).drop (atN (logL b rs) j)) = 0 ∧ pT (logL b rs) j = mkN j :: (b :: rs).getD j [] := by
  have hok := pays_ok hb hr
  have h1 := flat_at hok j (by rw [List.length_cons, List.length_map]; omega)
  rw [← log_flat] at h1
  obtain ⟨p, t, e, ep⟩ : ∃ p t, ((0 :: b) :: rs.map (fun x => 1 :: x)).drop j = p :: t ∧ p = mkN j :: (b :: rs).getD j [] := by
    cases j with
    | zero => exact ⟨_, _, rfl, rfl⟩
    | succ i =>
      have hi : i < rs.length := by omega
      refine ⟨1 :: rs.getD i [], (rs.drop (i + 1)).map (fun x => 1 :: x), ?_, ?_⟩
      · rw [List.drop_succ_cons, ← List.map_drop, List.drop_eq_getElem_cons hi, List.map_cons]
        rw [show rs.getD i [] = rs[i] by simp [List.getD, hi]]
      · show _ = mkN (i + 1) :: rs.getD i []
        rfl
  have hp : p ∈ ((0 :: b) :: rs.map (fun x => 1 :: x)) := List.mem_of_mem_drop (i := j) (by rw [e]; simp)
  have hf := frame_opens (ys := flatF t) (hok p hp).1 (hok p hp).2
  rw [e, flatF] at h1
  unfold pT
  rw [h1]
  exact ⟨hf.2.2, by rw [payT_yes hf.2.2, hf.2.1, ep]⟩
theorem log_end (hb : RecOK b) (hr : ∀ x, x ∈ rs → RecOK x) : (logL b rs).drop (atN (logL b rs) (rs.length + 1)) = [] := by
  have h1 := flat_at (pays_ok hb hr) (rs.length + 1) (by rw [List.length_cons, List.length_map]; omega)
  rw [← log_flat] at h1
  rw [h1, List.drop_eq_nil_of_le (by rw [List.length_cons, List.length_map]; omega)]
  rfl
theorem log_reads (hb : RecOK b) (hr : ∀ x, x ∈ rs → RecOK x) : Reads (logL b rs) (rs.length + 1) := by
  refine ⟨fun j hj => ?_, fun h => ?_⟩
  · obtain ⟨h1, h2⟩ := log_at hb hr hj
    unfold pT at h2
    exact ⟨h1, by rw [h2]; simp, by rw [h2]; rfl⟩
  · have := h.1
    rw [log_end hb hr] at this
    exact open_nil this
theorem log_atN (hb : RecOK b) (hr : ∀ x, x ∈ rs → RecOK x) : atN (logL b rs) (rs.length + 1) = (logL b rs).length := by
  have h1 := congrArg List.length (log_end hb hr)
  rw [List.length_drop, List.length_nil] at h1
  have h2 := atN_le (xs := logL b rs) (rs.length + 1) (fun j hj => (log_at hb hr hj).1)
  omega
theorem log_bsOf (hb : RecOK b) (hr : ∀ x, x ∈ rs → RecOK x) : bsOf (logL b rs) (rs.length + 1) = b := by
  unfold bsOf
  rw [if_neg (by omega), (log_at hb hr (by omega)).2]
  rfl
theorem log_rsOf (hb : RecOK b) (hr : ∀ x, x ∈ rs → RecOK x) : rsOf (logL b rs) (rs.length + 1) = rs := by
  show (List.range (rs.length + 1 - 1)).map (fun j => (pT (logL b rs) (j + 1)).tail) = rs
  refine List.ext_getElem (by simp) (fun i h1 h2 => ?_)
  rw [List.getElem_map, List.getElem_range, (log_at hb hr (by omega)).2]
  show (b :: rs).getD (i + 1) [] = _
  simp [List.getD, h2]
end
set_option maxRecDepth 10000
theorem one_nm {F : Int → Option Fi} {k : Int} {f : Fi} {ns : List Int} (h1 : F k = some f) (h2 : ∀ x, x ≠ k → F x = none) (ha : Asc ns) (hm : ∀ x, x ∈ ns ↔ (F x).isSome = true) : ns = [k] := by
  refine asc_ext ha (List.pairwise_singleton _ _) fun x => ?_
  rw [hm, List.mem_singleton]
  constructor
  · intro h
    by_cases e : x = k
    · exact e
    · rw [h2 x e] at h; cases h
  · rintro rfl; rw [h1]; rfl
theorem mine_synced {db mb : Nat} {F : Int → Option Fi} {k : Int} {f : Fi} (hf : F k = some f) : ∀ b, Mine db mb (putF F k { f with s := f.n }) b → Mine db mb F b := fun b hb => by
  have h1 := mine_turn (f := f) (f' := { f with s := f.n }) rfl b hb
  have e : putF F k f = F := by
    funext x
    unfold putF
    by_cases e : x = k
    · rw [if_pos e, e, hf]
    · rw [if_neg e]
  rw [e] at h1
  exact h1
theorem rd_single {w : World} {g : Nat} {x : Int} {B : Nat} (h : w.cell? ⟨g, 0, none⟩ = some (.int .i64 x)) (hg : g < B) : Rd w B (some ⟨g, 0, none⟩) 1 [x] := ⟨rfl, fun _ => ⟨g, 0, rfl, hg, fun k hk => by
  obtain rfl : k = 0 := by omega
  exact h⟩⟩
theorem Row.low {w : World} {M : Nat → Prop} {B0 B1 : Nat} {v : Value} {rs : List (List Int)} (h : Row w M B0 v rs) (hB : B1 ≤ B0) : Row w M B1 v rs := by
  obtain ⟨vals, ho, hj⟩ := h.ex
  refine ⟨⟨vals, ⟨ho.1, ?_⟩, hj⟩, h.nd⟩
  rcases ho.2 with h | ⟨g, cap, cur, hv, hg, r⟩
  · exact .inl h
  · exact .inr ⟨g, cap, cur, hv, Nat.le_trans hB hg, r⟩
theorem Lg.low {w : World} {D : Nat → Prop} {B0 B1 lb : Nat} {v : LgV} {bs : List Int} {rs : List (List Int)} (h : Lg w D B0 lb v bs rs) (hB : B1 ≤ B0) : Lg w D B1 lb v bs rs :=
  ⟨h.lt, Nat.le_trans hB h.ge, h.nd, h.cells, h.base, h.bb, h.bl, h.row.low hB, h.rb⟩
section
variable {w : World} {B0 db mb lb K name : Nat} {cap : Int} {F : Int → Option Fi} {f : Fi} {v : LgV} {bs : List Int} {rs : List (List Int)}
set_option maxHeartbeats 4000000 in
theorem open_one (h : WJ w B0 db mb lb K cap name F f v bs rs) (hK : K ≤ 999999990) :
    Calls Try.prog 15 #[.pointer (some ⟨db, 0, none⟩)] w fun e w' => ∃ lb' v', e = .returned (.tuple #[.pointer (some ⟨lb', 0, none⟩), .int .i64 0]) ∧ w.heap.size ≤ lb' ∧
      WJ w' B0 db mb lb' (K + 1) cap name (putF F name { f with s := f.n }) { f with s := f.n } v' bs rs ∧ Fr w w' (Mine db mb F) := by
  have H := Lib.hid h
  have HRB : Hid (RecOK bs ∧ ∀ x, x ∈ rs → RecOK x) := Lib.hid ⟨⟨h.lg.bb, h.lg.bl⟩, h.lg.rb⟩
  have HGD := Lib.hid (h.dk.good (name : Int) f h.one)
  clear h
  go_enter Try.func15, Try.ntmps15
  go_wp2_with fail
  refine (names_up H.out.dk (by omega) rfl).mono ?_
  rintro e w1 ⟨A1, c1, ns, rfl, hown, hasc, hmem, _, hb1⟩
  have hns : ns = [(name : Int)] := one_nm H.out.one H.out.oth hasc hmem
  subst hns
  obtain ⟨g1, c1', hv1, _, hg1⟩ := hown.form (by simp)
  injection hv1 with e1 e2 e3
  subst e1
  have x0 : w1.cell? ⟨g1, 0, none⟩ = some (.int .i64 (name : Int)) := hown.cell (j := 0) (by simp)
  have H1 := Lib.hid (H.out.below hb1)
  have HB1 := Lib.hid hb1
  have HNW := Lib.hid (newest_any (A := some ⟨g1, 0, none⟩) (c := c1) (m := 1) (ns := [(name : Int)]) H1.out.dk rfl (rd_single x0 hg1) (by omega) (List.pairwise_singleton _ _) (fun x hx => by rw [List.mem_singleton.1 hx, H.out.one]; rfl) (fun k f hf => by have := (H1.out.dk.good k f hf).2.2.2.2; omega))
  have HS2 : Hid (([(name : Int)] : List Int).length = 1) := Lib.hid rfl
  rw [HS2.out]
  clear hown hasc hmem hb1 e2 e3
  go_wp2_with fail
  refine HNW.out.mono ?_
  rintro e w2 ⟨lb2, b2, rfl, hlb2, hb2, hor⟩
  obtain ⟨hz2, hL2⟩ : b2 = 0 ∧ ∃ bA bn bc rv, Lg w2 (fun b => b < w1.heap.size) w1.heap.size lb2 ⟨db, name, bA, bn, bc, rv, ((logL bs rs).length : Nat), false⟩ bs rs := by
    have hrd := log_reads HRB.out.1 HRB.out.2
    rcases hor with ⟨hno, _⟩ | ⟨k, hk, _, hf⟩
    · exact absurd ⟨f, rs.length + 1, H1.out.one, by omega, by rw [H1.out.fb]; exact hrd⟩ (hno (name : Int) (by simp))
    · obtain rfl : k = (name : Int) := by simpa using hk
      obtain ⟨f', r, bA, bn, bc, rv, h1, h2, h3, h4, h5, h6⟩ := hf.ex
      rw [H1.out.one] at h1
      injection h1 with h1
      subst h1
      rw [H1.out.fb] at h3 h5 h6
      obtain rfl := h3.uniq hrd
      rw [log_atN HRB.out.1 HRB.out.2] at h5 h6
      rw [log_bsOf HRB.out.1 HRB.out.2, log_rsOf HRB.out.1 HRB.out.2] at h6
      exact ⟨by rw [h5, H1.out.fn]; simp, bA, bn, bc, rv, h6⟩
  subst hz2
  obtain ⟨bA, bn, bc, rv, hL2⟩ := hL2
  have HL2 := Lib.hid hL2
  have H2 := Lib.hid (H1.out.below hb2)
  have HB2 : Hid (Below w.heap.size w w2) := Lib.hid (HB1.out.trans (hb2.mono HB1.out.size))
  have x2 := hL2.c1
  have x3 : w2.cell? ⟨g1, 0, none⟩ = some (.int .i64 (name : Int)) := (hb2.cell (p := ⟨g1, 0, none⟩) hg1).trans x0
  have hnn : ((name : Int) == (name : Int)) = true := by simp
  have hn1 : ((name : Int) == -1) = false := by simp
  have HLB : Hid (w1.heap.size ≤ lb2) := Lib.hid hlb2
  clear hor hb2 hL2 HNW x0 hg1
  go_wp2_with fail
  go_loopw [33] (fun i wr => ∃ j : Nat, j ≤ 1 ∧ i = .int .i64 (j : Int) ∧ wr = w2) (fun i _ => 1 - (intOf i).toNat)
  case atStart => exact ⟨0, by omega, rfl, rfl⟩
  case round =>
    obtain ⟨j, hj, rfl, rfl⟩ := hrel
    by_cases hlt : j < 1
    · obtain rfl : j = 0 := by omega
      go_wp2_with fail
      exact ⟨⟨1, by omega, rfl, trivial⟩, by simp [intOf]⟩
    · obtain rfl : j = 1 := by omega
      have HSY := Lib.hid (sync_ok (k := (name : Int)) (f := f) H2.out.dk (by omega) rfl (by show (-1 : Int) ≤ -1; omega) (by show (-1 : Int) ≤ _; omega) (by show (-1 : Int) ≠ 0; omega) H2.out.one)
      go_wp2_with fail
      refine HSY.out.mono ?_
      rintro e w3 ⟨rfl, hk3, hfr3⟩
      rw [gd_off _ rfl] at hk3
      have HK3 := Lib.hid hk3
      have HF3 := Lib.hid hfr3
      have HMB : Hid (∀ b, Mine db mb F b → b < w1.heap.size) := Lib.hid (fun b hb => Nat.lt_of_not_le (fun h => H1.out.dk.notMine h hb))
      have HL3 : Hid (Lg w3 (Mine db mb (putF F (name : Int) { f with s := f.n })) B0 lb2 ⟨db, name, bA, bn, bc, rv, ((logL bs rs).length : Nat), false⟩ bs rs) := Lib.hid ((HL2.out.turn (hfr3.less (fun b hb => HMB.out b hb)) (fun b hb => .inl (HMB.out b (mine_synced H2.out.one b hb)))).low (by have := H1.out.base0; exact this))
      clear hk3 hfr3 HSY
      go_wp2_with fail
      go_ret2
      exact ⟨lb2, _, rfl, by have := HLB.out; have := HB1.out.size; omega, ⟨HK3.out, putF_same _ _ _, fun x hx => putF_oth H2.out _ hx, H2.out.fb, H2.out.fn, HL3.out, rfl, rfl, rfl, rfl, H2.out.mbge, Nat.le_trans H2.out.base0 HF3.out.size⟩, Fr.of_below_then HB2.out HF3.out⟩
end
end Go.Proofs.Ytadajkgiijpakaa
