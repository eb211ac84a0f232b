/-
  WORDS AND CONTRACTS for WalOpens' rounds: a log that is wanted, and Open of the dock that holds it.
-/
import Derived.Test.YtadajkgiijpakaaWOpG
import Derived.Test.YtadajkgiijpakaaWOp1
import Derived.Test.YtadajkgiijpakaaWRec
import Derived.Test.YtadajkgiijpakaaKAll
namespace Go.Proofs.Ytadajkgiijpakaa
open Go.RowKit
open ByteP
set_option linter.unusedVariables false
theorem open_front {xs : List Int} (hb : Bytes xs) (h : openN xs = 0) : xs = frameL (payT xs).length (payT xs) ++ xs.drop (sizeN xs) := by
  have hsz := open_len h
  rw [sizeN_yes h] at hsz
  have h4 : 4 ≤ xs.length := by omega
  have hc : (moreN 0 (xs.take (lenN xs + 4)) : Int) = numL (xs.drop (lenN xs + 4)) := by
    unfold openN at h
    split at h
    · cases h
    · split at h
      · cases h
      · split at h
        · cases h
        · split at h
          · assumption
          · cases h
  have hf := (frame_iff hb h4 (by omega)).2 hc
  rw [sizeN_yes h, payT_yes h, payL_length (by omega), hf, List.take_append_drop]
theorem flatF_app : ∀ a b : List (List Int), flatF (a ++ b) = flatF a ++ flatF b
  | [], b => rfl
  | x :: a, b => by
    rw [List.cons_append, flatF, flatF, flatF_app a b, List.append_assoc]
theorem front_flat {xs : List Int} (hb : Bytes xs) : ∀ r, (∀ j, j < r → openN (xs.drop (atN xs j)) = 0) → xs = flatF ((List.range r).map (pT xs)) ++ xs.drop (atN xs r)
  | 0, _ => rfl
  | r + 1, h => by
    have ih := front_flat hb r (fun j hj => h j (by omega))
    have hs := open_front (bytes_drop hb (atN xs r)) (h r (by omega))
    rw [List.drop_drop] at hs
    have e : flatF ((List.range (r + 1)).map (pT xs)) = flatF ((List.range r).map (pT xs)) ++ frameL (pT xs r).length (pT xs r) := by
      rw [List.range_succ, List.map_append, flatF_app]
      show flatF _ ++ (frameL (pT xs r).length (pT xs r) ++ flatF []) = _
      show flatF _ ++ (frameL (pT xs r).length (pT xs r) ++ []) = _
      rw [List.append_nil]
    rw [e, List.append_assoc]
    show xs = _ ++ (frameL (payT (xs.drop (atN xs r))).length (payT (xs.drop (atN xs r))) ++ xs.drop (atN xs r + sizeN (xs.drop (atN xs r))))
    rw [← hs]
    exact ih
theorem flat_len {xs : List Int} (hb : Bytes xs) {r : Nat} (h : ∀ j, j < r → openN (xs.drop (atN xs j)) = 0) : xs.take (atN xs r) = flatF ((List.range r).map (pT xs)) := by
  have h1 := front_flat hb r h
  have h2 := atN_le r h
  have h3 := congrArg List.length h1
  rw [List.length_append, List.length_drop] at h3
  have hl : (flatF ((List.range r).map (pT xs))).length = atN xs r := by omega
  have h4 : xs.take (atN xs r) = (flatF ((List.range r).map (pT xs)) ++ xs.drop (atN xs r)).take (atN xs r) := by rw [← h1]
  rw [h4, List.take_left' hl]
theorem okF_of' {xs : List Int} {j : Nat} (ho : openN (xs.drop (atN xs j)) = 0) (hn : (pT xs j) ≠ []) (hi : ix (pT xs j) 0 = mkN j) : okF xs j := ⟨ho, hn, hi⟩
section
variable {xs : List Int} {r : Nat}
theorem pays_of (hb : Bytes xs) (h : ∀ j, j < r → okF xs j) : ∀ p, p ∈ (List.range r).map (pT xs) → Bytes p ∧ p.length ≤ 65536 := fun p hp => by
  obtain ⟨j, hj, rfl⟩ := List.mem_map.1 hp
  rw [List.mem_range] at hj
  exact ⟨pT_bytes hb j, pay_len (h j hj).1⟩
theorem cut_at (hb : Bytes xs) (h : ∀ j, j < r → okF xs j) {j : Nat} (hj : j < r) : openN ((xs.take (atN xs r)).drop (atN (xs.take (atN xs r)) j)) = 0 ∧ pT (xs.take (atN xs r)) j = pT xs j := by
  have hok := pays_of hb h
  have h1 := flat_at hok j (by rw [List.length_map, List.length_range]; omega)
  rw [← flat_len hb (fun j hj => (h j hj).1)] at h1
  obtain ⟨t, e⟩ : ∃ t, ((List.range r).map (pT xs)).drop j = pT xs j :: t := by
    refine ⟨((List.range r).drop (j + 1)).map (pT xs), ?_⟩
    rw [← List.map_drop, List.drop_eq_getElem_cons (by rw [List.length_range]; exact hj), List.map_cons, List.getElem_range]
  have hp : pT xs j ∈ (List.range r).map (pT xs) := List.mem_map.2 ⟨j, List.mem_range.2 hj, rfl⟩
  have hf := frame_opens (ys := flatF t) (hok _ hp).1 (hok _ hp).2
  rw [e, flatF] at h1
  refine ⟨by rw [h1]; exact hf.2.2, ?_⟩
  have h2 : pT (xs.take (atN xs r)) j = payT ((xs.take (atN xs r)).drop (atN (xs.take (atN xs r)) j)) := rfl
  rw [h2, h1, payT_yes hf.2.2, hf.2.1]
theorem cut_end (hb : Bytes xs) (h : ∀ j, j < r → okF xs j) : (xs.take (atN xs r)).drop (atN (xs.take (atN xs r)) r) = [] := by
  have h1 := flat_at (pays_of hb h) r (by rw [List.length_map, List.length_range]; exact Nat.le_refl _)
  rw [← flat_len hb (fun j hj => (h j hj).1)] at h1
  rw [h1, List.drop_eq_nil_of_le (by rw [List.length_map, List.length_range]; exact Nat.le_refl _)]
  rfl
theorem cut_reads (hb : Bytes xs) (h : Reads xs r) : Reads (xs.take (atN xs r)) r := by
  refine ⟨fun j hj => ?_, fun h2 => ?_⟩
  · obtain ⟨h3, h4⟩ := cut_at hb h.1 hj
    have h5 := h.1 j hj
    refine okF_of' h3 ?_ ?_
    · rw [h4]; exact h5.2.1
    · rw [h4]; exact h5.2.2
  · have := h2.1
    rw [cut_end hb h.1] at this
    exact open_nil this
theorem cut_atN (hb : Bytes xs) (h : Reads xs r) : atN (xs.take (atN xs r)) r = atN xs r := by
  have h1 := congrArg List.length (cut_end hb h.1)
  rw [List.length_drop, List.length_nil] at h1
  have h2 := atN_le (xs := xs.take (atN xs r)) r (fun j hj => (cut_at hb h.1 hj).1)
  have h3 := atN_le (xs := xs) r (fun j hj => (h.1 j hj).1)
  rw [List.length_take] at h1 h2
  omega
theorem cut_bsOf (hb : Bytes xs) (h : Reads xs r) : bsOf (xs.take (atN xs r)) r = bsOf xs r := by
  unfold bsOf
  by_cases h0 : r = 0
  · rw [if_pos h0, if_pos h0]
  · rw [if_neg h0, if_neg h0, (cut_at hb h.1 (by omega)).2]
theorem cut_rsOf (hb : Bytes xs) (h : Reads xs r) : rsOf (xs.take (atN xs r)) r = rsOf xs r := by
  unfold rsOf
  refine List.map_congr_left (fun j hj => ?_)
  rw [List.mem_range] at hj
  rw [(cut_at hb h.1 (by omega)).2]
end
set_option maxRecDepth 10000
/-- The box h9 holds the base bs, the records rs and the size z, apart from D. -/
structure Wants (w : World) (D : Nat → Prop) (B h9 : Nat) (bs : List Int) (rs : List (List Int)) (z : Nat) : Prop where
  box : ∃ (bA : Option Addr) (bc : Nat) (RA : Option Addr) (rc : Nat), w.heap[h9]? = some (.cells #[.slice bA bs.length bc, .slice RA rs.length rc, .int .i64 (z : Int)] 36 (0, 0)) ∧ RdK w D bA bs.length bs ∧ Row w D B (.slice RA rs.length rc) rs
  nd : ¬ D h9
section
variable {w w' : World} {D D' : Nat → Prop} {B h9 z : Nat} {bs : List Int} {rs : List (List Int)}
theorem Wants.turn (h : Wants w D B h9 bs rs z) (hf : Fr w w' D) (hD : ∀ b, D' b → D b ∨ w.heap.size ≤ b) : Wants w' D' B h9 bs rs z := by
  obtain ⟨bA, bc, RA, rc, h1, h2, h3⟩ := h.box
  have hl := heapK_lt h1
  exact ⟨⟨bA, bc, RA, rc, (hf.block h9 hl h.nd).trans h1, h2.turn hf hD, h3.turn hf hD⟩, fun hd => (hD h9 hd).elim h.nd (fun h4 => by omega)⟩
theorem Wants.below (h : Wants w D B h9 bs rs z) (hb : Below w.heap.size w w') : Wants w' D B h9 bs rs z := h.turn (Fr.of_below hb) (fun b hb => .inl hb)
end
/-- The dock holds the log a, bs, rs of z bytes; or (p is 0) none, and these are the new log's. -/
def LogIn (F : Int → Option Fi) (a : Int) (bs : List Int) (rs : List (List Int)) (z : Nat) (p : Nat) : Prop :=
  (∃ f r, Holds F a f r ∧ bs = bsOf f.bs r ∧ rs = rsOf f.bs r ∧ z = atN f.bs r) ∨ (p = 0 ∧ a = 0 ∧ bs = [] ∧ rs = [] ∧ z = 9 ∧ ∀ x, ¬ whole F x)
theorem putF_only {F : Int → Option Fi} {a : Int} {f : Fi} (h1 : F a = some f) (h2 : ∀ x, x ≠ a → F x = none) : F = putF (fun _ => none) a f := by
  funext x
  by_cases e : x = a
  · rw [e, putF_same, h1]
  · rw [putF_other _ _ e, h2 x e]
theorem szOK_one {F : Int → Option Fi} {a : Int} {f : Fi} (h1 : F a = some f) (h2 : ∀ x, x ≠ a → F x = none) : SzOK (f.n : Int) F := by
  rw [putF_only h1 h2]
  have h := szOK_nil.put a f
  have e : (0 : Int) - ((fileAt (fun _ => none) a).n : Int) + (f.n : Int) = (f.n : Int) := by
    show (0 : Int) - ((0 : Nat) : Int) + (f.n : Int) = _
    omega
  rwa [e] at h
theorem bounds_of {f : Fi} {r : Nat} (h : Reads f.bs r) (hn : f.bs.length ≤ 16777216) : (rsOf f.bs r).length ≤ 16777216 ∧ atN f.bs r ≤ 16777216 := by
  have h1 := atN_le (xs := f.bs) r (fun j hj => (h.1 j hj).1)
  have h2 := atN_ge (xs := f.bs) r (fun j hj => (h.1 j hj).1)
  rw [rsOf_len]
  omega
section
variable {w : World} {D : Nat → Prop} {B B0 db mb K h9 z p : Nat} {cap s a : Int} {F : Int → Option Fi} {bs : List Int} {rs : List (List Int)}
/-- What a round of the law begins with. -/
structure OpR (w : World) (B h9 db mb K : Nat) (cap s a : Int) (F : Int → Option Fi) (bs : List Int) (rs : List (List Int)) (z p : Nat) : Prop where
  dk : Dk w db mb K ⟨cap, s, -1, false⟩ F
  sz : SzOK s F
  sb : s ≤ 16777216
  cb : cap ≤ 16777216
  c9 : 9 ≤ cap
  wt : Wants w (Mine db mb F) B h9 bs rs z
  li : LogIn F a bs rs z p
theorem OpR.below {w' : World} (h : OpR w B h9 db mb K cap s a F bs rs z p) (hb : Below w.heap.size w w') : OpR w' B h9 db mb K cap s a F bs rs z p :=
  ⟨h.dk.below hb, h.sz, h.sb, h.cb, h.c9, h.wt.below hb, h.li⟩
theorem opr_open (h : OpR w B h9 db mb K cap s a F bs rs z p) (hK : K ≤ 1000) (hmb : B0 ≤ mb) :
    Calls Try.prog 15 #[.pointer (some ⟨db, 0, none⟩)] w fun e w' => ∃ (lb K' : Nat) (f' : Fi) (v' : LgV) (F' : Int → Option Fi), e = .returned (.tuple #[.pointer (some ⟨lb, 0, none⟩), .int .i64 0]) ∧ K' ≤ K + 2 ∧
      OpR w' B h9 db mb K' cap (z : Int) a F' bs rs z 1 ∧ F' a = some f' ∧ (∀ x, x ≠ a → F' x = none) ∧ f'.s = z ∧ Lg w' (Mine db mb F') 0 lb v' bs rs ∧ v'.nm = a ∧ v'.sz = (z : Int) ∧ v'.bn = bs.length ∧ rs.length ≤ 16777216 ∧ bs.length ≤ 65535 ∧ 0 ≤ a ∧ a ≤ 999999 ∧ Below B0 w w' := by
  rcases h.li with ⟨f, r, hh, rfl, rfl, rfl⟩ | ⟨rfl, rfl, rfl, rfl, rfl, hno⟩
  · have hg := h.dk.good a f hh.at_
    have hl : f.bs.length = f.n := (h.dk.own a f hh.at_).len
    have hbd := bounds_of hh.reads (by omega)
    refine (open_found (B0 := 0) h.dk (by omega) rfl rfl h.sz (by show s ≤ _; have := h.sb; omega) (Nat.zero_le _) (Nat.zero_le _) hh).mono ?_
    rintro e w' ⟨lb, K', f', v', F', rfl, hlb, hK', hdk, hfa, hfo, hbs, hn, hs, hL, hdb, hnm, hcl, hsz, hfr, hmi, _⟩
    have hR := cut_reads hg.2.2.2.1 hh.reads
    have hA := cut_atN hg.2.2.2.1 hh.reads
    have hH : Holds F' a f' r := ⟨hfa, hh.pos, by rw [hbs]; exact hR, fun x hx ⟨f2, r2, h2, _⟩ => by rw [hfo x (by omega)] at h2; cases h2⟩
    have hS := szOK_one hfa hfo
    rw [hn] at hS
    refine ⟨lb, K', f', v', F', rfl, hK', ⟨hdk, hS, by omega, h.cb, h.c9, h.wt.turn hfr (fun b hb => .inl (hmi b hb)), .inl ⟨f', r, hH, ?_, ?_, ?_⟩⟩, hfa, hfo, by rw [hs, hn], hL, hnm, hsz, hL.base.1.symm, hbd.1, hL.bl, hg.1, hg.2.1, (hfr.below h.dk).mono hmb⟩
    · rw [hbs, cut_bsOf hg.2.2.2.1 hh.reads]
    · rw [hbs, cut_rsOf hg.2.2.2.1 hh.reads]
    · rw [hbs, hA]
  · refine (open_none (B0 := 0) h.dk (by omega) rfl rfl h.sz (by show s ≤ _; have := h.sb; omega) (by show cap ≤ _; exact h.cb) (by show 9 ≤ cap; exact h.c9) (Nat.zero_le _) hno).mono ?_
    rintro e w' ⟨lb, f', rfl, hlb, hbs, hn, hs, hdk, hL, hfr, hmi⟩
    have hok : RecOK ([] : List Int) := ⟨bytes_nil, by simp⟩
    have hno2 : ∀ x, x ∈ ([] : List (List Int)) → RecOK x := fun x hx => by cases hx
    have e0 : f'.bs = logL [] [] := by rw [hbs]; show _ = frmP 0 [] ++ recsL []; rw [show recsL [] = [] from rfl, List.append_nil]
    have hH : Holds (putF (fun _ => none) 0 f') 0 f' 1 := ⟨putF_same _ _ _, by omega, by rw [e0]; exact log_reads hok hno2, fun x hx ⟨f2, r2, h2, _⟩ => by rw [putF_other _ _ (by omega)] at h2; cases h2⟩
    have hS := szOK_one (F := putF (fun _ => none) 0 f') (putF_same _ _ _) (fun x hx => putF_other _ _ hx)
    rw [hn] at hS
    refine ⟨lb, K + 2, f', _, _, rfl, Nat.le_refl _, ⟨hdk, hS, by omega, h.cb, h.c9, h.wt.turn hfr hmi, .inl ⟨f', 1, hH, ?_, ?_, ?_⟩⟩, putF_same _ _ _, fun x hx => putF_other _ _ hx, hs, hL, rfl, rfl, rfl, by simp, by simp, by omega, by omega, (hfr.below h.dk).mono hmb⟩
    · rw [e0]; exact (log_bsOf hok hno2).symm
    · rw [e0]; exact (log_rsOf hok hno2).symm
    · rw [e0]
      have h1 := log_atN hok hno2
      have h2 : (logL [] []).length = 9 := by rw [← e0, hbs]; exact frmP_length 0 []
      rw [h2] at h1
      exact h1.symm
end
end Go.Proofs.Ytadajkgiijpakaa
