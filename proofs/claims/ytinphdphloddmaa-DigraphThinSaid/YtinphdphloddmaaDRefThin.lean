/-
  CONTRACTS of the document's Has and Thin, over this translation; and that what is left of the edges reaches the same.
-/
import Derived.Test.YtinphdphloddmaaDFrom
import Derived.Test.YtinphdphloddmaaDRef
import Derived.Test.YtinphdphloddmaaDPrefixes
import Derived.Test.YtinphdphloddmaaDThin
namespace Go.Proofs.Ytinphdphloddmaa
open Go.RowKit
open DiP
set_option linter.unusedVariables false
namespace DiP
theorem fur_step (aft r : Nat → Nat) (v k b : Nat) : bt (furK aft r v (k + 1)) b = (bt (furK aft r v k) b || (bt (aft v) k && bt (r k) b)) := by
  show bt (if _ then _ else _) b = _
  cases h : bt (aft v) k with
  | true => rw [if_pos rfl, bt_orn]; simp
  | false => simp
theorem E_mem {g : List (Nat × Nat)} {u v : Nat} : E g u v ↔ (u, v) ∈ g := by
  constructor
  · rintro ⟨k, hk, h1, h2⟩
    have e : g[k] = (u, v) := by
      rw [← h1, ← h2]; simp [fa, fb, List.getD, hk]
    rw [← e]; exact List.getElem_mem hk
  · intro h
    obtain ⟨k, hk, e⟩ := List.getElem_of_mem h
    exact ⟨k, hk, by simp [fa, List.getD, hk, e], by simp [fb, List.getD, hk, e]⟩
theorem mem_prsK {x s u v : Nat} : ∀ k, (u, v) ∈ prsK x s k ↔ u = x ∧ v < k ∧ bt s v = true := by
  intro k
  induction k with
  | zero => simp [prsK]
  | succ k ih =>
    unfold prsK
    by_cases h : bt s k = true
    · rw [if_pos h, List.mem_append, ih]
      constructor
      · rintro (⟨h1, h2, h3⟩ | h1)
        · exact ⟨h1, by omega, h3⟩
        · simp at h1; exact ⟨h1.1, by omega, by rw [h1.2]; exact h⟩
      · rintro ⟨h1, h2, h3⟩
        by_cases e : v = k
        · right; simp [h1, e]
        · exact .inl ⟨h1, by omega, h3⟩
    · rw [if_neg h, ih]
      constructor
      · rintro ⟨h1, h2, h3⟩; exact ⟨h1, by omega, h3⟩
      · rintro ⟨h1, h2, h3⟩
        refine ⟨h1, ?_, h3⟩
        by_cases e : v = k
        · subst e; exact absurd h3 h
        · omega
theorem mem_thnK {n : Nat} {aft r : Nat → Nat} {u v : Nat} : ∀ k, (u, v) ∈ thnK n aft r k ↔ u < k ∧ v < n ∧ bt (andn (aft u) (furK aft r u n)) v = true := by
  intro k
  induction k with
  | zero => simp [thnK]
  | succ k ih =>
    unfold thnK
    rw [List.mem_append, ih, mem_prsK]
    constructor
    · rintro (⟨h1, h2, h3⟩ | ⟨h1, h2, h3⟩)
      · exact ⟨by omega, h2, h3⟩
      · subst h1; exact ⟨by omega, h2, h3⟩
    · rintro ⟨h1, h2, h3⟩
      by_cases e : u = k
      · subst e; exact .inr ⟨rfl, h2, h3⟩
      · exact .inl ⟨by omega, h2, h3⟩
theorem E_thn {g : List (Nat × Nat)} {n u v : Nat} (hi : InN n g) (hn : n ≤ 64) : E (thnG n g) u v ↔ E g u v ∧ ¬ ∃ c, E g u c ∧ Way g c v := by
  rw [E_mem]
  unfold thnG
  rw [mem_thnK]
  constructor
  · rintro ⟨h1, h2, h3⟩; exact (left_iff hi hn (by omega)).1 h3
  · intro h
    have := h.1.lt hi
    exact ⟨this.1, this.2, (left_iff hi hn (by omega)).2 h⟩
theorem inN_thn {g : List (Nat × Nat)} {n : Nat} (hi : InN n g) (hn : n ≤ 64) : InN n (thnG n g) := by
  intro k hk
  have e : E (thnG n g) (fa (thnG n g) k) (fb (thnG n g) k) := ⟨k, hk, rfl, rfl⟩
  exact ((E_thn hi hn).1 e).1.lt hi
theorem way_thn {g : List (Nat × Nat)} {n : Nat} (hi : InN n g) (hn : n ≤ 64) (hg : Goes (befG g) n n) {u v : Nat} : Way (thnG n g) u v ↔ Way g u v := by
  constructor
  · intro h
    induction h with
    | one e => exact .one ((E_thn hi hn).1 e).1
    | more _ e ih => exact .more ih ((E_thn hi hn).1 e).1
  · have hr : ∀ {a b}, Way g a b → levG n g a < levG n g b := fun h => way_rank (fun _ _ e => levG_edge hi hn hg e) h
    have key : ∀ d u v, Way g u v → levG n g v - levG n g u ≤ d → Way (thnG n g) u v := by
      intro d
      induction d with
      | zero => intro u v h hd; have := hr h; omega
      | succ d ih =>
        intro u v h hd
        have two : ∀ c, E g u c → Way g c v → Way (thnG n g) u v := fun c e h2 => by
          have h3 := hr (.one e)
          have h4 := hr h2
          exact (ih u c (.one e) (by omega)).trans (ih c v h2 (by omega))
        rcases way_first h with e | ⟨c, e, h2⟩
        · by_cases hc : ∃ c, E g u c ∧ Way g c v
          · obtain ⟨c, e2, h2⟩ := hc
            exact two c e2 h2
          · exact .one ((E_thn hi hn).2 ⟨e, hc⟩)
        · exact two c e h2
    exact fun h => key _ u v h (Nat.le_refl _)
theorem rch_thn {g : List (Nat × Nat)} {n : Nat} (hi : InN n g) (hn : n ≤ 64) (hg : Goes (befG g) n n) {u : Nat} (hu : u < n) : rchG n (thnG n g) u = rchG n g u := by
  have hi' := inN_thn hi hn
  refine ext64 (rchK_small hi' hn n u) (rchK_small hi hn n u) (fun v _ => ?_)
  rw [Bool.eq_iff_iff]
  exact (rch_way hi' hu).trans ((way_thn hi hn hg).trans (rch_way hi hu).symm)
end DiP
theorem OwnP.kept {w w' : World} {base : Nat} {v : Value} {l : List (Nat × Nat)} (h : OwnP w base v l) (hb : Below w.heap.size w w') : OwnP w' base v l := by
  refine ⟨h.1, ?_⟩
  rcases h.2 with h' | ⟨g, cap, cur, hv, hbg, hh, r⟩
  · exact .inl h'
  · refine .inr ⟨g, cap, cur, hv, hbg, ?_, r⟩
    rw [hb.block g (heap_lt hh)]; exact hh

set_option maxRecDepth 100000 in
set_option maxHeartbeats 1000000 in
theorem refHas_any {w : World} {B m c N a b : Nat} {A : Option Addr} {g : List (Nat × Nat)} (hx : RdG w B A m g) (hm : m ≤ 4096) (hB : B ≤ w.heap.size) :
    Calls Try.prog 59 #[.agg #[.int .i64 (N : Int), .slice A m c], .int .i64 (a : Int), .int .i64 (b : Int)] w fun e w' => e = .returned (.bool (bt (aftG g a) b)) ∧ Below w.heap.size w w' := by
  have HX := Lib.hid hx
  have HL := Lib.hid hx.len
  clear hx
  go_enter Try.func59, Try.ntmps59
  go_wp2_with fail
  have HW : Hid (Boxed (w.alloc (.cells #[.int .i64 (N : Int), .slice A m c] 31)) w.heap.size (N : Int) A m c ∧ Below w.heap.size w (w.alloc (.cells #[.int .i64 (N : Int), .slice A m c] 31))) :=
    Lib.hid ⟨boxed_alloc _ _ _ _ _ _, (Below.refl _ _).alloc (Nat.le_refl _) _⟩
  generalize (w.alloc (.cells #[.int .i64 (N : Int), .slice A m c] 31)) = W0 at HW ⊢
  obtain ⟨hcn, hcs⟩ := HW.out.1
  go_loop [7] (fun i => ∃ k : Nat, k ≤ m ∧ i = .int .i64 (k : Int) ∧ Hid (∀ j, j < k → fa g j = a → fb g j ≠ b)) (fun i => m - (intOf i).toNat)
  case atStart => exact ⟨0, Nat.zero_le _, rfl, Lib.hid (fun j h => absurd h (Nat.not_lt_zero _))⟩
  case round =>
    obtain ⟨k, hk, rfl, HF⟩ := hrel
    by_cases hlt : k < m
    · obtain ⟨b', off, rfl, hbb, hca, hcb⟩ := (HX.out.below (HW.out.2.mono hB)).at_ hlt
      by_cases ha : fa g k = a
      · have hA : ((fa g k : Int) == (a : Int)) = true := by rw [ha]; simp
        by_cases hb : fb g k = b
        · have hBb : ((fb g k : Int) == (b : Int)) = true := by rw [hb]; simp
          have HT : Hid (bt (aftG g a) b = true) := Lib.hid ((bt_aftG g b a).2 ⟨k, by rw [HL.out]; exact hlt, ha, hb⟩)
          clear ha hb
          go_wp2
          go_ret
          exact ⟨congrArg (fun b => Ending.returned (.bool b)) HT.out.symm, HW.out.2⟩
        · have hBb : ((fb g k : Int) == (b : Int)) = false := by simp; omega
          have HN : Hid (∀ j, j < k + 1 → fa g j = a → fb g j ≠ b) := Lib.hid (fun j hj h1 => by
            by_cases e : j = k
            · subst e; exact hb
            · exact HF.out j (by omega) h1)
          clear ha hb
          go_wp2
          go_round
          case rel => exact ⟨k + 1, by omega, by go_num, HN⟩
          case measure => simp [intOf]; omega
      · have hA : ((fa g k : Int) == (a : Int)) = false := by simp; omega
        have HN : Hid (∀ j, j < k + 1 → fa g j = a → fb g j ≠ b) := Lib.hid (fun j hj h1 => by
          by_cases e : j = k
          · subst e; exact absurd h1 ha
          · exact HF.out j (by omega) h1)
        clear ha
        go_wp2
        go_round
        case rel => exact ⟨k + 1, by omega, by go_num, HN⟩
        case measure => simp [intOf]; omega
    · obtain rfl : k = m := by omega
      have HT : Hid (bt (aftG g a) b = false) := Lib.hid (by
        cases h : bt (aftG g a) b with
        | false => rfl
        | true =>
          obtain ⟨j, hj, h1, h2⟩ := (bt_aftG g b a).1 h
          exact absurd h2 (HF.out j (by rw [← HL.out]; exact hj) h1))
      go_wp2
      go_ret
      exact ⟨congrArg (fun b => Ending.returned (.bool b)) HT.out.symm, HW.out.2⟩

set_option maxRecDepth 100000 in
set_option maxHeartbeats 2000000 in
theorem refThin_any {w : World} {B m c N : Nat} {A : Option Addr} {g : List (Nat × Nat)} (hx : RdG w B A m g) (hi : InN N g) (hn : N ≤ 64) (hm : m ≤ 4096) (hB : B ≤ w.heap.size) :
    Calls Try.prog 34 #[.agg #[.int .i64 (N : Int), .slice A m c]] w fun e w' => ∃ A' c', e = .returned (.slice A' (thnG N g).length c') ∧ OwnP w' w.heap.size (.slice A' (thnG N g).length c') (thnG N g) ∧ Below w.heap.size w w' := by
  have HX := Lib.hid hx
  have HI := Lib.hid hi
  have HL := Lib.hid hx.len
  clear hx hi
  go_enter Try.func34, Try.ntmps34
  go_wp2_with fail
  have HW : Hid (Boxed (w.alloc (.cells #[.int .i64 (N : Int), .slice A m c] 31)) w.heap.size (N : Int) A m c ∧ Below w.heap.size w (w.alloc (.cells #[.int .i64 (N : Int), .slice A m c] 31)) ∧ w.heap.size < (w.alloc (.cells #[.int .i64 (N : Int), .slice A m c] 31)).heap.size) :=
    Lib.hid ⟨boxed_alloc _ _ _ _ _ _, (Below.refl _ _).alloc (Nat.le_refl _) _, by simp⟩
  generalize (w.alloc (.cells #[.int .i64 (N : Int), .slice A m c] 31)) = W0 at HW ⊢
  have hlt0 := HW.out.2.2
  go_loopw [3, 4] (fun v i wr => ∃ k : Nat, k ≤ N ∧ i = .int .i64 (k : Int) ∧ Hid (OwnP wr W0.heap.size v (thnK N (aftG g) (rchG N g) k)) ∧ Hid (Below W0.heap.size W0 wr)) (fun _ i _ => N - (intOf i).toNat)
  case atStart => exact ⟨0, Nat.zero_le _, rfl, Lib.hid (OwnP.nil_ _ _), Lib.hid (Below.refl _ _)⟩
  case round =>
    obtain ⟨k, hk, rfl, HO, HR⟩ := hrel
    obtain ⟨hcn, hcs⟩ := Boxed.below HW.out.1 HR.out hlt0
    by_cases hlt : k < N
    · go_wp2_with fail
      go_loopw [3, 5] (fun v i wr => ∃ q : Nat, q ≤ N ∧ i = .int .i64 (q : Int) ∧ Hid (OwnP wr W0.heap.size v (thqK N (aftG g) (rchG N g) k q)) ∧ Hid (Below W0.heap.size W0 wr)) (fun _ i _ => N - (intOf i).toNat)
      case atStart => exact ⟨0, Nat.zero_le _, rfl, Lib.hid (by rw [thqK_zero]; exact HO.out), HR⟩
      case round =>
        clear hcn hcs HO HR
        obtain ⟨q, hq, rfl, HO, HR⟩ := hrel
        obtain ⟨hcn, hcs⟩ := Boxed.below HW.out.1 HR.out hlt0
        have hszr := HR.out.size
        by_cases hlq : q < N
        · have HXR := Lib.hid (HX.out.below ((HW.out.2.1.trans (HR.out.mono (by omega))).mono hB))
          have HSQ := Lib.hid (thqK_succ N (aftG g) (rchG N g) k q)
          have HBA := Lib.hid (bt_andn (s := aftG g k) (t := furK (aftG g) (rchG N g) k N) (u := q) (furK_lt (rchK_small HI.out hn N) _ _ _) (by omega))
          cases hbt : bt (aftG g k) q with
          | false =>
            have HBT := Lib.hid hbt
            have HN : Hid (thqK N (aftG g) (rchG N g) k (q + 1) = thqK N (aftG g) (rchG N g) k q) := Lib.hid (by rw [HSQ.out, HBA.out, hbt]; rfl)
            clear hbt
            go_wp2_with fail
            refine (refHas_any HXR.out (by omega) (by omega)).mono ?_
            rintro e w3 ⟨rfl, hb⟩
            rw [HBT.out]
            have HO3 := Lib.hid (HO.out.kept hb)
            have HR3 : Hid (Below W0.heap.size W0 w3) := Lib.hid (HR.out.trans (hb.mono hszr))
            clear hb hcn hcs
            go_wp2
            go_roundw
            case rel => exact ⟨q + 1, by omega, by go_num, Lib.hid (by rw [HN.out]; exact HO3.out), HR3⟩
            case measure => simp [intOf]; omega
          | true =>
            have HBT := Lib.hid hbt
            have HN : Hid (bt (andn (aftG g k) (furK (aftG g) (rchG N g) k N)) q = !bt (furK (aftG g) (rchG N g) k N) q) := Lib.hid (by rw [HBA.out, hbt]; simp)
            clear hbt
            go_wp2_with fail
            refine (refHas_any HXR.out (by omega) (by omega)).mono ?_
            rintro e w3 ⟨rfl, hb⟩
            rw [HBT.out]
            have HO3 := Lib.hid (HO.out.kept hb)
            have HR3 : Hid (Below W0.heap.size W0 w3) := Lib.hid (HR.out.trans (hb.mono hszr))
            clear hb hcn hcs HXR HO HR hszr HBA
            go_wp2_with fail
            go_loopw [6, 7] (fun f i wr => ∃ j : Nat, j ≤ N ∧ i = .int .i64 (j : Int) ∧ f = .bool (bt (furK (aftG g) (rchG N g) k j) q) ∧ Hid (Below w3.heap.size w3 wr)) (fun _ i _ => N - (intOf i).toNat)
            case atStart => exact ⟨0, Nat.zero_le _, rfl, by simp [furK, bt_zero], Lib.hid (Below.refl _ _)⟩
            case round =>
              obtain ⟨j, hj, rfl, rfl, HC⟩ := hrel
              have hsz3 := HR3.out.size
              have hszc := HC.out.size
              have HRC : Hid (Below W0.heap.size W0 wr) := Lib.hid (HR3.out.trans (HC.out.mono hsz3))
              obtain ⟨hcn, hcs⟩ := Boxed.below HW.out.1 HRC.out hlt0
              by_cases hlj : j < N
              · have HXR := Lib.hid (HX.out.below ((HW.out.2.1.trans (HRC.out.mono (by omega))).mono hB))
                have HST := Lib.hid (fur_step (aftG g) (rchG N g) k j q)
                cases hbt : bt (aftG g k) j with
                | false =>
                  have HBT2 := Lib.hid hbt
                  have HN2 : Hid (bt (furK (aftG g) (rchG N g) k (j + 1)) q = bt (furK (aftG g) (rchG N g) k j) q) := Lib.hid (by rw [HST.out, hbt]; simp)
                  clear hbt
                  generalize bt (furK (aftG g) (rchG N g) k j) q = f0 at *
                  go_wp2_with fail
                  refine (refHas_any HXR.out (by omega) (by omega)).mono ?_
                  rintro e w4 ⟨rfl, hb⟩
                  rw [HBT2.out]
                  have HC4 : Hid (Below w3.heap.size w3 w4) := Lib.hid (HC.out.trans (hb.mono hszc))
                  clear hb hcn hcs
                  go_wp2
                  go_roundw
                  case rel => exact ⟨j + 1, by omega, by go_num, by rw [HN2.out], HC4⟩
                  case measure => simp [intOf]; omega
                | true =>
                  have HBT2 := Lib.hid hbt
                  have HN2 : Hid (bt (furK (aftG g) (rchG N g) k (j + 1)) q = (bt (furK (aftG g) (rchG N g) k j) q || bt (rchG N g j) q)) := Lib.hid (by rw [HST.out, hbt]; simp)
                  clear hbt
                  generalize bt (furK (aftG g) (rchG N g) k j) q = f0 at *
                  go_wp2_with fail
                  refine (refHas_any HXR.out (by omega) (by omega)).mono ?_
                  rintro e w4 ⟨rfl, hb⟩
                  rw [HBT2.out]
                  have HC4 : Hid (Below w3.heap.size w3 w4) := Lib.hid (HC.out.trans (hb.mono hszc))
                  have HX4 := Lib.hid (HXR.out.below (hb.mono (by omega)))
                  obtain ⟨hcn4, hcs4⟩ := Boxed.below ⟨hcn, hcs⟩ hb (by have := HRC.out.size; omega)
                  have hsz4 := hb.size
                  clear hb hcn hcs
                  go_wp2_with fail
                  refine (from_any HX4.out HI.out hn (by omega) (by omega) hlj).mono ?_
                  rintro e w5 ⟨ob, rfl, hown, hb⟩
                  have hbl := OwnB.cell hown (j := q) hlq
                  rw [blL_bx _ hlq] at hbl
                  have HC5 : Hid (Below w3.heap.size w3 w5) := Lib.hid (HC4.out.trans (hb.mono (by omega)))
                  clear hb hown hcn4 hcs4
                  cases hb2 : bt (rchG N g j) q with
                  | true =>
                    rw [hb2] at hbl
                    have HN3 : Hid (bt (furK (aftG g) (rchG N g) k (j + 1)) q = true) := Lib.hid (by rw [HN2.out, hb2]; simp)
                    clear hb2
                    go_wp2
                    go_roundw
                    case rel => exact ⟨j + 1, by omega, by go_num, by rw [HN3.out], HC5⟩
                    case measure => simp [intOf]; omega
                  | false =>
                    rw [hb2] at hbl
                    have HN3 : Hid (bt (furK (aftG g) (rchG N g) k (j + 1)) q = f0) := Lib.hid (by rw [HN2.out, hb2]; simp)
                    clear hb2
                    go_wp2
                    go_roundw
                    case rel => exact ⟨j + 1, by omega, by go_num, by rw [HN3.out], HC5⟩
                    case measure => simp [intOf]; omega
              · obtain rfl : j = N := by omega
                have HOC := Lib.hid (HO3.out.kept HC.out)
                cases hbf : bt (furK (aftG g) (rchG j g) k j) q with
                | true =>
                  have HN4 : Hid (thqK j (aftG g) (rchG j g) k (q + 1) = thqK j (aftG g) (rchG j g) k q) := Lib.hid (by rw [HSQ.out, HN.out, hbf]; rfl)
                  clear hbf
                  go_wp2
                  go_roundw
                  case rel => exact ⟨q + 1, by omega, by go_num, Lib.hid (by rw [HN4.out]; exact HOC.out), HRC⟩
                  case measure => simp [intOf]; omega
                | false =>
                  have HN4 : Hid (thqK j (aftG g) (rchG j g) k (q + 1) = thqK j (aftG g) (rchG j g) k q ++ [(k, q)]) := Lib.hid (by rw [HSQ.out, HN.out, hbf]; rfl)
                  have hll : (thqK j (aftG g) (rchG j g) k q).length ≤ 8192 := by
                    unfold thqK
                    have h1 := thnK_len j (aftG g) (rchG j g) k
                    have h2 := prsK_len k (andn (aftG g k) (furK (aftG g) (rchG j g) k j)) q
                    have h3 : k * j ≤ 64 * 64 := Nat.mul_le_mul (by omega) (by omega)
                    rw [List.length_append]; omega
                  clear hbf
                  go_wp2_with (at_builtin; refine wpl_appP rfl (.tmp 45) (.tmp 49) rfl W0.heap.size _ _ rfl (HOC.out.alloc _) wr.heap.size k q rfl (by simp) (by simp) (by omega) (by have := HRC.out.size; simp; omega) ?_; intro g' c' w6 hown6 hgr6)
                  have HO6 := Lib.hid hown6
                  have HR6 : Hid (Below W0.heap.size W0 w6) := Lib.hid ((HRC.out.alloc HRC.out.size _).grown hgr6 (by have := HRC.out.size; simp; omega) (fun x hx => HOC.out.ge x hx))
                  clear hown6 hgr6
                  go_wp2
                  go_roundw
                  case rel => exact ⟨q + 1, by omega, by go_num, Lib.hid (by rw [HN4.out]; have := HO6.out; simpa [OwnP] using this), HR6⟩
                  case measure => simp [intOf]; omega
        · obtain rfl : q = N := by omega
          go_wp2
          go_roundw
          case rel => exact ⟨k + 1, by omega, by go_num, Lib.hid HO.out, HR⟩
          case measure => simp [intOf]; omega
    · obtain rfl : k = N := by omega
      obtain ⟨A', c', rfl⟩ := OwnP.shape (l := thnK k (aftG g) (rchG k g) k) HO.out
      go_wp2
      go_ret
      exact ⟨A', c', rfl, OwnP.less HO.out (by omega), HW.out.2.1.trans (HR.out.mono (by omega))⟩
end Go.Proofs.Ytinphdphloddmaa
