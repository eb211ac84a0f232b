/-
  THE WALK of the statement WalPlays, over this translation.
-/
import Derived.Test.YticklaophgekeaaWJ
import Derived.Test.YticklaophgekeaaWFul
import Derived.Test.YticklaophgekeaaWRows
import Derived.Test.YticklaophgekeaaWOpO
import Derived.BigRegion
import Derived.Deep.RegionLaw
import Derived.Deep.CutBlock
import Derived.Deep.DeepCutAuto
namespace Go.Proofs.Yticklaophgekeaa
open Go.RowKit
open ByteP
set_option linter.unusedVariables false
set_option maxRecDepth 10000
structure PlI (w wr : World) (db mb lb : Nat) (cap : Int) (j : Nat) (v8 v9 v10 v11 : Value) (name K : Nat) (F : Int → Option Fi) (f : Fi) (v : LgV) (BA : Option Addr) (bn bc : Nat) (RA : Option Addr) (rc : Nat) (bsx : List Int) (rs : List (List Int)) : Prop where
  e8 : v8 = .slice BA bn bc
  e9 : v9 = .slice RA rs.length rc
  e10 : v10 = .int .i64 (name : Int)
  e11 : v11 = .int .i64 ((logL bsx rs).length : Int)
  nj : name ≤ j
  kj : K ≤ 2 + 3 * j
  bn3 : bn ≤ 300
  rn : rs = [] → RA = none
  base : RdY w w.heap.size BA bn bsx
  wj : WJ wr w.heap.size db mb lb K cap name F f v bsx rs
  row : Row wr (WM db mb F lb v) w.heap.size (.slice RA rs.length rc) rs
  bel : Below w.heap.size w wr
  szc : ((logL bsx rs).length : Int) ≤ cap
def PlX (w wr : World) (db mb lb : Nat) (cap : Int) (j : Nat) (v8 v9 v10 v11 : Value) : Prop := ∃ name K F f v BA bn bc RA rc bsx rs, PlI w wr db mb lb cap j v8 v9 v10 v11 name K F f v BA bn bc RA rc bsx rs
section
variable {w wr w' : World} {db mb lb : Nat} {cap : Int} {j : Nat} {v8 v9 v10 v11 : Value} {name K : Nat} {F : Int → Option Fi} {f : Fi} {v : LgV} {BA : Option Addr} {bn bc : Nat} {RA : Option Addr} {rc : Nat} {bsx : List Int} {rs : List (List Int)}
theorem PlI.below (h : PlI w wr db mb lb cap j v8 v9 v10 v11 name K F f v BA bn bc RA rc bsx rs) (hb : Below wr.heap.size wr w') : PlI w w' db mb lb cap j v8 v9 v10 v11 name K F f v BA bn bc RA rc bsx rs :=
  ⟨h.e8, h.e9, h.e10, h.e11, h.nj, h.kj, h.bn3, h.rn, h.base, h.wj.below hb, h.row.below hb, h.bel.trans (hb.mono h.bel.size), h.szc⟩
theorem PlI.more (h : PlI w wr db mb lb cap j v8 v9 v10 v11 name K F f v BA bn bc RA rc bsx rs) {j' : Nat} (hj : j ≤ j') : PlI w wr db mb lb cap j' v8 v9 v10 v11 name K F f v BA bn bc RA rc bsx rs :=
  ⟨h.e8, h.e9, h.e10, h.e11, by have := h.nj; omega, by have := h.kj; omega, h.bn3, h.rn, h.base, h.wj, h.row, h.bel, h.szc⟩
end
theorem rowE {W : World} {M : Nat → Prop} {B0 g0 : Nat} (h : W.heap[g0]? = some (.cells #[] 26 (0, 0))) (hB : B0 ≤ g0) (hM : ¬ M g0) : Row W M B0 (.slice (some ⟨g0, 0, none⟩) 0 0) [] :=
  ⟨⟨[], ⟨rfl, .inr ⟨g0, 0, #[], rfl, hB, h, Nat.le_refl _, Nat.zero_le _, rfl, rfl⟩⟩, fun j hj => absurd hj (Nat.not_lt_zero j)⟩, fun g hg => by
    have e : some g0 = some g := hg
    injection e with e
    rw [← e]; exact hM⟩
theorem Row.els {w5 W : World} {M : Nat → Prop} {B0 k rc g0 : Nat} {RA : Option Addr} {rs : List (List Int)} (h : Row w5 M B0 (.slice RA k rc) rs) (hk : rs.length = k) (hb : Below w5.heap.size w5 W) (hg0 : w5.heap.size ≤ g0) :
    ∀ j, j < k → ∃ b A n c, RA = some ⟨b, 0, none⟩ ∧ W.cell? ⟨b, j, none⟩ = some (.slice A n c) ∧ RdK W (fun b => M b ∨ (Value.slice (some ⟨g0, 0, none⟩) 0 0).ownBlock = some b) A n (rs.getD j []) ∧ Bytes (rs.getD j []) ∧ n ≤ 1099511627776 := fun j hj => by
  obtain ⟨b, P, n, d, e, hc, hr, hby, hn, hM, hlt⟩ := h.at_ (by omega : j < rs.length)
  refine ⟨b, P, n, d, e, (hb.cell (p := ⟨b, j, none⟩) hlt).trans hc, (hr.weak (M' := fun b => M b ∨ (Value.slice (some ⟨g0, 0, none⟩) 0 0).ownBlock = some b) (fun x hx => ?_)).turn (Fr.of_below hb) (fun x hx => .inl hx), hby, hn⟩
  rcases hx with h1 | h1
  · exact .inl (.inl h1)
  · have e2 : some g0 = some x := h1
    injection e2 with e2
    right; omega
/-- 'append([][]byte{}, x...)'. -/
theorem stepR_apps0 {w : World} {ops : Array Oper} {o : Oper} {a : Act} {K : Act → World → Prop} {Q : Exit → Act → World → Prop} {E : Prop} (hgd : o.guard = none) (s x : Operand)
    (ho : o.op = .call { callee := .builtin .append, args := #[s, x], argTypes := #[34, 34] })
    (M : Nat → Prop) (B0 g0 : Nat) (hs : a.eval s = .slice (some ⟨g0, 0, none⟩) 0 0) (hrow : Row w M B0 (.slice (some ⟨g0, 0, none⟩) 0 0) []) (hMs : ∀ b, M b → b < w.heap.size)
    (D : Option Addr) (k d : Nat) (rs2 : List (List Int)) (hk : rs2.length = k) (hx : a.eval x = .slice D k d) (hD : k = 0 → D = none)
    (hel : ∀ j, j < k → ∃ b A n c, D = some ⟨b, 0, none⟩ ∧ w.cell? ⟨b, j, none⟩ = some (.slice A n c) ∧ RdK w (fun b => M b ∨ (Value.slice (some ⟨g0, 0, none⟩) 0 0).ownBlock = some b) A n (rs2.getD j []) ∧ Bytes (rs2.getD j []) ∧ n ≤ 1099511627776)
    (hlen : k ≤ 1000000000) (hbase : B0 ≤ w.heap.size) (H : Nat) (hH : w.heap.size = H)
    (h : ∀ A' c' w', Row w' M B0 (.slice A' k c') rs2 → w.grownBy w' (some g0) → (∀ g, (Value.slice A' k c').ownBlock = some g → g = g0 ∨ g = H) → K (a.put o.dst (.slice A' k c')) w') :
    if Region.wanted o (yielded ops a.tmps) = true then Oper.wp Try.prog o a w K Q else E := by
  refine stepR_apps hgd s x ho M B0 _ [] hs hrow hMs D k d rs2 hk hx hD hel (by simpa using hlen) hbase H hH ?_
  intro A' c' w' h1 h2 h3
  have e : ([] : List (List Int)).length + k = k := Nat.zero_add k
  rw [e] at h1 h3 ⊢
  refine h A' c' w' (by simpa using h1) h2 (fun g hg => ?_)
  rcases h3 with h4 | h4
  · rw [h4] at hg
    have e2 : some g0 = some g := hg
    injection e2 with e2
    exact .inl e2.symm
  · rw [h4] at hg
    injection hg with hg
    exact .inr hg.symm
set_option maxHeartbeats 16000000 in
theorem law_plays {w : World} {cap : Int} {A : Option Addr} {m c : Nat} {o : Nat → OpV} (ho : RdO w w.heap.size A m o) (hm : m ≤ 9223372036854775807) :
    Calls Try.prog 4 #[.int .i64 cap, .slice A m c] w fun e w' => e = .returned (.bool true) ∧ Below w.heap.size w w' := by
  have HO := Lib.hid ho
  clear ho
  go_enter Try.func4, Try.ntmps4
  go_wp2_with fail
  refine (anchor_any w).mono ?_
  rintro e w0 ⟨rfl, hb0⟩
  have HB0 := Lib.hid hb0
  clear hb0
  by_cases hc1 : cap < 9
  · have d1 : decide (cap < 9) = true := decide_eq_true hc1
    go_wp2
    go_ret
    exact ⟨rfl, HB0.out⟩
  have d1 : decide (cap < 9) = false := decide_eq_false hc1
  by_cases hc2 : 5000 < cap
  · have d2 : decide (5000 < cap) = true := decide_eq_true hc2
    go_wp2
    go_ret
    exact ⟨rfl, HB0.out⟩
  have d2 : decide (5000 < cap) = false := decide_eq_false hc2
  by_cases hc3 : 40 < m
  · have d3 : decide ((40 : Int) < (m : Int)) = true := by simp; omega
    go_wp2
    go_ret
    exact ⟨rfl, HB0.out⟩
  have d3 : decide ((40 : Int) < (m : Int)) = false := by simp; omega
  have hcap9 : 9 ≤ cap := by omega
  have hcap5 : cap ≤ 5000 := by omega
  go_wp2_with fail
  refine (new_any w0 cap (by omega) (by omega)).mono ?_
  rintro e w1 ⟨db, mb, rfl, hmb, hk1, hb1⟩
  have H1 := Lib.hid hk1
  have HB1 : Hid (Below w.heap.size w w1) := Lib.hid (HB0.out.trans (hb1.mono HB0.out.size))
  have HMB : Hid (w.heap.size ≤ mb) := Lib.hid (by have := HB0.out.size; omega)
  clear hk1 hb1 hmb
  go_wp2_with fail
  refine (open_new (B0 := w.heap.size) H1.out (by omega) rfl rfl (show (0 : Int) ≤ 0 by omega) (show cap ≤ 16777216 by omega) (show (0 : Int) + 9 ≤ cap by omega) HB1.out.size).mono ?_
  rintro e w2 ⟨lb, f1, rfl, hle, hbs1, hn1, hs1, hk2, hL2, hF2, hM2⟩
  have HW2 := Lib.hid (wj_new H1.out HB1.out HMB.out hbs1 hn1 hk2 hL2 hF2)
  have HB2 : Hid (Below w.heap.size w w2) := Lib.hid (HB1.out.trans ((hF2.below H1.out).mono HMB.out))
  clear hk2 hL2 hF2 hM2 hbs1 hn1 hs1 hle d1 d2 d3 hc1 hc2
  go_wp2_with fail
  go_loopw [8, 9, 10, 11, 53] (fun v8 v9 v10 v11 i wr => ∃ j : Nat, j ≤ m ∧ i = .int .i64 (j : Int) ∧ Hid (PlX w wr db mb lb cap j v8 v9 v10 v11)) (fun _ _ _ _ i _ => m - (intOf i).toNat)
  case atStart =>
    exact ⟨0, Nat.zero_le _, rfl, Lib.hid ⟨0, 2, _, f1, _, none, 0, 0, none, 0, [], [], ⟨rfl, rfl, rfl, by rw [logL_length_nil]; rfl, Nat.le_refl _, by omega, by omega, fun _ => rfl, RdY.nil_, HW2.out, Row.nil_ _ _ _, HB2.out, by rw [logL_length_nil]; show (9 : Int) ≤ cap; omega⟩⟩⟩
  case round =>
    obtain ⟨j, hj, rfl, HPX⟩ := hrel
    by_cases hlt : j < m
    · obtain ⟨name, K, F, f, v, BA, bn, bc, RA, rc, bsx, rs, HP0⟩ := HPX.out
      have HP := Lib.hid HP0
      clear HPX HP0
      obtain rfl := HP.out.e8
      obtain rfl := HP.out.e9
      obtain rfl := HP.out.e10
      obtain rfl := HP.out.e11
      obtain ⟨b, off, hA, hbl, x0w, x1w, x2w, hdy, hdb, hks⟩ := HO.out j hlt
      subst hA
      generalize o j = ov at *
      obtain ⟨kd, dA, dn, dc, ds, kA, kn, kc, ks⟩ := ov
      simp only at x0w x1w x2w hdy hdb hks
      have x0 := (HP.out.bel.cell (p := ⟨b, off + j * 3, none⟩) hbl).trans x0w
      have x1 := (HP.out.bel.cell (p := ⟨b, off + j * 3 + 1, none⟩) hbl).trans x1w
      have x2 := (HP.out.bel.cell (p := ⟨b, off + j * 3 + 2, none⟩) hbl).trans x2w
      have HDY := Lib.hid hdy
      have HDB := Lib.hid hdb
      have hji : (j : Int) < (m : Int) := by omega
      clear x0w x1w x2w hdy hdb hks hbl
      by_cases hdn : 300 < dn
      · have e1 : decide ((300 : Int) < (dn : Int)) = true := by simp; omega
        go_wp2
        go_ret
        exact ⟨rfl, HP.out.bel.alloc HP.out.bel.size _⟩
      have e1 : decide ((300 : Int) < (dn : Int)) = false := by simp; omega
      obtain ⟨z, hz⟩ : ∃ z, (logL bsx rs).length = z := ⟨_, rfl⟩
      have HZ := Lib.hid hz
      rw [hz]
      have hzc : (z : Int) ≤ cap := by rw [← hz]; exact HP.out.szc
      have hn9 : IntKind.i64.wrap ((dn : Int) + 9) = ((dn + 9 : Nat) : Int) := by rw [IntWalk.i64_in _ (by omega)]; omega
      have hzn : IntKind.i64.wrap ((z : Int) + ((dn + 9 : Nat) : Int)) = ((z + (dn + 9) : Nat) : Int) := by rw [IntWalk.i64_in _ (by omega)]; omega
      clear hz
      go_upto_block 2 with fail
      obtain ⟨fb, hfb⟩ : ∃ fb, decide ((z : Int) + ((dn : Int) + 9) ≤ cap) = fb := ⟨_, rfl⟩
      rw [hfb]
      have HFB := Lib.hid hfb
      clear hfb
      have HPA := Lib.hid (HP.out.below (w' := wr.alloc (.cells #[.int .i64 kd, .slice dA dn dc, .slice kA kn kc] 53)) ((Below.refl _ _).alloc (Nat.le_refl _) _))
      obtain ⟨W, hW⟩ : ∃ W, wr.alloc (.cells #[.int .i64 kd, .slice dA dn dc, .slice kA kn kc] 53) = W := ⟨_, rfl⟩
      obtain ⟨ob, hob⟩ : ∃ ob, wr.heap.size = ob := ⟨_, rfl⟩
      have hOB : W.heap[ob]? = some (.cells #[.int .i64 kd, .slice dA dn dc, .slice kA kn kc] 53 (0, 0)) := by rw [← hW, ← hob]; exact heap_alloc_new wr _
      have HOB := Lib.hid hOB
      have HOBW : Hid (¬ WM db mb F lb v ob ∧ (Value.slice RA rs.length rc).ownBlock ≠ some ob ∧ w.heap.size ≤ ob) := Lib.hid ⟨fun h => by
          have h1 : ob < wr.heap.size := by
            rcases h with (h2 | h2) | h2
            · exact Nat.lt_of_not_le (fun h3 => HP.out.wj.dk.notMine h3 h2)
            · rw [h2]; exact HP.out.wj.lg.lt
            · exact HP.out.wj.lg.row.block_lt ob h2
          omega, fun h => by have := HP.out.row.block_lt ob h; omega, by rw [← hob]; exact HP.out.bel.size⟩
      rw [hW] at HPA ⊢
      rw [hob]
      have HHOB := Lib.hid hob
      clear hW hob hOB HP x0 x1 x2
      have y0 := cellK_of_heap HOB.out (i := 0) (x := .int .i64 kd) rfl
      have y1 := cellK_of_heap HOB.out (i := 1) (x := .slice dA dn dc) rfl
      go_cut [8, 9, 10, 11] (fun v8 v9 v10 v11 w' => Hid (PlX w w' db mb lb cap (j + 1) v8 v9 v10 v11))
      case first =>
        have HZL : Hid ((logL bsx rs).length = z) := HZ
        by_cases k1 : kd = 1
        · subst k1
          cases fb with
          | true =>
            have hfit : (z : Int) + ((dn : Int) + 9) ≤ cap := of_decide_eq_true HFB.out
            have HAP := Lib.hid (HPA.out.wj.append (c := dc) (by have := HPA.out.kj; omega) (by omega) (HPA.out.wj.input (HDY.out.below HPA.out.bel)) HDB.out (by omega) (by rw [HZL.out]; omega))
            go_wp2_with fail
            refine HAP.out.mono ?_
            rintro e w5 ⟨rfl, F5, f5, v5, hw5, hf5, hm5, _⟩
            have HW5 := Lib.hid hw5
            have HROW5 : Hid (Row w5 (WM db mb F5 lb v5) w.heap.size (.slice RA rs.length rc) rs) := Lib.hid (HPA.out.row.turn hf5 hm5)
            have HB5 : Hid (Below w.heap.size w w5) := Lib.hid (HPA.out.bel.trans (HPA.out.wj.bel hf5))
            have HOB5 : Hid (w5.heap[ob]? = some (.cells #[.int .i64 1, .slice dA dn dc, .slice kA kn kc] 53 (0, 0))) := Lib.hid ((hf5.block ob (heapK_lt HOB.out) HOBW.out.1).trans HOB.out)
            clear hw5 hf5 hm5 HAP y0 y1
            have HMW : Hid (∀ b, (WM db mb F5 lb v5) b → b < w5.heap.size) := Lib.hid (fun b hb => by
              rcases hb with (h2 | h2) | h2
              · exact Nat.lt_of_not_le (fun h3 => HW5.out.dk.notMine h3 h2)
              · rw [h2]; exact HW5.out.lg.lt
              · exact HW5.out.lg.row.block_lt b h2)
            have hs5 : w.heap.size ≤ w5.heap.size := HB5.out.size
            have HRN : Hid (rs.length = 0 → RA = none) := Lib.hid (fun h => HPA.out.rn (List.eq_nil_of_length_eq_zero h))
            have HRL : Hid (rs.length ≤ 1000000) := Lib.hid (by
              have h1 : rs.length ≤ (recsL rs).length := by
                have : ∀ l : List (List Int), l.length ≤ (recsL l).length := fun l => by
                  induction l with
                  | nil => exact Nat.zero_le _
                  | cons y t ih => rw [recsL, List.length_append, frmP_length, List.length_cons]; omega
                exact this rs
              have h2 : (recsL rs).length ≤ (logL bsx rs).length := by unfold logL; rw [List.length_append]; omega
              have h3 := HZL.out
              omega)
            have hdn3 : dn ≤ 1099511627776 := by omega
            have hzn2 : IntKind.i64.wrap ((z : Int) + ((dn : Int) + 9)) = (z : Int) + ((dn : Int) + 9) := IntWalk.i64_in _ (by omega)
            have hrl1 : rs.length ≤ 1000000000 := by have := HRL.out; omega
            have y5 := cellK_of_heap HOB5.out (i := 1) (x := .slice dA dn dc) rfl
            have hobl : ob < w5.heap.size := heapK_lt HOB5.out
            have HDK : Hid (∀ (W : World) (bl : Nat), Below w5.heap.size w5 W → w5.heap.size ≤ bl → RdK W (fun b => (WM db mb F5 lb v5) b ∨ some bl = some b) dA dn ds) := Lib.hid (fun W bl hbW hbl => RdK.of_rd (HDY.out.below (HB5.out.trans (hbW.mono hs5))) (by have := hbW.size; omega) (fun b hb h2 => by
              rcases h2 with h3 | h3
              · have := HW5.out.ge b h3; omega
              · injection h3 with h3; omega))
            have hbX1 : Below w5.heap.size w5 (w5.alloc (.cells #[] 26)).drew := ((Below.refl _ w5).alloc (by simp) _).drew
            have HBX1 := Lib.hid hbX1
            have HE1 : Hid (Row (w5.alloc (.cells #[] 26)).drew (WM db mb F5 lb v5) w.heap.size (.slice (some ⟨w5.heap.size, 0, none⟩) 0 0) []) := Lib.hid (rowE (by show (w5.alloc _).heap[w5.heap.size]? = _; exact heap_alloc_new w5 _) (by omega) (fun h => by have := HMW.out _ h; omega))
            have HL1 := Lib.hid (HROW5.out.els rfl hbX1 (g0 := w5.heap.size) (by omega))
            have HM1 : Hid (∀ b, (WM db mb F5 lb v5) b → b < (w5.alloc (.cells #[] 26)).drew.heap.size) := Lib.hid (fun b hb => by have := HMW.out b hb; simp; omega)
            have hz1 : w.heap.size ≤ (w5.alloc (.cells #[] 26)).drew.heap.size := by simp; omega
            have yx1 : (w5.alloc (.cells #[] 26)).drew.cell? ⟨ob, 1, none⟩ = some (.slice dA dn dc) := (hbX1.cell (p := ⟨ob, 1, none⟩) hobl).trans y5
            clear hbX1
            have hbX2 : Below w5.heap.size w5 ((w5.alloc (.cells #[] 26)).alloc (.cells #[.slice dA dn dc] 26)).drew := (((Below.refl _ w5).alloc (by simp) _).alloc (by simp) _).drew
            have HBX2 := Lib.hid hbX2
            have HE2 : Hid (Row ((w5.alloc (.cells #[] 26)).alloc (.cells #[.slice dA dn dc] 26)).drew (WM db mb F5 lb v5) w.heap.size (.slice (some ⟨w5.heap.size, 0, none⟩) 0 0) []) := Lib.hid (rowE (by show ((w5.alloc _).alloc _).heap[w5.heap.size]? = _; rw [Below.heap_alloc _ _ _ (by simp)]; exact heap_alloc_new w5 _) (by omega) (fun h => by have := HMW.out _ h; omega))
            have HL2 := Lib.hid (HROW5.out.els rfl hbX2 (g0 := w5.heap.size) (by omega))
            have HM2 : Hid (∀ b, (WM db mb F5 lb v5) b → b < ((w5.alloc (.cells #[] 26)).alloc (.cells #[.slice dA dn dc] 26)).drew.heap.size) := Lib.hid (fun b hb => by have := HMW.out b hb; simp; omega)
            have hz2 : w.heap.size ≤ ((w5.alloc (.cells #[] 26)).alloc (.cells #[.slice dA dn dc] 26)).drew.heap.size := by simp; omega
            have yx2 : ((w5.alloc (.cells #[] 26)).alloc (.cells #[.slice dA dn dc] 26)).drew.cell? ⟨ob, 1, none⟩ = some (.slice dA dn dc) := (hbX2.cell (p := ⟨ob, 1, none⟩) hobl).trans y5
            clear hbX2
            have hbX3 : Below w5.heap.size w5 ((w5.alloc (.cells #[.slice dA dn dc] 26)).alloc (.cells #[] 26)).drew := (((Below.refl _ w5).alloc (by simp) _).alloc (by simp) _).drew
            have HBX3 := Lib.hid hbX3
            have HE3 : Hid (Row ((w5.alloc (.cells #[.slice dA dn dc] 26)).alloc (.cells #[] 26)).drew (WM db mb F5 lb v5) w.heap.size (.slice (some ⟨(w5.heap.size + 1), 0, none⟩) 0 0) []) := Lib.hid (rowE (by have h := heap_alloc_new (w5.alloc (.cells #[.slice dA dn dc] 26)) (.cells #[] 26); rw [World.size_alloc] at h; exact h) (by omega) (fun h => by have := HMW.out _ h; omega))
            have HL3 := Lib.hid (HROW5.out.els rfl hbX3 (g0 := (w5.heap.size + 1)) (by omega))
            have HM3 : Hid (∀ b, (WM db mb F5 lb v5) b → b < ((w5.alloc (.cells #[.slice dA dn dc] 26)).alloc (.cells #[] 26)).drew.heap.size) := Lib.hid (fun b hb => by have := HMW.out b hb; simp; omega)
            have hz3 : w.heap.size ≤ ((w5.alloc (.cells #[.slice dA dn dc] 26)).alloc (.cells #[] 26)).drew.heap.size := by simp; omega
            have yx3 : ((w5.alloc (.cells #[.slice dA dn dc] 26)).alloc (.cells #[] 26)).drew.cell? ⟨ob, 1, none⟩ = some (.slice dA dn dc) := (hbX3.cell (p := ⟨ob, 1, none⟩) hobl).trans y5
            clear hbX3
            have yS : (w5.alloc (.cells #[.slice dA dn dc] 26)).drew.cell? ⟨ob, 1, none⟩ = some (.slice dA dn dc) := (World.cell?_alloc_lt w5 _ ⟨ob, 1, none⟩ hobl).trans y5
            go_wp2_with fail
            go_region_law (first
              | (refine stepR_apps0 (by rfl) _ _ (by rfl) (WM db mb F5 lb v5) w.heap.size w5.heap.size (by rfl) HE1.out HM1.out RA rs.length rc rs (by rfl) (by rfl) HRN.out HL1.out hrl1 hz1 (w5.heap.size + 1) (by simp) ?_; intro A7 c7 w7 hrow7 hg7 hat7; (have hb7 : Below w5.heap.size w5 w7 := HBX1.out.grown hg7 HBX1.out.size (fun x hx => by injection hx with hx; omega)); (have y7 := (hb7.cell (p := ⟨ob, 1, none⟩) hobl).trans y5); (have HB7 := Lib.hid hb7); (have hz7 := hb7.size); (have hG7 : ∀ x, (Value.slice A7 rs.length c7).ownBlock = some x → w5.heap.size ≤ x := fun x hx => by rcases hat7 x hx with h | h <;> omega); (have HG7 := Lib.hid hG7); (have y7S : (w7.alloc (.cells #[.slice dA dn dc] 26)).cell? ⟨ob, 1, none⟩ = some (.slice dA dn dc) := (World.cell?_alloc_lt w7 _ ⟨ob, 1, none⟩ (show ob < w7.heap.size by omega)).trans y7); (have HR7 := Lib.hid (hrow7.below ((Below.refl _ w7).alloc (Nat.le_refl _) (.cells #[.slice dA dn dc] 26)))); (have HM7 : Hid (∀ b, (WM db mb F5 lb v5) b → b < (w7.alloc (.cells #[.slice dA dn dc] 26)).heap.size) := Lib.hid (fun b hb => by (have := HMW.out b hb); simp; omega)); (have hc7 : (w7.alloc (.cells #[.slice dA dn dc] 26)).cell? ⟨w7.heap.size, 0, none⟩ = some (.slice dA dn dc) := cellK_of_heap (heap_alloc_new w7 (.cells #[.slice dA dn dc] 26)) (i := 0) (x := .slice dA dn dc) rfl); (have HK7 : Hid (RdK (w7.alloc (.cells #[.slice dA dn dc] 26)) (fun b => (WM db mb F5 lb v5) b ∨ (Value.slice A7 rs.length c7).ownBlock = some b) dA dn ds) := Lib.hid (RdK.of_rd (HDY.out.below ((HB5.out.trans (hb7.mono hs5)).alloc (by omega) _)) (by simp; omega) (fun b hb h2 => by rcases h2 with h3 | h3; (· have := HW5.out.ge b h3; omega); (· have := HG7.out b h3; omega)))); (have hzz7 : w.heap.size ≤ (w7.alloc (.cells #[.slice dA dn dc] 26)).heap.size := by simp; omega); clear hrow7 hg7 hat7 hb7 hG7)
              | (refine stepR_apps0 (by rfl) _ _ (by rfl) (WM db mb F5 lb v5) w.heap.size w5.heap.size (by rfl) HE2.out HM2.out RA rs.length rc rs (by rfl) (by rfl) HRN.out HL2.out hrl1 hz2 (w5.heap.size + 1 + 1) (by simp) ?_; intro A7 c7 w7 hrow7 hg7 hat7; (have hb7 : Below w5.heap.size w5 w7 := HBX2.out.grown hg7 HBX2.out.size (fun x hx => by injection hx with hx; omega)); (have y7 := (hb7.cell (p := ⟨ob, 1, none⟩) hobl).trans y5); (have HB7 := Lib.hid hb7); (have hz7 := hb7.size); (have hG7 : ∀ x, (Value.slice A7 rs.length c7).ownBlock = some x → w5.heap.size ≤ x := fun x hx => by rcases hat7 x hx with h | h <;> omega); (have HG7 := Lib.hid hG7); (have HR7 := Lib.hid hrow7); (have HM7 : Hid (∀ b, (WM db mb F5 lb v5) b → b < w7.heap.size) := Lib.hid (fun b hb => by (have := HMW.out b hb); omega)); (have hS0 : ((w5.alloc (.cells #[] 26)).alloc (.cells #[.slice dA dn dc] 26)).drew.heap[(w5.heap.size + 1)]? = some (.cells #[.slice dA dn dc] 26 (0, 0)) := by have h := heap_alloc_new (w5.alloc (.cells #[] 26)) (.cells #[.slice dA dn dc] 26); rw [World.size_alloc] at h; exact h); (have hc7 : w7.cell? ⟨(w5.heap.size + 1), 0, none⟩ = some (.slice dA dn dc) := cellK_of_heap ((hg7.block (w5.heap.size + 1) (by simp) (by simp)).trans hS0) (i := 0) (x := .slice dA dn dc) rfl); (have HK7 : Hid (RdK w7 (fun b => (WM db mb F5 lb v5) b ∨ (Value.slice A7 rs.length c7).ownBlock = some b) dA dn ds) := Lib.hid (RdK.of_rd (HDY.out.below (HB5.out.trans (hb7.mono hs5))) (by omega) (fun b hb h2 => by rcases h2 with h3 | h3; (· have := HW5.out.ge b h3; omega); (· have := HG7.out b h3; omega)))); (have hzz7 : w.heap.size ≤ w7.heap.size := by omega); clear hS0; clear hrow7 hg7 hat7 hb7 hG7)
              | (refine stepR_apps0 (by rfl) _ _ (by rfl) (WM db mb F5 lb v5) w.heap.size (w5.heap.size + 1) (by rfl) HE3.out HM3.out RA rs.length rc rs (by rfl) (by rfl) HRN.out HL3.out hrl1 hz3 (w5.heap.size + 1 + 1) (by simp) ?_; intro A7 c7 w7 hrow7 hg7 hat7; (have hb7 : Below w5.heap.size w5 w7 := HBX3.out.grown hg7 HBX3.out.size (fun x hx => by injection hx with hx; omega)); (have y7 := (hb7.cell (p := ⟨ob, 1, none⟩) hobl).trans y5); (have HB7 := Lib.hid hb7); (have hz7 := hb7.size); (have hG7 : ∀ x, (Value.slice A7 rs.length c7).ownBlock = some x → w5.heap.size ≤ x := fun x hx => by rcases hat7 x hx with h | h <;> omega); (have HG7 := Lib.hid hG7); (have HR7 := Lib.hid hrow7); (have HM7 : Hid (∀ b, (WM db mb F5 lb v5) b → b < w7.heap.size) := Lib.hid (fun b hb => by (have := HMW.out b hb); omega)); (have hS0 : ((w5.alloc (.cells #[.slice dA dn dc] 26)).alloc (.cells #[] 26)).drew.heap[w5.heap.size]? = some (.cells #[.slice dA dn dc] 26 (0, 0)) := by (show ((w5.alloc _).alloc _).heap[w5.heap.size]? = _); rw [Below.heap_alloc _ _ _ (by simp)]; exact heap_alloc_new w5 _); (have hc7 : w7.cell? ⟨w5.heap.size, 0, none⟩ = some (.slice dA dn dc) := cellK_of_heap ((hg7.block w5.heap.size (by simp; omega) (by simp)).trans hS0) (i := 0) (x := .slice dA dn dc) rfl); (have HK7 : Hid (RdK w7 (fun b => (WM db mb F5 lb v5) b ∨ (Value.slice A7 rs.length c7).ownBlock = some b) dA dn ds) := Lib.hid (RdK.of_rd (HDY.out.below (HB5.out.trans (hb7.mono hs5))) (by omega) (fun b hb h2 => by rcases h2 with h3 | h3; (· have := HW5.out.ge b h3; omega); (· have := HG7.out b h3; omega)))); (have hzz7 : w.heap.size ≤ w7.heap.size := by omega); clear hS0; clear hrow7 hg7 hat7 hb7 hG7)
              | (refine stepR_app (by rfl) _ _ (by rfl) (WM db mb F5 lb v5) w.heap.size (.slice A7 rs.length c7) rs (by rfl) HR7.out HM7.out w7.heap.size dA dn dc ds (by rfl) hc7 hrl1 hzz7 HK7.out HDB.out hdn3 (w7.heap.size + 1) (by simp) ?_; intro g9 c9 w9 hrow9 hg9 hat9; (have hb9 : Below w5.heap.size w5 w9 := (HB7.out.alloc hz7 (.cells #[.slice dA dn dc] 26)).grown hg9 (by simp; omega) (fun x hx => HG7.out x hx)); (have HP9 : Hid (PlX w w9 db mb lb cap (j + 1) (.slice BA bn bc) (.slice (some ⟨g9, 0, none⟩) (rs.length + 1) c9) (.int .i64 (name : Int)) (.int .i64 ((z : Int) + ((dn : Int) + 9)))) := Lib.hid ⟨name, K + 1, F5, f5, v5, BA, bn, bc, some ⟨g9, 0, none⟩, c9, bsx, rs ++ [ds], ⟨rfl, (by rw [List.length_append]; rfl), rfl, (by rw [logL_length_snoc, HZL.out, HDY.out.1]; congr 1), (by have := HPA.out.nj; omega), (by have := HPA.out.kj; omega), HPA.out.bn3, (fun h => by simp at h), HPA.out.base, HW5.out.below hb9, (by rw [List.length_append]; exact hrow9), HB5.out.trans (hb9.mono hs5), (by rw [logL_length_snoc, HZL.out, HDY.out.1]; omega)⟩⟩); clear hrow9 hg9 hat9 hb9)
              | (refine stepR_app (by rfl) _ _ (by rfl) (WM db mb F5 lb v5) w.heap.size (.slice A7 rs.length c7) rs (by rfl) HR7.out HM7.out (w5.heap.size + 1) dA dn dc ds (by rfl) hc7 hrl1 hzz7 HK7.out HDB.out hdn3 w7.heap.size rfl ?_; intro g9 c9 w9 hrow9 hg9 hat9; (have hb9 : Below w5.heap.size w5 w9 := HB7.out.grown hg9 hz7 (fun x hx => HG7.out x hx)); (have HP9 : Hid (PlX w w9 db mb lb cap (j + 1) (.slice BA bn bc) (.slice (some ⟨g9, 0, none⟩) (rs.length + 1) c9) (.int .i64 (name : Int)) (.int .i64 ((z : Int) + ((dn : Int) + 9)))) := Lib.hid ⟨name, K + 1, F5, f5, v5, BA, bn, bc, some ⟨g9, 0, none⟩, c9, bsx, rs ++ [ds], ⟨rfl, (by rw [List.length_append]; rfl), rfl, (by rw [logL_length_snoc, HZL.out, HDY.out.1]; congr 1), (by have := HPA.out.nj; omega), (by have := HPA.out.kj; omega), HPA.out.bn3, (fun h => by simp at h), HPA.out.base, HW5.out.below hb9, (by rw [List.length_append]; exact hrow9), HB5.out.trans (hb9.mono hs5), (by rw [logL_length_snoc, HZL.out, HDY.out.1]; omega)⟩⟩); clear hrow9 hg9 hat9 hb9)
              | (refine stepR_app (by rfl) _ _ (by rfl) (WM db mb F5 lb v5) w.heap.size (.slice A7 rs.length c7) rs (by rfl) HR7.out HM7.out w5.heap.size dA dn dc ds (by rfl) hc7 hrl1 hzz7 HK7.out HDB.out hdn3 w7.heap.size rfl ?_; intro g9 c9 w9 hrow9 hg9 hat9; (have hb9 : Below w5.heap.size w5 w9 := HB7.out.grown hg9 hz7 (fun x hx => HG7.out x hx)); (have HP9 : Hid (PlX w w9 db mb lb cap (j + 1) (.slice BA bn bc) (.slice (some ⟨g9, 0, none⟩) (rs.length + 1) c9) (.int .i64 (name : Int)) (.int .i64 ((z : Int) + ((dn : Int) + 9)))) := Lib.hid ⟨name, K + 1, F5, f5, v5, BA, bn, bc, some ⟨g9, 0, none⟩, c9, bsx, rs ++ [ds], ⟨rfl, (by rw [List.length_append]; rfl), rfl, (by rw [logL_length_snoc, HZL.out, HDY.out.1]; congr 1), (by have := HPA.out.nj; omega), (by have := HPA.out.kj; omega), HPA.out.bn3, (fun h => by simp at h), HPA.out.base, HW5.out.below hb9, (by rw [List.length_append]; exact hrow9), HB5.out.trans (hb9.mono hs5), (by rw [logL_length_snoc, HZL.out, HDY.out.1]; omega)⟩⟩); clear hrow9 hg9 hat9 hb9))
            all_goals (go_wp2_with fail)
            all_goals go_meet
            all_goals (first | exact HP9 | (rw [hzn2]; exact HP9))
          | false =>
            have hfit : ¬ (z : Int) + ((dn : Int) + 9) ≤ cap := of_decide_eq_false HFB.out
            have HAP := Lib.hid (lappend_full (c := dc) HPA.out.wj.dk HPA.out.wj.lg HPA.out.wj.vdb HPA.out.wj.vcl rfl (show (0 : Int) ≤ ((logL bsx rs).length : Int) by omega) (show ((logL bsx rs).length : Int) ≤ 16777216 by rw [HZL.out]; omega) HPA.out.wj.vnm (by omega) (by have := HPA.out.nj; omega) (HDY.out.below HPA.out.bel) HPA.out.bel.size HDB.out (by omega) (show cap < ((logL bsx rs).length : Int) + _ by rw [HZL.out]; omega))
            go_wp2_with fail
            refine HAP.out.mono ?_
            rintro e w5 ⟨rfl, hb5⟩
            have HP5 := Lib.hid (HPA.out.below hb5)
            clear hb5 HAP y0 y1
            go_wp2_with fail
            go_meet
            exact Lib.hid ⟨name, K, F, f, v, BA, bn, bc, RA, rc, bsx, rs, by have h := HP5.out.more (Nat.le_succ j); rw [HZL.out] at h; exact h⟩
        have q1 : (kd == 1) = false := beq_eq_false_iff_ne.2 k1
        by_cases k2 : kd = 2
        · subst k2
          have HSY := Lib.hid (HPA.out.wj.sync (by have := HPA.out.kj; omega))
          go_wp2_with fail
          refine HSY.out.mono ?_
          rintro e w5 ⟨rfl, F5, f5, hw5, hf5, hm5, _⟩
          have HP5 : Hid (PlX w w5 db mb lb cap (j + 1) (.slice BA bn bc) (.slice RA rs.length rc) (.int .i64 (name : Int)) (.int .i64 (z : Int))) := Lib.hid ⟨name, K + 1, F5, f5, v, BA, bn, bc, RA, rc, bsx, rs,
            ⟨rfl, rfl, rfl, by rw [HZL.out], by have := HPA.out.nj; omega, by have := HPA.out.kj; omega, HPA.out.bn3, HPA.out.rn, HPA.out.base, hw5, HPA.out.row.turn hf5 hm5, HPA.out.bel.trans (HPA.out.wj.bel hf5), HPA.out.szc⟩⟩
          clear hw5 hf5 hm5 HSY y0 y1
          go_wp2_with fail
          go_meet
          exact HP5
        have q2 : (kd == 2) = false := beq_eq_false_iff_ne.2 k2
        by_cases k3 : kd = 3
        · subst k3
          cases fb with
          | true =>
            have hfit : (z : Int) + ((dn : Int) + 9) ≤ cap := of_decide_eq_true HFB.out
            have HRT := Lib.hid (HPA.out.wj.rotate (c := dc) (by have := HPA.out.kj; omega) (by omega) (by have := HPA.out.nj; omega) (HPA.out.wj.input (HDY.out.below HPA.out.bel)) HDB.out (by omega) (by rw [HZL.out]; omega))
            have hnm : IntKind.i64.wrap ((name : Int) + 1) = ((name + 1 : Nat) : Int) := by rw [IntWalk.i64_in _ (by have := HPA.out.nj; omega)]; omega
            go_wp2_with fail
            refine HRT.out.mono ?_
            rintro e w5 ⟨rfl, F5, f5, v5, hw5, hf5, hm5, _⟩
            have hob5 : w5.heap[ob]? = some (.cells #[.int .i64 3, .slice dA dn dc, .slice kA kn kc] 53 (0, 0)) := (hf5.block ob (heapK_lt HOB.out) HOBW.out.1).trans HOB.out
            have HP5 : Hid (PlX w w5 db mb lb cap (j + 1) (.slice dA dn dc) (.slice none 0 0) (.int .i64 ((name : Int) + 1)) (.int .i64 ((dn : Int) + 9))) := Lib.hid ⟨name + 1, K + 2, F5, f5, v5, dA, dn, dc, none, 0, ds, [],
              ⟨rfl, rfl, (by congr 1), (by rw [logL_length_nil, HDY.out.1]; congr 1), by have := HPA.out.nj; omega, by have := HPA.out.kj; omega, by omega, fun _ => rfl, HDY.out, hw5, Row.nil_ _ _ _, HPA.out.bel.trans (HPA.out.wj.bel hf5), by rw [logL_length_nil, HDY.out.1]; omega⟩⟩
            have y5 := cellK_of_heap hob5 (i := 1) (x := .slice dA dn dc) rfl
            clear hw5 hf5 hm5 HRT y0 y1 hob5
            go_wp2_with fail
            go_meet
            exact HP5
          | false =>
            have hfit : ¬ (z : Int) + ((dn : Int) + 9) ≤ cap := of_decide_eq_false HFB.out
            have HAP := Lib.hid (rotate_full (c := dc) HPA.out.wj.dk HPA.out.wj.lg HPA.out.wj.vdb HPA.out.wj.vcl rfl (show (0 : Int) ≤ ((logL bsx rs).length : Int) by omega) (show ((logL bsx rs).length : Int) ≤ 16777216 by rw [HZL.out]; omega) HPA.out.wj.vnm (by omega) (by have := HPA.out.nj; omega) (HDY.out.below HPA.out.bel) HPA.out.bel.size HDB.out (by omega) (show cap < ((logL bsx rs).length : Int) + _ by rw [HZL.out]; omega))
            go_wp2_with fail
            refine HAP.out.mono ?_
            rintro e w5 ⟨rfl, hb5⟩
            have HP5 := Lib.hid (HPA.out.below hb5)
            clear hb5 HAP y0 y1
            go_wp2_with fail
            go_meet
            exact Lib.hid ⟨name, K, F, f, v, BA, bn, bc, RA, rc, bsx, rs, by have h := HP5.out.more (Nat.le_succ j); rw [HZL.out] at h; exact h⟩
        have q3 : (kd == 3) = false := beq_eq_false_iff_ne.2 k3
        clear y1
        go_wp2_with fail
        go_meet
        exact Lib.hid ⟨name, K, F, f, v, BA, bn, bc, RA, rc, bsx, rs, by have h := HPA.out.more (Nat.le_succ j); rw [HZL.out] at h; exact h⟩
      case rest =>
        clear y0 y1 HPA HOB HOBW HHOB HFB HDY HDB
        obtain ⟨name, K, F, f, v, BA, bn, bc, RA, rc, bsx, rs, HP0⟩ := hcut.out
        have HP := Lib.hid HP0
        clear hcut HP0
        obtain rfl := HP.out.e8
        obtain rfl := HP.out.e9
        obtain rfl := HP.out.e10
        obtain rfl := HP.out.e11
        obtain ⟨z, hz⟩ : ∃ z, (logL bsx rs).length = z := ⟨_, rfl⟩
        have HZ := Lib.hid hz
        rw [hz]
        have hzc : (z : Int) ≤ cap := by rw [← hz]; exact HP.out.szc
        have hrl : rs.length ≤ 1000000 := by
          have h1 : rs.length ≤ (recsL rs).length := by
            have : ∀ l : List (List Int), l.length ≤ (recsL l).length := fun l => by
              induction l with
              | nil => exact Nat.zero_le _
              | cons y t ih => rw [recsL, List.length_append, frmP_length, List.length_cons]; omega
            exact this rs
          have h2 : (recsL rs).length ≤ (logL bsx rs).length := by unfold logL; rw [List.length_append]; omega
          omega
        clear hz
        have hbn3 : bn ≤ 300 := HP.out.bn3
        have HF0 := Lib.hid (refFrm_any (c := bc) (mk := 0) (HP.out.base.below HP.out.bel) HP.out.wj.lg.bb (by omega) (by omega) (by omega) HP.out.bel.size)
        go_wp2_with fail
        refine HF0.out.mono ?_
        rintro e w3 ⟨A3, c3, rfl, hown3, hb3⟩
        have HO3 := Lib.hid hown3
        have HB3 := Lib.hid hb3
        clear hown3 hb3 HF0
        go_wp2_with fail
        go_loopw [18, 136] (fun s i wr => ∃ (q n c : Nat) (A : Option Addr), q ≤ rs.length ∧ i = .int .i64 (q : Int) ∧ s = .slice A n c ∧ Hid (n = (logL bsx (rs.take q)).length) ∧ Hid (OwnY wr wc.heap.size (.slice A n c) n (logL bsx (rs.take q))) ∧ Hid (Below wc.heap.size wc wr)) (fun _ i _ => rs.length - (intOf i).toNat)
        case atStart =>
          refine ⟨0, bn + 9, c3, A3, Nat.zero_le _, rfl, rfl, Lib.hid ?_, Lib.hid ?_, HB3⟩
          · rw [List.take_zero, logL_nil, frmP_length, HP.out.base.1]
          · rw [List.take_zero, logL_nil]; exact HO3.out
        case round =>
          obtain ⟨q, n, c, A, hq, rfl, rfl, HN, HOW, HBQ⟩ := hrel
          by_cases hlt2 : q < rs.length
          · obtain ⟨b2, P, pn, pd, eA, hc, hr, hby, hpn, _, _⟩ := (HP.out.row.below HBQ.out).at_ hlt2
            have hok := HP.out.wj.lg.rb _ (getD_mem hlt2)
            have hpl : pn ≤ 65535 := by have := hok.2; rw [hr.1] at this; exact this
            have HXL : Hid ((rs.getD q []).length = pn) := Lib.hid hr.1
            have HF1 := Lib.hid (refFrm_any (c := pd) (mk := 1) hr.rd hby (by omega) (by omega) hpl (Nat.le_refl _))
            have hn2 : n + (pn + 9) ≤ z := by
              have h1 : (logL bsx (rs.take (q + 1))).length ≤ (logL bsx rs).length := by
                unfold logL
                rw [List.length_append, List.length_append]
                have h2 := congrArg recsL (List.take_append_drop (q + 1) rs)
                rw [recsL_append] at h2
                have h3 := congrArg List.length h2
                rw [List.length_append] at h3
                omega
              rw [take_snocR rs q hlt2, logL_length_snoc, ← HN.out, HXL.out] at h1
              rw [← HZ.out]; exact h1
            have hs1 : wc.heap.size ≤ wr.heap.size := HBQ.out.size
            clear hr hby hok
            subst eA
            go_wp2_with (first
              | (go_at_call 27; refine HF1.out.mono ?_; rintro e w4 ⟨A4, c4, rfl, hown4, hb4⟩; (have HO4 : Hid (OwnY w4 wc.heap.size (.slice A n c) n (logL bsx (rs.take q))) := Lib.hid (HOW.out.kept hb4)); (have HR4 := Lib.hid (hown4.rd (Below.refl _ _))); (have HB4 : Hid (Below wc.heap.size wc w4) := Lib.hid (HBQ.out.trans (hb4.mono hs1))); (have hs4 : wc.heap.size ≤ w4.heap.size := HB4.out.size); clear hown4 hb4 HF1)
              | (at_builtin; refine wplY_apps rfl _ _ rfl wc.heap.size _ n _ rfl HO4.out w4.heap.size A4 (pn + 9) c4 (frmP 1 (rs.getD q [])) rfl HR4.out (by omega) hs4 ?_; intro v5 w5 hown5 hg5 hat5; (have HB5 : Hid (Below wc.heap.size wc w5) := Lib.hid (HB4.out.grown hg5 hs4 HO4.out.ge)); obtain ⟨A5, c5, rfl, _⟩ := hown5.shape; (have HO5 := Lib.hid hown5); clear hown5 hg5 hat5))
            go_roundw
            case rel =>
              refine ⟨q + 1, n + (pn + 9), c5, A5, by omega, by go_num, rfl, Lib.hid ?_, Lib.hid ?_, HB5⟩
              · rw [take_snocR rs q hlt2, logL_length_snoc, ← HN.out, HXL.out]
              · rw [take_snocR rs q hlt2, logL_snoc]; exact HO5.out
            case measure => simp [intOf]; omega
          · obtain rfl : q = rs.length := by omega
            have hz3 : n = z := by rw [HN.out, List.take_length]; exact HZ.out
            subst hz3
            have HALL : Hid (OwnY wr wc.heap.size (.slice A n c) n (logL bsx rs)) := Lib.hid (by have := HOW.out; rw [List.take_length] at this; exact this)
            have HW1 := Lib.hid (HP.out.wj.below (HBQ.out.mono (Nat.le_refl _)))
            have HRD := Lib.hid (read_some HW1.out.dk rfl HW1.out.one)
            have hfn : f.n = n := by rw [HW1.out.fn]; exact HZ.out
            have hfb : f.bs = logL bsx rs := HW1.out.fb
            rw [hfn, hfb] at HRD
            have hs1 : wc.heap.size ≤ wr.heap.size := HBQ.out.size
            have HBW : Hid (Below w.heap.size w wr) := Lib.hid (HP.out.bel.trans (HBQ.out.mono HP.out.bel.size))
            clear hfn hfb HN HOW
            go_wp2_with fail
            refine HRD.out.mono ?_
            rintro e w3 ⟨A3, c3, rfl, hown3, hb3⟩
            have HB3 : Hid (Below w.heap.size w w3) := Lib.hid (HBW.out.trans (hb3.mono HBW.out.size))
            have HW3 := Lib.hid (HW1.out.below hb3)
            have HROW3 : Hid (Row w3 (WM db mb F lb v) w.heap.size (.slice RA rs.length rc) rs) := Lib.hid ((HP.out.row.below HBQ.out).below hb3)
            have HSM := Lib.hid (sameY_any (c := c3) (d := c) (hown3.rd (Below.refl _ _)) ((HALL.out.rd hb3).more hb3.size) (by omega) (by omega))
            have hyy : sameY (logL bsx rs) (logL bsx rs) = true := sameY_refl _
            rw [hyy] at HSM
            have HPL3 := Lib.hid ((HP.out.below HBQ.out).below hb3)
            clear hown3 hb3 hyy HRD HALL
            have HZI : Hid (((logL bsx rs).length : Int) = (n : Int)) := Lib.hid (by rw [HZ.out])
            have hjj : ((name : Int) == (name : Int)) = true := by simp
            have hzz : ((n : Int) == (n : Int)) = true := by simp
            have hvbn : v.bn = bn := by rw [← HW3.out.lg.base.1, HP.out.base.1]
            have HVB := Lib.hid hvbn
            clear hvbn
            go_wp2_with (first
              | (go_at_call 18; refine HSM.out.mono ?_; rintro e w4 ⟨rfl, q4, hq4⟩; (have hb4 : Below w3.heap.size w3 w4 := by rw [hq4]; exact below_drewN (Below.refl _ _) q4); (have HB4 : Hid (Below w.heap.size w w4) := Lib.hid (HB3.out.trans (hb4.mono HB3.out.size))); (have HW4 := Lib.hid (HW3.out.below hb4)); (have HPL4 := Lib.hid (HPL3.out.below hb4)); (have HROW4 := Lib.hid (HROW3.out.below hb4)); (have HSZ := Lib.hid (size_any HW4.out.dk)); simp only at HSZ; rw [HZI.out] at HSZ; clear hb4 hq4 HSM)
              | (go_at_call 22; refine HSZ.out.mono ?_; rintro e w5 ⟨rfl, hw5⟩; subst hw5; clear HSZ; (have HLS := Lib.hid (lsize_any HW4.out.lg)); rw [HW4.out.vsz, HZI.out] at HLS)
              | (go_at_call 17; refine HLS.out.mono ?_; rintro e w5 ⟨rfl, hw5⟩; subst hw5; clear HLS; (have HNM := Lib.hid (name_any HW4.out.lg)); rw [HW4.out.vnm] at HNM)
              | (go_at_call 16; refine HNM.out.mono ?_; rintro e w5 ⟨rfl, hw5⟩; subst hw5; clear HNM; (have HBA := Lib.hid (base_any HW4.out.lg)); rw [HVB.out] at HBA)
              | (go_at_call 19; refine HBA.out.mono ?_; rintro e w5 ⟨A5, c5, rfl, ho5, hb5⟩; (have HB5 : Hid (Below w.heap.size w w5) := Lib.hid (HB4.out.trans (hb5.mono HB4.out.size))); (have HW5 := Lib.hid (HW4.out.below hb5)); (have HPL5 := Lib.hid (HPL4.out.below hb5)); (have HROW5 := Lib.hid (HROW4.out.below hb5)); (have HSB := Lib.hid (sameY_any (c := c5) (d := bc) (ho5.rd (Below.refl _ _)) ((HP.out.base.below HB5.out).more HB5.out.size) (by omega) (by omega))); rw [sameY_refl bsx] at HSB; clear ho5 hb5 HBA)
              | (go_at_call 18; refine HSB.out.mono ?_; rintro e w6 ⟨rfl, q6, hq6⟩; (have hb6 : Below w5.heap.size w5 w6 := by rw [hq6]; exact below_drewN (Below.refl _ _) q6); (have HB6 : Hid (Below w.heap.size w w6) := Lib.hid (HB5.out.trans (hb6.mono HB5.out.size))); (have HPL6 := Lib.hid (HPL5.out.below hb6)); (have HROW6 := Lib.hid (HROW5.out.below hb6)); (have HRC := Lib.hid (records_any (HW5.out.below hb6).lg (by omega))); clear hb6 hq6 HSB)
              | (go_at_call 21; refine HRC.out.mono ?_; rintro e w7 ⟨A7, c7, rfl, hrow7, hb7⟩; (have HB7 : Hid (Below w.heap.size w w7) := Lib.hid (HB6.out.trans (hb7.mono HB6.out.size))); (have HPL7 := Lib.hid (HPL6.out.below hb7)); (have HROW7 := Lib.hid (HROW6.out.below hb7)); (have HS14 := Lib.hid (same14_any (c := c7) (d := rc) hrow7.rdT HROW7.out.rdT (by omega) (by omega))); rw [sameT_yes (fun _ _ => rfl)] at HS14; clear hrow7 hb7 HRC)
              | (go_at_call 20; refine HS14.out.mono ?_; rintro e w8 ⟨rfl, q8, hq8⟩; (have hb8 : Below w7.heap.size w7 w8 := by rw [hq8]; exact below_drewN (Below.refl _ _) q8); (have HB8 : Hid (Below w.heap.size w w8) := Lib.hid (HB7.out.trans (hb8.mono HB7.out.size))); (have HP8 : Hid (PlX w w8 db mb lb cap (j + 1) (.slice BA bn bc) (.slice RA rs.length rc) (.int .i64 (name : Int)) (.int .i64 (n : Int))) := Lib.hid ⟨name, K, F, f, v, BA, bn, bc, RA, rc, bsx, rs, by have h := HPL7.out.below hb8; rw [HZ.out] at h; exact h⟩); clear hq8 HS14))
            go_roundw
            case rel => exact ⟨j + 1, by omega, by go_num, HP8⟩
            case measure => simp [intOf]; omega
    · go_wp2
      go_ret
      obtain ⟨name, K, F, f, v, BA, bn, bc, RA, rc, bsx, rs, HP0⟩ := HPX.out
      exact ⟨rfl, HP0.bel⟩
end Go.Proofs.Yticklaophgekeaa
