/-
  THE WALK of the statement WalLasts, over this translation.
-/
import Derived.Test.YtadajkgiijpakaaWLs2
import Derived.Test.YtadajkgiijpakaaWRows
import Derived.Test.YtadajkgiijpakaaWOpO
import Derived.BigRegion
import Derived.Deep.RegionLaw
import Derived.Deep.CutBlock
import Derived.Deep.DeepCutAuto
namespace Go.Proofs.Ytadajkgiijpakaa
open Go.RowKit
open ByteP
set_option linter.unusedVariables false
set_option maxRecDepth 10000
structure LI (w wr : World) (db mb j : Nat) (v6 v8 v9 v10 v11 v12 v13 : Value) (lb K : Nat) (n : Nm) (F : Int → Option Fi) (v : LgV) (name : Nat) (f : Fi) (bs : List Int) (rs : List (List Int)) (safe : Nat) (rot : Bool) (nx : List Int) (BA : Option Addr) (bc : Nat) (NA : Option Addr) (nn nc : Nat) (RA : Option Addr) (rc lv : Nat) : Prop where
  e6 : v6 = .pointer (some ⟨lb, 0, none⟩)
  e8 : v8 = .slice BA bs.length bc
  e9 : v9 = .slice NA nn nc
  e10 : v10 = .slice RA rs.length rc
  e11 : v11 = .int .i64 (safe : Int)
  e12 : v12 = .bool rot
  e13 : v13 = .int .i64 (lv : Int)
  kj : K ≤ 10 + 10 * j
  nj : name ≤ j
  lj : lv ≤ j
  ls : LS w wr db mb lb K n F v name f bs rs safe rot nx (9 + 309 * (j : Int))
  base : RdK wr (WM db mb F lb v) BA bs.length bs
  nxt : rot = true → RdY w w.heap.size NA nn nx
  nl : nn ≤ 300
  row : Row wr (WM db mb F lb v) w.heap.size (.slice RA rs.length rc) rs
  rn : rs.length = 0 → RA = none
def LX (w wr : World) (db mb j : Nat) (v6 v8 v9 v10 v11 v12 v13 : Value) : Prop := ∃ lb K n F v name f bs rs safe rot nx BA bc NA nn nc RA rc lv, LI w wr db mb j v6 v8 v9 v10 v11 v12 v13 lb K n F v name f bs rs safe rot nx BA bc NA nn nc RA rc lv
section
variable {w wr w' : World} {db mb j : Nat} {v6 v8 v9 v10 v11 v12 v13 : Value} {lb K : Nat} {n : Nm} {F : Int → Option Fi} {v : LgV} {name : Nat} {f : Fi} {bs : List Int} {rs : List (List Int)} {safe : Nat} {rot : Bool} {nx : List Int} {BA : Option Addr} {bc : Nat} {NA : Option Addr} {nn nc : Nat} {RA : Option Addr} {rc lv : Nat}
theorem LI.below (h : LI w wr db mb j v6 v8 v9 v10 v11 v12 v13 lb K n F v name f bs rs safe rot nx BA bc NA nn nc RA rc lv) (hb : Below wr.heap.size wr w') : LI w w' db mb j v6 v8 v9 v10 v11 v12 v13 lb K n F v name f bs rs safe rot nx BA bc NA nn nc RA rc lv :=
  ⟨h.e6, h.e8, h.e9, h.e10, h.e11, h.e12, h.e13, h.kj, h.nj, h.lj, h.ls.below hb, h.base.below hb, h.nxt, h.nl, h.row.below hb, h.rn⟩
theorem LI.more (h : LI w wr db mb j v6 v8 v9 v10 v11 v12 v13 lb K n F v name f bs rs safe rot nx BA bc NA nn nc RA rc lv) : LI w wr db mb (j + 1) v6 v8 v9 v10 v11 v12 v13 lb K n F v name f bs rs safe rot nx BA bc NA nn nc RA rc lv :=
  ⟨h.e6, h.e8, h.e9, h.e10, h.e11, h.e12, h.e13, by have := h.kj; omega, by have := h.nj; omega, by have := h.lj; omega, h.ls.more (by omega), h.base, h.nxt, h.nl, h.row, h.rn⟩
end
theorem LS.armed {w wr w' : World} {db mb lb K name safe : Nat} {n : Nm} {F : Int → Option Fi} {v : LgV} {f : Fi} {bs : List Int} {rs : List (List Int)} {rot : Bool} {nx : List Int} {zb x : Int} (h : LS w wr db mb lb K n F v name f bs rs safe rot nx zb) (hk : Dk w' db mb K { n with left := max x (-1) } F) (hf : Fr wr w' (Mine db mb F)) (hx : x ≤ 9223372036854775807) : LS w w' db mb lb K { n with left := max x (-1) } F v name f bs rs safe rot nx zb := by
  obtain ⟨b1, r1, h1, h2⟩ := h.lg
  exact ⟨hk, h.cap, h.sz, h.szb, by show -1 ≤ max x (-1); omega, by show max x (-1) ≤ _; omega, h.lf, ⟨b1, r1, h1.turn hf (fun b hb => .inl hb), h2⟩, h.vdb, h.vnm, h.md, h.mbge, h.bel.trans ((hf.below h.dk).mono h.mbge)⟩
theorem Row.rdTk {w : World} {M : Nat → Prop} {B0 : Nat} {A : Option Addr} {k c : Nat} {rs : List (List Int)} (h : Row w M B0 (.slice A k c) rs) (hk : rs.length = k) : RdT w A k (fun j => rs.getD j []) := by
  subst hk; exact h.rdT
theorem Row.capR {w : World} {M : Nat → Prop} {B0 : Nat} {A : Option Addr} {k c : Nat} {rs : List (List Int)} (h : Row w M B0 (.slice A k c) rs) : k ≤ c ∨ k = 0 := by
  obtain ⟨vals, hown, _⟩ := h.ex
  rcases hown.2 with ⟨hv, _⟩ | ⟨g, cap, cur, hv, _, _, hnc, _⟩
  · injection hv with e1 e2 e3
    exact .inr e2
  · injection hv with e1 e2 e3
    left; omega
theorem RdT.less {w : World} {A : Option Addr} {k q : Nat} {PX : Nat → List Int} (h : RdT w A k PX) (hq : q ≤ k) : RdT w A q PX := fun j hj => h j (by omega)
theorem row_bd {w : World} {a : Option Addr} {len cap : Nat} {zs : List Int}
    (h : (a = none ∧ len = 0 ∧ cap = 0 ∧ zs = []) ∨ ∃ x, a = some x ∧ len ≤ cap ∧ cap ≤ maxLen ∧ zs.length = cap ∧ (∀ i, i < zs.length → w.cell? (x.add i) = some (.int .i64 (zs.getD i 0))) ∧ ∀ n ∈ zs, (Lit.int .i64 n).wf = true) :
    ∀ i, i < len → -9223372036854775808 ≤ ix (zs.take len) i ∧ ix (zs.take len) i ≤ 9223372036854775807 := fun i hi => by
  rcases h with ⟨_, rfl, _, _⟩ | ⟨x, _, hl, _, hz, _, hwf⟩
  · exact absurd hi (Nat.not_lt_zero i)
  · have hi2 : i < (zs.take len).length := by rw [List.length_take]; omega
    have e : ix (zs.take len) i = (zs.take len)[i] := by simp [ix, List.getD, List.getElem?_eq_getElem hi2]
    rw [e]
    exact bounds_i64 (hwf _ (List.mem_of_mem_take (List.getElem_mem hi2)))
theorem rowE {W : World} {M : Nat → Prop} {B0 g0 : Nat} (h : W.heap[g0]? = some (.cells #[] 26 (0, 0))) (hB : B0 ≤ g0) (hM : ¬ M g0) : Row W M B0 (.slice (some ⟨g0, 0, none⟩) 0 0) [] :=
  ⟨⟨[], ⟨rfl, .inr ⟨g0, 0, #[], rfl, hB, h, Nat.le_refl _, Nat.zero_le _, rfl, rfl⟩⟩, fun j hj => absurd hj (Nat.not_lt_zero j)⟩, fun g hg => by
    have e : some g0 = some g := hg
    injection e with e
    rw [← e]; exact hM⟩
theorem Row.els {w5 W : World} {M : Nat → Prop} {B0 k rc g0 : Nat} {RA : Option Addr} {rs : List (List Int)} (h : Row w5 M B0 (.slice RA k rc) rs) (hk : rs.length = k) (hb : Below w5.heap.size w5 W) (hg0 : w5.heap.size ≤ g0) :
    ∀ j, j < k → ∃ b A n c, RA = some ⟨b, 0, none⟩ ∧ W.cell? ⟨b, j, none⟩ = some (.slice A n c) ∧ RdK W (fun b => M b ∨ (Value.slice (some ⟨g0, 0, none⟩) 0 0).ownBlock = some b) A n (rs.getD j []) ∧ Bytes (rs.getD j []) ∧ n ≤ 1099511627776 := fun j hj => by
  obtain ⟨b, P, n, d, e, hc, hr, hby, hn, hM, hlt⟩ := h.at_ (by omega : j < rs.length)
  refine ⟨b, P, n, d, e, (hb.cell (p := ⟨b, j, none⟩) hlt).trans hc, (hr.weak (M' := fun b => M b ∨ (Value.slice (some ⟨g0, 0, none⟩) 0 0).ownBlock = some b) (fun x hx => ?_)).turn (Fr.of_below hb) (fun x hx => .inl hx), hby, hn⟩
  rcases hx with h1 | h1
  · exact .inl (.inl h1)
  · have e2 : some g0 = some x := h1
    injection e2 with e2
    right; omega
/-- 'append([][]byte{}, x...)'. -/
theorem stepR_apps0 {w : World} {ops : Array Oper} {o : Oper} {a : Act} {K : Act → World → Prop} {Q : Exit → Act → World → Prop} {E : Prop} (hgd : o.guard = none) (s x : Operand)
    (ho : o.op = .call { callee := .builtin .append, args := #[s, x], argTypes := #[34, 34] })
    (M : Nat → Prop) (B0 g0 : Nat) (hs : a.eval s = .slice (some ⟨g0, 0, none⟩) 0 0) (hrow : Row w M B0 (.slice (some ⟨g0, 0, none⟩) 0 0) []) (hMs : ∀ b, M b → b < w.heap.size)
    (D : Option Addr) (k d : Nat) (rs2 : List (List Int)) (hk : rs2.length = k) (hx : a.eval x = .slice D k d) (hD : k = 0 → D = none)
    (hel : ∀ j, j < k → ∃ b A n c, D = some ⟨b, 0, none⟩ ∧ w.cell? ⟨b, j, none⟩ = some (.slice A n c) ∧ RdK w (fun b => M b ∨ (Value.slice (some ⟨g0, 0, none⟩) 0 0).ownBlock = some b) A n (rs2.getD j []) ∧ Bytes (rs2.getD j []) ∧ n ≤ 1099511627776)
    (hlen : k ≤ 1000000000) (hbase : B0 ≤ w.heap.size) (H : Nat) (hH : w.heap.size = H)
    (h : ∀ A' c' w', Row w' M B0 (.slice A' k c') rs2 → w.grownBy w' (some g0) → (∀ g, (Value.slice A' k c').ownBlock = some g → g = g0 ∨ g = H) → K (a.put o.dst (.slice A' k c')) w') :
    if Region.wanted o (yielded ops a.tmps) = true then Oper.wp Try.prog o a w K Q else E := by
  refine stepR_apps hgd s x ho M B0 _ [] hs hrow hMs D k d rs2 hk hx hD hel (by simpa using hlen) hbase H hH ?_
  intro A' c' w' h1 h2 h3
  have e : ([] : List (List Int)).length + k = k := Nat.zero_add k
  rw [e] at h1 h3 ⊢
  refine h A' c' w' (by simpa using h1) h2 (fun g hg => ?_)
  rcases h3 with h4 | h4
  · rw [h4] at hg
    have e2 : some g0 = some g := hg
    injection e2 with e2
    exact .inl e2.symm
  · rw [h4] at hg
    injection hg with hg
    exact .inr hg.symm
set_option maxHeartbeats 32000000 in
theorem law_lasts {w : World} {A AA : Option Addr} {m c na ca : Nat} {o : Nat → OpV} {zs : List Int} (hz : Rd w w.heap.size AA na zs) (hna : na ≤ 9223372036854775807) (hbd : ∀ i, i < na → -9223372036854775808 ≤ ix zs i ∧ ix zs i ≤ 9223372036854775807) (ho : RdO w w.heap.size A m o) (hm : m ≤ 9223372036854775807)
    (hkn : ∀ j, j < m → (o j).kn ≤ 9223372036854775807) :
    Calls Try.prog 5 #[.slice AA na ca, .slice A m c] w fun e w' => e = .returned (.bool true) ∧ Below w.heap.size w w' := by
  have HO := Lib.hid ho
  have HAR := Lib.hid hz
  have HBD := Lib.hid hbd
  have HKN := Lib.hid hkn
  clear ho hz hbd hkn
  go_enter Try.func5, Try.ntmps5
  go_wp2_with fail
  refine (anchor_any w).mono ?_
  rintro e w0 ⟨rfl, hb0⟩
  have HB0 := Lib.hid hb0
  clear hb0
  by_cases hc3 : 30 < m
  · have d3 : decide ((30 : Int) < (m : Int)) = true := by simp; omega
    go_wp2
    go_ret
    exact ⟨rfl, HB0.out⟩
  have d3 : decide ((30 : Int) < (m : Int)) = false := by simp; omega
  go_wp2_with fail
  refine (new_any w0 1048576 (by omega) (by omega)).mono ?_
  rintro e w1 ⟨db, mb, rfl, hmb, hk1, hb1⟩
  have H1 := Lib.hid hk1
  have HB1 : Hid (Below w.heap.size w w1) := Lib.hid (HB0.out.trans (hb1.mono HB0.out.size))
  have HMB : Hid (w.heap.size ≤ mb) := Lib.hid (by have := HB0.out.size; omega)
  clear hk1 hb1 hmb
  go_wp2_with fail
  refine (open_new (B0 := w.heap.size) H1.out (by omega) rfl rfl (show (0 : Int) ≤ 0 by omega) (show (1048576 : Int) ≤ 16777216 by omega) (show (0 : Int) + 9 ≤ 1048576 by omega) HB1.out.size).mono ?_
  rintro e w2 ⟨lb, f1, rfl, hle, hbs1, hn1, hs1, hk2, hL2, hF2, hM2⟩
  have HB2 : Hid (Below w.heap.size w w2) := Lib.hid (HB1.out.trans ((hF2.below H1.out).mono HMB.out))
  have hls : LS w w2 db mb lb 2 ⟨1048576, 0 + 9, -1, false⟩ (putF (fun _ => none) 0 f1) (lgNew db 9) 0 f1 [] [] 0 false [] (9 + 309 * ((0 : Nat) : Int)) := by
    have e0 : f1.bs = logL [] [] := by rw [hbs1, logL_nil]
    have hsz := szOK_one (F := putF (fun _ => none) 0 f1) (putF_same _ _ _) (fun x hx => putF_other _ _ hx)
    rw [hn1] at hsz
    exact ⟨hk2, rfl, hsz, by show (0 : Int) + 9 ≤ _; omega, by show (-1 : Int) ≤ -1; omega, by show (-1 : Int) ≤ _; omega,
      ⟨putF_same _ _ _, e0, by rw [List.take_nil, logL_length_nil, hs1]; exact Nat.le_refl _, Nat.le_refl _, fun x h1 h2 => putF_other _ _ h1, fun _ => putF_other _ _ (by omega), fun h => (by cases h), ⟨bytes_nil, by simp⟩, fun x hx => (by cases hx), ⟨bytes_nil, by simp⟩⟩,
      ⟨[], [], hL2, fun _ => ⟨rfl, rfl, by rw [logL_length_nil]; rfl⟩⟩, rfl, rfl, .inl ⟨rfl, rfl, rfl⟩, HMB.out, HB2.out⟩
  have HX0 : Hid (LX w w2 db mb 0 (.pointer (some ⟨lb, 0, none⟩)) (.slice none 0 0) (.slice none 0 0) (.slice none 0 0) (.int .i64 0) (.bool false) (.int .i64 0)) := Lib.hid
    ⟨lb, 2, _, _, _, 0, f1, [], [], 0, false, [], none, 0, none, 0, 0, none, 0, 0, ⟨rfl, rfl, rfl, rfl, rfl, rfl, rfl, by omega, by omega, by omega, hls, ⟨rfl, fun h => absurd h (Nat.lt_irrefl 0)⟩, fun h => (by cases h), by omega, Row.nil_ _ _ _, fun _ => rfl⟩⟩
  clear hk2 hL2 hF2 hM2 hbs1 hn1 hs1 hle hls
  go_wp2_with fail
  go_loopw [6, 8, 9, 10, 11, 12, 13, 42] (fun v6 v8 v9 v10 v11 v12 v13 i wr => ∃ j : Nat, j ≤ m ∧ i = .int .i64 (j : Int) ∧ Hid (LX w wr db mb j v6 v8 v9 v10 v11 v12 v13)) (fun _ _ _ _ _ _ _ i _ => m - (intOf i).toNat)
  case atStart => exact ⟨0, Nat.zero_le _, rfl, HX0⟩
  case round =>
    obtain ⟨j, hj, rfl, HPX⟩ := hrel
    by_cases hlt : j < m
    · obtain ⟨lb, K, n, F, v, name, f, bs, rs, safe, rot, nx, BA, bc, NA, nn, nc, RA, rc, lv, HP0⟩ := HPX.out
      have HP := Lib.hid HP0
      clear HPX HP0
      obtain rfl := HP.out.e6
      obtain rfl := HP.out.e8
      obtain rfl := HP.out.e9
      obtain rfl := HP.out.e10
      obtain rfl := HP.out.e11
      obtain rfl := HP.out.e12
      obtain rfl := HP.out.e13
      have hknj := HKN.out j hlt
      obtain ⟨b, off, hA, hbl, x0w, x1w, x2w, hdy, hdb, hks⟩ := HO.out j hlt
      subst hA
      generalize o j = ov at *
      obtain ⟨kd, dA, dn, dc, ds, kA, kn, kc, ks⟩ := ov
      simp only at x0w x1w x2w hdy hdb hks hknj
      have hbel := HP.out.ls.bel
      have x0 := (hbel.cell (p := ⟨b, off + j * 3, none⟩) hbl).trans x0w
      have x1 := (hbel.cell (p := ⟨b, off + j * 3 + 1, none⟩) hbl).trans x1w
      have x2 := (hbel.cell (p := ⟨b, off + j * 3 + 2, none⟩) hbl).trans x2w
      have HDY := Lib.hid hdy
      have HDB := Lib.hid hdb
      have HKS := Lib.hid hks
      have hji : (j : Int) < (m : Int) := by omega
      clear x0w x1w x2w hdy hdb hks hbl hbel
      by_cases hdn : 300 < dn
      · have e1 : decide ((300 : Int) < (dn : Int)) = true := by simp; omega
        go_wp2
        go_ret
        exact ⟨rfl, HP.out.ls.bel.alloc HP.out.ls.bel.size _⟩
      have e1 : decide ((300 : Int) < (dn : Int)) = false := by simp; omega
      go_upto_block 2 with fail
      have HPA := Lib.hid (HP.out.below (w' := wr.alloc (.cells #[.int .i64 kd, .slice dA dn dc, .slice kA kn kc] 53)) ((Below.refl _ _).alloc (Nat.le_refl _) _))
      obtain ⟨W, hW⟩ : ∃ W, wr.alloc (.cells #[.int .i64 kd, .slice dA dn dc, .slice kA kn kc] 53) = W := ⟨_, rfl⟩
      obtain ⟨ob, hob⟩ : ∃ ob, wr.heap.size = ob := ⟨_, rfl⟩
      have hOB : W.heap[ob]? = some (.cells #[.int .i64 kd, .slice dA dn dc, .slice kA kn kc] 53 (0, 0)) := by rw [← hW, ← hob]; exact heap_alloc_new wr _
      have HOB := Lib.hid hOB
      have HOBW : Hid (¬ WM db mb F lb v ob ∧ (Value.slice RA rs.length rc).ownBlock ≠ some ob ∧ w.heap.size ≤ ob) := Lib.hid ⟨fun h => by have := HP.out.ls.lt ob h; omega, fun h => by have := HP.out.row.block_lt ob h; omega, by rw [← hob]; exact HP.out.ls.bel.size⟩
      rw [hW] at HPA ⊢
      rw [hob]
      have HHOB := Lib.hid hob
      clear hW hob hOB HP x0 x1 x2
      have y0 := cellK_of_heap HOB.out (i := 0) (x := .int .i64 kd) rfl
      have y1 := cellK_of_heap HOB.out (i := 1) (x := .slice dA dn dc) rfl
      have hkj := HPA.out.kj
      have hnj := HPA.out.nj
      have hlj := HPA.out.lj
      have hzb : (9 + 309 * (j : Int)) ≤ 900000 := by omega
      have HSAME : Hid (LX w W db mb (j + 1) (.pointer (some ⟨lb, 0, none⟩)) (.slice BA bs.length bc) (.slice NA nn nc) (.slice RA rs.length rc) (.int .i64 (safe : Int)) (.bool rot) (.int .i64 (lv : Int))) := Lib.hid ⟨lb, K, n, F, v, name, f, bs, rs, safe, rot, nx, BA, bc, NA, nn, nc, RA, rc, lv, HPA.out.more⟩
      by_cases k1 : kd = 1
      · subst k1
        have HAP := Lib.hid (HPA.out.ls.append (c := dc) (by omega) hzb (HDY.out.below HPA.out.ls.bel) HDB.out (by omega))
        go_wp2_with fail
        refine HAP.out.mono ?_
        rintro e w5 (⟨K5, n5, F5, v5, f5, x5, rfl, hx5, hK5, hls5, hf5, hm5⟩ | ⟨rfl, rfl⟩)
        · have HLS5 := Lib.hid hls5
          have HBASE5 : Hid (RdK w5 (WM db mb F5 lb v5) BA bs.length bs) := Lib.hid (HPA.out.base.turn hf5 hm5)
          have HROW5 : Hid (Row w5 (WM db mb F5 lb v5) w.heap.size (.slice RA rs.length rc) rs) := Lib.hid (HPA.out.row.turn hf5 hm5)
          have HB5 : Hid (Below w.heap.size w w5) := Lib.hid hls5.bel
          have HOB5 : Hid (w5.heap[ob]? = some (.cells #[.int .i64 1, .slice dA dn dc, .slice kA kn kc] 53 (0, 0))) := Lib.hid ((hf5.block ob (heapK_lt HOB.out) HOBW.out.1).trans HOB.out)
          clear hls5 hf5 hm5 HAP y0 y1
          have HMW : Hid (∀ b, (WM db mb F5 lb v5) b → b < w5.heap.size) := Lib.hid HLS5.out.lt
          have hs5 : w.heap.size ≤ w5.heap.size := HB5.out.size
          have HRN : Hid (rs.length = 0 → RA = none) := Lib.hid HPA.out.rn
          have HRL : Hid (rs.length ≤ 900000) := Lib.hid (HPA.out.ls.rl hzb)
          have hdn3 : dn ≤ 1099511627776 := by omega
          have hrl1 : rs.length ≤ 1000000000 := by have := HRL.out; omega
          have y5 := cellK_of_heap HOB5.out (i := 1) (x := .slice dA dn dc) rfl
          have hobl : ob < w5.heap.size := heapK_lt HOB5.out
          have HFIN : Hid (∀ (w9 : World) (g9 c9 : Nat), Below w5.heap.size w5 w9 → Row w9 (WM db mb F5 lb v5) w.heap.size (.slice (some ⟨g9, 0, none⟩) (rs.length + 1) c9) (rs ++ [ds]) → LX w w9 db mb (j + 1) (.pointer (some ⟨lb, 0, none⟩)) (.slice BA bs.length bc) (.slice NA nn nc) (.slice (some ⟨g9, 0, none⟩) (rs.length + 1) c9) (.int .i64 (safe : Int)) (.bool rot) (.int .i64 (lv : Int))) := Lib.hid (fun w9 g9 c9 hb hrow =>
            ⟨lb, K5, n5, F5, v5, name, f5, bs, rs ++ [ds], safe, rot, nx, BA, bc, NA, nn, nc, some ⟨g9, 0, none⟩, c9, lv, ⟨rfl, rfl, rfl, by rw [List.length_append]; rfl, rfl, rfl, rfl, by omega, by omega, by omega, (HLS5.out.below hb).more (by omega), HBASE5.out.below hb, HPA.out.nxt, HPA.out.nl, by rw [List.length_append]; exact hrow, fun h => by simp at h⟩⟩)
          rcases hx5 with rfl | rfl
          all_goals
            have hbX1 : Below w5.heap.size w5 (w5.alloc (.cells #[] 26)).drew := ((Below.refl _ w5).alloc (by simp) _).drew
            have HBX1 := Lib.hid hbX1
            have HE1 : Hid (Row (w5.alloc (.cells #[] 26)).drew (WM db mb F5 lb v5) w.heap.size (.slice (some ⟨w5.heap.size, 0, none⟩) 0 0) []) := Lib.hid (rowE (by show (w5.alloc _).heap[w5.heap.size]? = _; exact heap_alloc_new w5 _) (by omega) (fun h => by have := HMW.out _ h; omega))
            have HL1 := Lib.hid (HROW5.out.els rfl hbX1 (g0 := w5.heap.size) (by omega))
            have HM1 : Hid (∀ b, (WM db mb F5 lb v5) b → b < (w5.alloc (.cells #[] 26)).drew.heap.size) := Lib.hid (fun b hb => by have := HMW.out b hb; simp; omega)
            have hz1 : w.heap.size ≤ (w5.alloc (.cells #[] 26)).drew.heap.size := by simp; omega
            have yx1 : (w5.alloc (.cells #[] 26)).drew.cell? ⟨ob, 1, none⟩ = some (.slice dA dn dc) := (hbX1.cell (p := ⟨ob, 1, none⟩) hobl).trans y5
            clear hbX1
            have hbX2 : Below w5.heap.size w5 ((w5.alloc (.cells #[] 26)).alloc (.cells #[.slice dA dn dc] 26)).drew := (((Below.refl _ w5).alloc (by simp) _).alloc (by simp) _).drew
            have HBX2 := Lib.hid hbX2
            have HE2 : Hid (Row ((w5.alloc (.cells #[] 26)).alloc (.cells #[.slice dA dn dc] 26)).drew (WM db mb F5 lb v5) w.heap.size (.slice (some ⟨w5.heap.size, 0, none⟩) 0 0) []) := Lib.hid (rowE (by show ((w5.alloc _).alloc _).heap[w5.heap.size]? = _; rw [Below.heap_alloc _ _ _ (by simp)]; exact heap_alloc_new w5 _) (by omega) (fun h => by have := HMW.out _ h; omega))
            have HL2 := Lib.hid (HROW5.out.els rfl hbX2 (g0 := w5.heap.size) (by omega))
            have HM2 : Hid (∀ b, (WM db mb F5 lb v5) b → b < ((w5.alloc (.cells #[] 26)).alloc (.cells #[.slice dA dn dc] 26)).drew.heap.size) := Lib.hid (fun b hb => by have := HMW.out b hb; simp; omega)
            have hz2 : w.heap.size ≤ ((w5.alloc (.cells #[] 26)).alloc (.cells #[.slice dA dn dc] 26)).drew.heap.size := by simp; omega
            have yx2 : ((w5.alloc (.cells #[] 26)).alloc (.cells #[.slice dA dn dc] 26)).drew.cell? ⟨ob, 1, none⟩ = some (.slice dA dn dc) := (hbX2.cell (p := ⟨ob, 1, none⟩) hobl).trans y5
            clear hbX2
            have hbX3 : Below w5.heap.size w5 ((w5.alloc (.cells #[.slice dA dn dc] 26)).alloc (.cells #[] 26)).drew := (((Below.refl _ w5).alloc (by simp) _).alloc (by simp) _).drew
            have HBX3 := Lib.hid hbX3
            have HE3 : Hid (Row ((w5.alloc (.cells #[.slice dA dn dc] 26)).alloc (.cells #[] 26)).drew (WM db mb F5 lb v5) w.heap.size (.slice (some ⟨(w5.heap.size + 1), 0, none⟩) 0 0) []) := Lib.hid (rowE (by have h := heap_alloc_new (w5.alloc (.cells #[.slice dA dn dc] 26)) (.cells #[] 26); rw [World.size_alloc] at h; exact h) (by omega) (fun h => by have := HMW.out _ h; omega))
            have HL3 := Lib.hid (HROW5.out.els rfl hbX3 (g0 := (w5.heap.size + 1)) (by omega))
            have HM3 : Hid (∀ b, (WM db mb F5 lb v5) b → b < ((w5.alloc (.cells #[.slice dA dn dc] 26)).alloc (.cells #[] 26)).drew.heap.size) := Lib.hid (fun b hb => by have := HMW.out b hb; simp; omega)
            have hz3 : w.heap.size ≤ ((w5.alloc (.cells #[.slice dA dn dc] 26)).alloc (.cells #[] 26)).drew.heap.size := by simp; omega
            have yx3 : ((w5.alloc (.cells #[.slice dA dn dc] 26)).alloc (.cells #[] 26)).drew.cell? ⟨ob, 1, none⟩ = some (.slice dA dn dc) := (hbX3.cell (p := ⟨ob, 1, none⟩) hobl).trans y5
            clear hbX3
            have yS : (w5.alloc (.cells #[.slice dA dn dc] 26)).drew.cell? ⟨ob, 1, none⟩ = some (.slice dA dn dc) := (World.cell?_alloc_lt w5 _ ⟨ob, 1, none⟩ hobl).trans y5
            go_wp2_with fail
            go_region_law (first
              | (refine stepR_apps0 (by rfl) _ _ (by rfl) (WM db mb F5 lb v5) w.heap.size w5.heap.size (by rfl) HE1.out HM1.out RA rs.length rc rs (by rfl) (by rfl) HRN.out HL1.out hrl1 hz1 (w5.heap.size + 1) (by simp) ?_; intro A7 c7 w7 hrow7 hg7 hat7; (have hb7 : Below w5.heap.size w5 w7 := HBX1.out.grown hg7 HBX1.out.size (fun x hx => by injection hx with hx; omega)); (have y7 := (hb7.cell (p := ⟨ob, 1, none⟩) hobl).trans y5); (have HB7 := Lib.hid hb7); (have hz7 := hb7.size); (have hG7 : ∀ x, (Value.slice A7 rs.length c7).ownBlock = some x → w5.heap.size ≤ x := fun x hx => by rcases hat7 x hx with h | h <;> omega); (have HG7 := Lib.hid hG7); (have y7S : (w7.alloc (.cells #[.slice dA dn dc] 26)).cell? ⟨ob, 1, none⟩ = some (.slice dA dn dc) := (World.cell?_alloc_lt w7 _ ⟨ob, 1, none⟩ (show ob < w7.heap.size by omega)).trans y7); (have HR7 := Lib.hid (hrow7.below ((Below.refl _ w7).alloc (Nat.le_refl _) (.cells #[.slice dA dn dc] 26)))); (have HM7 : Hid (∀ b, (WM db mb F5 lb v5) b → b < (w7.alloc (.cells #[.slice dA dn dc] 26)).heap.size) := Lib.hid (fun b hb => by (have := HMW.out b hb); simp; omega)); (have hc7 : (w7.alloc (.cells #[.slice dA dn dc] 26)).cell? ⟨w7.heap.size, 0, none⟩ = some (.slice dA dn dc) := cellK_of_heap (heap_alloc_new w7 (.cells #[.slice dA dn dc] 26)) (i := 0) (x := .slice dA dn dc) rfl); (have HK7 : Hid (RdK (w7.alloc (.cells #[.slice dA dn dc] 26)) (fun b => (WM db mb F5 lb v5) b ∨ (Value.slice A7 rs.length c7).ownBlock = some b) dA dn ds) := Lib.hid (RdK.of_rd (HDY.out.below ((HB5.out.trans (hb7.mono hs5)).alloc (by omega) _)) (by simp; omega) (fun b hb h2 => by rcases h2 with h3 | h3; (· have := HLS5.out.ge b h3; omega); (· have := HG7.out b h3; omega)))); (have hzz7 : w.heap.size ≤ (w7.alloc (.cells #[.slice dA dn dc] 26)).heap.size := by simp; omega); clear hrow7 hg7 hat7 hb7 hG7)
              | (refine stepR_apps0 (by rfl) _ _ (by rfl) (WM db mb F5 lb v5) w.heap.size w5.heap.size (by rfl) HE2.out HM2.out RA rs.length rc rs (by rfl) (by rfl) HRN.out HL2.out hrl1 hz2 (w5.heap.size + 1 + 1) (by simp) ?_; intro A7 c7 w7 hrow7 hg7 hat7; (have hb7 : Below w5.heap.size w5 w7 := HBX2.out.grown hg7 HBX2.out.size (fun x hx => by injection hx with hx; omega)); (have y7 := (hb7.cell (p := ⟨ob, 1, none⟩) hobl).trans y5); (have HB7 := Lib.hid hb7); (have hz7 := hb7.size); (have hG7 : ∀ x, (Value.slice A7 rs.length c7).ownBlock = some x → w5.heap.size ≤ x := fun x hx => by rcases hat7 x hx with h | h <;> omega); (have HG7 := Lib.hid hG7); (have HR7 := Lib.hid hrow7); (have HM7 : Hid (∀ b, (WM db mb F5 lb v5) b → b < w7.heap.size) := Lib.hid (fun b hb => by (have := HMW.out b hb); omega)); (have hS0 : ((w5.alloc (.cells #[] 26)).alloc (.cells #[.slice dA dn dc] 26)).drew.heap[(w5.heap.size + 1)]? = some (.cells #[.slice dA dn dc] 26 (0, 0)) := by have h := heap_alloc_new (w5.alloc (.cells #[] 26)) (.cells #[.slice dA dn dc] 26); rw [World.size_alloc] at h; exact h); (have hc7 : w7.cell? ⟨(w5.heap.size + 1), 0, none⟩ = some (.slice dA dn dc) := cellK_of_heap ((hg7.block (w5.heap.size + 1) (by simp) (by simp)).trans hS0) (i := 0) (x := .slice dA dn dc) rfl); (have HK7 : Hid (RdK w7 (fun b => (WM db mb F5 lb v5) b ∨ (Value.slice A7 rs.length c7).ownBlock = some b) dA dn ds) := Lib.hid (RdK.of_rd (HDY.out.below (HB5.out.trans (hb7.mono hs5))) (by omega) (fun b hb h2 => by rcases h2 with h3 | h3; (· have := HLS5.out.ge b h3; omega); (· have := HG7.out b h3; omega)))); (have hzz7 : w.heap.size ≤ w7.heap.size := by omega); clear hS0; clear hrow7 hg7 hat7 hb7 hG7)
              | (refine stepR_apps0 (by rfl) _ _ (by rfl) (WM db mb F5 lb v5) w.heap.size (w5.heap.size + 1) (by rfl) HE3.out HM3.out RA rs.length rc rs (by rfl) (by rfl) HRN.out HL3.out hrl1 hz3 (w5.heap.size + 1 + 1) (by simp) ?_; intro A7 c7 w7 hrow7 hg7 hat7; (have hb7 : Below w5.heap.size w5 w7 := HBX3.out.grown hg7 HBX3.out.size (fun x hx => by injection hx with hx; omega)); (have y7 := (hb7.cell (p := ⟨ob, 1, none⟩) hobl).trans y5); (have HB7 := Lib.hid hb7); (have hz7 := hb7.size); (have hG7 : ∀ x, (Value.slice A7 rs.length c7).ownBlock = some x → w5.heap.size ≤ x := fun x hx => by rcases hat7 x hx with h | h <;> omega); (have HG7 := Lib.hid hG7); (have HR7 := Lib.hid hrow7); (have HM7 : Hid (∀ b, (WM db mb F5 lb v5) b → b < w7.heap.size) := Lib.hid (fun b hb => by (have := HMW.out b hb); omega)); (have hS0 : ((w5.alloc (.cells #[.slice dA dn dc] 26)).alloc (.cells #[] 26)).drew.heap[w5.heap.size]? = some (.cells #[.slice dA dn dc] 26 (0, 0)) := by (show ((w5.alloc _).alloc _).heap[w5.heap.size]? = _); rw [Below.heap_alloc _ _ _ (by simp)]; exact heap_alloc_new w5 _); (have hc7 : w7.cell? ⟨w5.heap.size, 0, none⟩ = some (.slice dA dn dc) := cellK_of_heap ((hg7.block w5.heap.size (by simp; omega) (by simp)).trans hS0) (i := 0) (x := .slice dA dn dc) rfl); (have HK7 : Hid (RdK w7 (fun b => (WM db mb F5 lb v5) b ∨ (Value.slice A7 rs.length c7).ownBlock = some b) dA dn ds) := Lib.hid (RdK.of_rd (HDY.out.below (HB5.out.trans (hb7.mono hs5))) (by omega) (fun b hb h2 => by rcases h2 with h3 | h3; (· have := HLS5.out.ge b h3; omega); (· have := HG7.out b h3; omega)))); (have hzz7 : w.heap.size ≤ w7.heap.size := by omega); clear hS0; clear hrow7 hg7 hat7 hb7 hG7)
              | (refine stepR_app (by rfl) _ _ (by rfl) (WM db mb F5 lb v5) w.heap.size (.slice A7 rs.length c7) rs (by rfl) HR7.out HM7.out w7.heap.size dA dn dc ds (by rfl) hc7 hrl1 hzz7 HK7.out HDB.out hdn3 (w7.heap.size + 1) (by simp) ?_; intro g9 c9 w9 hrow9 hg9 hat9; (have hb9 : Below w5.heap.size w5 w9 := (HB7.out.alloc hz7 (.cells #[.slice dA dn dc] 26)).grown hg9 (by simp; omega) (fun x hx => HG7.out x hx)); (have HP9 : Hid (LX w w9 db mb (j + 1) (.pointer (some ⟨lb, 0, none⟩)) (.slice BA bs.length bc) (.slice NA nn nc) (.slice (some ⟨g9, 0, none⟩) (rs.length + 1) c9) (.int .i64 (safe : Int)) (.bool rot) (.int .i64 (lv : Int))) := Lib.hid (HFIN.out w9 g9 c9 hb9 hrow9)); clear hrow9 hg9 hat9 hb9)
              | (refine stepR_app (by rfl) _ _ (by rfl) (WM db mb F5 lb v5) w.heap.size (.slice A7 rs.length c7) rs (by rfl) HR7.out HM7.out (w5.heap.size + 1) dA dn dc ds (by rfl) hc7 hrl1 hzz7 HK7.out HDB.out hdn3 w7.heap.size rfl ?_; intro g9 c9 w9 hrow9 hg9 hat9; (have hb9 : Below w5.heap.size w5 w9 := HB7.out.grown hg9 hz7 (fun x hx => HG7.out x hx)); (have HP9 : Hid (LX w w9 db mb (j + 1) (.pointer (some ⟨lb, 0, none⟩)) (.slice BA bs.length bc) (.slice NA nn nc) (.slice (some ⟨g9, 0, none⟩) (rs.length + 1) c9) (.int .i64 (safe : Int)) (.bool rot) (.int .i64 (lv : Int))) := Lib.hid (HFIN.out w9 g9 c9 hb9 hrow9)); clear hrow9 hg9 hat9 hb9)
              | (refine stepR_app (by rfl) _ _ (by rfl) (WM db mb F5 lb v5) w.heap.size (.slice A7 rs.length c7) rs (by rfl) HR7.out HM7.out w5.heap.size dA dn dc ds (by rfl) hc7 hrl1 hzz7 HK7.out HDB.out hdn3 w7.heap.size rfl ?_; intro g9 c9 w9 hrow9 hg9 hat9; (have hb9 : Below w5.heap.size w5 w9 := HB7.out.grown hg9 hz7 (fun x hx => HG7.out x hx)); (have HP9 : Hid (LX w w9 db mb (j + 1) (.pointer (some ⟨lb, 0, none⟩)) (.slice BA bs.length bc) (.slice NA nn nc) (.slice (some ⟨g9, 0, none⟩) (rs.length + 1) c9) (.int .i64 (safe : Int)) (.bool rot) (.int .i64 (lv : Int))) := Lib.hid (HFIN.out w9 g9 c9 hb9 hrow9)); clear hrow9 hg9 hat9 hb9))
          all_goals (go_wp2_with fail)
          all_goals (exact ⟨⟨j + 1, by omega, by go_num, HP9⟩, by simp [intOf]; omega⟩)
        · clear HAP y0 y1
          go_wp2_with fail
          exact ⟨⟨j + 1, by omega, by go_num, HSAME⟩, by simp [intOf]; omega⟩
      have q1 : (kd == 1) = false := beq_eq_false_iff_ne.2 k1
      by_cases k2 : kd = 2
      · subst k2
        have HSY := Lib.hid (HPA.out.ls.sync (by omega))
        go_wp2_with fail
        refine HSY.out.mono ?_
        rintro e w5 ⟨K5, n5, F5, v5, f5, x5, safe5, rfl, hx5, hK5, hls5, hf5, hm5⟩
        have HP5 : Hid (LX w w5 db mb (j + 1) (.pointer (some ⟨lb, 0, none⟩)) (.slice BA bs.length bc) (.slice NA nn nc) (.slice RA rs.length rc) (.int .i64 (safe5 : Int)) (.bool rot) (.int .i64 (lv : Int))) := Lib.hid ⟨lb, K5, n5, F5, v5, name, f5, bs, rs, safe5, rot, nx, BA, bc, NA, nn, nc, RA, rc, lv,
          ⟨rfl, rfl, rfl, rfl, rfl, rfl, rfl, by omega, by omega, by omega, hls5.more (by omega), HPA.out.base.turn hf5 hm5, HPA.out.nxt, HPA.out.nl, HPA.out.row.turn hf5 hm5, HPA.out.rn⟩⟩
        clear hls5 hf5 hm5 HSY y0 y1
        rcases hx5 with ⟨rfl, hs5⟩ | ⟨hx5, hs5⟩
        · rw [hs5] at HP5
          go_wp2_with fail
          exact ⟨⟨j + 1, by omega, by go_num, HP5⟩, by simp [intOf]; omega⟩
        · rw [hs5] at HP5
          have hx0 : (x5 == 0) = false := beq_eq_false_iff_ne.2 hx5
          go_wp2_with fail
          exact ⟨⟨j + 1, by omega, by go_num, HP5⟩, by simp [intOf]; omega⟩
      have q2 : (kd == 2) = false := beq_eq_false_iff_ne.2 k2
      by_cases k3 : kd = 3
      · subst k3
        have HRT := Lib.hid (HPA.out.ls.rotate (c := dc) (by omega) hzb (by omega) (HDY.out.below HPA.out.ls.bel) HDB.out (by omega))
        go_wp2_with fail
        refine HRT.out.mono ?_
        rintro e w5 (⟨K5, n5, F5, v5, nm5, f5, x5, bs5, rs5, safe5, rot5, nx5, rfl, hx5, hnm5, hK5, hls5, hf5, hm5⟩ | ⟨rfl, rfl⟩)
        · have hob5 : w5.heap[ob]? = some (.cells #[.int .i64 3, .slice dA dn dc, .slice kA kn kc] 53 (0, 0)) := (hf5.block ob (heapK_lt HOB.out) HOBW.out.1).trans HOB.out
          have y5 := cellK_of_heap hob5 (i := 1) (x := .slice dA dn dc) rfl
          rcases hx5 with ⟨rfl, h1, h2, h3, h4, h5⟩ | ⟨rfl, h1, h2, h3, h4, h5⟩
          · rw [h1, h2, h3, h4, h5] at hls5
            have HP5 : Hid (LX w w5 db mb (j + 1) (.pointer (some ⟨lb, 0, none⟩)) (.slice dA dn dc) (.slice NA nn nc) (.slice none 0 0) (.int .i64 0) (.bool rot) (.int .i64 (lv : Int))) := Lib.hid ⟨lb, K5, n5, F5, v5, nm5, f5, ds, [], 0, rot, nx, dA, dc, NA, nn, nc, none, 0, lv,
              ⟨rfl, by rw [HDY.out.1], rfl, rfl, rfl, rfl, rfl, by omega, by omega, by omega, hls5.more (by omega), by rw [HDY.out.1]; exact RdK.of_rd (HDY.out.below hls5.bel) hls5.bel.size (fun b hb h => by have := hls5.ge b h; omega), HPA.out.nxt, HPA.out.nl, Row.nil_ _ _ _, fun _ => rfl⟩⟩
            clear hls5 hf5 hm5 HRT y0 y1 hob5 h1 h2 h3 h4 h5
            go_wp2_with fail
            exact ⟨⟨j + 1, by omega, by go_num, HP5⟩, by simp [intOf]; omega⟩
          · rw [h1, h2, h3, h4, h5] at hls5
            have HP5 : Hid (LX w w5 db mb (j + 1) (.pointer (some ⟨lb, 0, none⟩)) (.slice BA bs.length bc) (.slice dA dn dc) (.slice RA rs.length rc) (.int .i64 (safe : Int)) (.bool true) (.int .i64 (lv : Int))) := Lib.hid ⟨lb, K5, n5, F5, v5, nm5, f5, bs, rs, safe, true, ds, BA, bc, dA, dn, dc, RA, rc, lv,
              ⟨rfl, rfl, rfl, rfl, rfl, rfl, rfl, by omega, by omega, by omega, hls5.more (by omega), HPA.out.base.turn hf5 hm5, fun _ => HDY.out, by omega, HPA.out.row.turn hf5 hm5, HPA.out.rn⟩⟩
            clear hls5 hf5 hm5 HRT y0 y1 hob5 h1 h2 h3 h4 h5
            go_wp2_with fail
            exact ⟨⟨j + 1, by omega, by go_num, HP5⟩, by simp [intOf]; omega⟩
        · clear HRT y0 y1
          go_wp2_with fail
          exact ⟨⟨j + 1, by omega, by go_num, HSAME⟩, by simp [intOf]; omega⟩
      have q3 : (kd == 3) = false := beq_eq_false_iff_ne.2 k3
      by_cases k4 : kd = 4
      · subst k4
        have y2 := cellK_of_heap HOB.out (i := 2) (x := .slice kA kn kc) rfl
        have HCR := Lib.hid (HPA.out.ls.crash (ck := kc) (by omega) hzb (HKS.out.below HPA.out.ls.bel) hknj)
        go_wp2_with fail
        refine HCR.out.mono ?_
        rintro e w5 ⟨rfl, K5, s5, G, hK5, hdk5, hsz5, hs5, hcr5, hf5, hm5⟩
        have hb05 : Below w.heap.size w w5 := HPA.out.ls.bel.trans ((hf5.below HPA.out.ls.dk).mono HPA.out.ls.mbge)
        have HOP := Lib.hid (ls_reopen (wr := w) (K := 0) HPA.out.ls.lf HPA.out.ls.fl hcr5 hdk5 (by omega) hzb hsz5 hs5 HPA.out.ls.mbge hb05)
        have hfw5 : Fr W w5 (WM db mb F lb v) := hf5.less (fun b hb => .inl (.inl hb))
        have HBASE5 : Hid (RdK w5 (WM db mb F lb v) BA bs.length bs) := Lib.hid (HPA.out.base.turn hfw5 (fun b hb => .inl hb))
        have HROW5 : Hid (Row w5 (WM db mb F lb v) w.heap.size (.slice RA rs.length rc) rs) := Lib.hid (HPA.out.row.turn hfw5 (fun b hb => .inl hb))
        have HMG : Hid (∀ b, Mine db mb G b → WM db mb F lb v b) := Lib.hid (fun b hb => .inl (.inl (hm5 b hb)))
        clear hdk5 hsz5 hs5 hcr5 hf5 hm5 hb05 hfw5 HCR y0 y1 y2
        go_wp2_with fail
        refine HOP.out.mono ?_
        rintro e w6 ⟨lb6, K6, nm6, n6, F6, v6, f6, bs6, rs6, rfl, hK6, hnm6, halt, hls6, hL6, hf6, hm6⟩
        have hfw6 : Fr w5 w6 (WM db mb F lb v) := hf6.less (fun b hb => HMG.out b hb)
        have hmw6 : ∀ b, WM db mb F6 lb6 v6 b → WM db mb F lb v b ∨ w5.heap.size ≤ b := fun b hb => (hm6 b hb).imp (fun h => HMG.out b h) id
        have HLS6 := Lib.hid hls6
        have HL6 := Lib.hid hL6
        have HBASE6 : Hid (RdK w6 (WM db mb F6 lb6 v6) BA bs.length bs) := Lib.hid (HBASE5.out.turn hfw6 hmw6)
        have HROW6 : Hid (Row w6 (WM db mb F6 lb6 v6) w.heap.size (.slice RA rs.length rc) rs) := Lib.hid (HROW5.out.turn hfw6 hmw6)
        have HRL6 : rs6.length ≤ 900000 := hls6.rl hzb
        have HRL : rs.length ≤ 900000 := HPA.out.ls.rl hzb
        have HOK6 : bs6.length ≤ 65535 := hls6.lf.okb.2
        have HOKB : bs.length ≤ 65535 := HPA.out.ls.lf.okb.2
        have HVB : Hid (v6.bn = bs6.length) := Lib.hid hL6.base.1.symm
        have HRC := Lib.hid (records_any2 hL6 (by omega))
        obtain ⟨gl, hgl⟩ : ∃ gl, rs6.length = gl := ⟨_, rfl⟩
        rw [hgl] at HRC HRL6
        have HGL := Lib.hid hgl
        have hnl := HPA.out.nl
        have hrcap := HPA.out.row.capR
        have hsr := HPA.out.ls.lf.sr
        have HNXT := Lib.hid HPA.out.nxt
        clear hls6 hL6 hf6 hm6 hfw6 hmw6 HOP HBASE5 HROW5 hgl
        go_wp2_with fail
        refine HRC.out.mono ?_
        rintro e w7 ⟨A7, c7, rfl, hrow7, hb7, hA7⟩
        have HROW7 := Lib.hid hrow7
        have HA7 := Lib.hid hA7
        have HCUR : Hid (Below w6.heap.size w6 w7) := Lib.hid hb7
        have HC7 : Hid (Below w7.heap.size w7 w7) := Lib.hid (Below.refl _ _)
        clear hrow7 hb7 hA7 HRC
        have HFIN : Hid (∀ (wx : World) (Ax : Option Addr) (cx : Nat), Below w6.heap.size w6 wx → Below w7.heap.size w7 wx → RdK wx (WM db mb F6 lb6 v6) Ax bs6.length bs6 → LX w wx db mb (j + 1) (.pointer (some ⟨lb6, 0, none⟩)) (.slice Ax bs6.length cx) (.slice NA nn nc) (.slice A7 gl c7) (.int .i64 (gl : Int)) (.bool false) (.int .i64 ((lv : Int) + 1))) := Lib.hid (fun wx Ax cx h6 h7 hb =>
          ⟨lb6, K6, n6, F6, v6, nm6, f6, bs6, rs6, rs6.length, false, [], Ax, cx, NA, nn, nc, A7, c7, lv + 1,
            ⟨rfl, rfl, rfl, by rw [HGL.out], by rw [HGL.out], rfl, by rw [show (lv : Int) + 1 = ((lv + 1 : Nat) : Int) by omega], by omega, by omega, by omega, (HLS6.out.below h6).more (by omega), hb, fun h => (by cases h), hnl, by rw [HGL.out]; exact ((HROW7.out.below h7).turn (Fr.refl _ _) (fun b hb => .inl (HLS6.out.lt b hb))).low HLS6.out.bel.size, fun h => HA7.out (by rw [← HGL.out]; exact h)⟩⟩)
        have HFINA : Hid (∀ (wx wz : World) (Ax : Option Addr) (cx : Nat) (x : Int), -9223372036854775808 ≤ x → x ≤ 9223372036854775807 → Below w6.heap.size w6 wx → Below w7.heap.size w7 wx → RdK wx (WM db mb F6 lb6 v6) Ax bs6.length bs6 → Dk wz db mb K6 { n6 with left := max x (-1) } F6 → Fr wx wz (Mine db mb F6) → LX w wz db mb (j + 1) (.pointer (some ⟨lb6, 0, none⟩)) (.slice Ax bs6.length cx) (.slice NA nn nc) (.slice A7 gl c7) (.int .i64 (gl : Int)) (.bool false) (.int .i64 ((lv : Int) + 1))) := Lib.hid (fun wx wz Ax cx x hx0 hx1 h6 h7 hb hk hf => by
          have hfw : Fr wx wz (WM db mb F6 lb6 v6) := hf.less (fun b hb => .inl (.inl hb))
          exact ⟨lb6, K6, _, F6, v6, nm6, f6, bs6, rs6, rs6.length, false, [], Ax, cx, NA, nn, nc, A7, c7, lv + 1,
            ⟨rfl, rfl, rfl, by rw [HGL.out], by rw [HGL.out], rfl, by rw [show (lv : Int) + 1 = ((lv + 1 : Nat) : Int) by omega], by omega, by omega, by omega, ((HLS6.out.below h6).armed hk hf hx1).more (by omega), hb.turn hfw (fun b hb => .inl hb), fun h => (by cases h), hnl, by rw [HGL.out]; exact ((((HROW7.out.below h7).turn (Fr.refl _ _) (fun b hb => .inl (HLS6.out.lt b hb))).turn hfw (fun b hb => .inl hb))).low HLS6.out.bel.size, fun h => HA7.out (by rw [← HGL.out]; exact h)⟩⟩)
        rcases halt with ⟨hr1, hbe, hrse⟩ | ⟨hbe, q, hq1, hq2, hrse⟩
        · subst hr1
          have HNX := Lib.hid (HNXT.out rfl)
          have HS1 : Hid (sameY bs6 nx = true) := Lib.hid (by rw [hbe]; exact sameY_refl _)
          obtain rfl : gl = 0 := by rw [← HGL.out, hrse]; rfl
          have hglr : 0 ≤ rs.length := by omega
          have hmin : min (0 : Int) (rs.length : Int) = 0 := by omega
          have HS14 : Hid (sameT 0 (fun j => rs6.getD j []) 0 (fun j => rs.getD j []) = true) := Lib.hid (sameT_yes (fun i hi => absurd hi (by omega)))
          have d5 : decide ((0 : Int) ≤ (rs.length : Int)) = true := by simp
          clear hbe hrse HPA
          by_cases h3 : sameY bs6 bs = true
          · have HS2 : Hid (sameY bs6 bs = true) := Lib.hid h3
            by_cases h4 : safe ≤ 0
            · have d4 : decide ((safe : Int) ≤ 0) = true := by simp; omega
              by_cases hlv : lv < na
              · obtain ⟨ba, oa, eA, hba, hca⟩ := HAR.out.2 (by omega)
                have hbd0 := HBD.out lv hlv
                subst eA
                have HAX : Hid (∀ W : World, Below w.heap.size w W → W.cell? ⟨ba, oa + lv, none⟩ = some (.int .i64 (ix zs lv))) := Lib.hid (fun W hW => (hW.cell (p := ⟨ba, oa + lv, none⟩) hba).trans (hca lv hlv))
                have hdl : ((lv : Int) < (na : Int)) := by omega
                have hdl2 : decide ((lv : Int) < (na : Int)) = true := decide_eq_true hdl
                clear hca
                as_aux_lemma =>
                  go_wp2_with fail
                  have HBA := base_any (HL6.out.turn (Fr.of_below HCUR.out) (D' := fun b => b < w5.heap.size) (fun b hb => .inl hb))
                  rw [HVB.out] at HBA
                  refine HBA.mono ?_
                  rintro e wx ⟨Ax, cx, rfl, hox, hbx⟩
                  have HRB := Lib.hid (hox.rd (Below.refl _ _))
                  have HBN : Hid (RdK wx (WM db mb F6 lb6 v6) Ax bs6.length bs6) := Lib.hid (RdK.of_own hox (fun b hb h => by have h1 := HLS6.out.lt b h; have h2 := HCUR.out.size; omega))
                  replace HC7 := Lib.hid (HC7.out.trans (hbx.mono HC7.out.size))
                  replace HCUR := Lib.hid (HCUR.out.trans (hbx.mono HCUR.out.size))
                  clear hox hbx HBA
                  go_wp2_with fail
                  have HSM := sameY_any (c := cx) (d := nc) HRB.out ((HNX.out.below (HLS6.out.bel.trans (HCUR.out.mono HLS6.out.bel.size))).more (Nat.le_trans HLS6.out.bel.size HCUR.out.size)) (by omega) (by omega)
                  rw [HS1.out] at HSM
                  refine HSM.mono ?_
                  rintro e wy ⟨rfl, qy, hqy⟩
                  replace HC7 : Hid (Below w7.heap.size w7 wy) := Lib.hid (by rw [hqy]; exact below_drewN HC7.out qy)
                  replace HCUR : Hid (Below w6.heap.size w6 wy) := Lib.hid (by rw [hqy]; exact below_drewN HCUR.out qy)
                  clear hqy HSM
                  go_wp2_with fail
                  have HBA := base_any (HL6.out.turn (Fr.of_below HCUR.out) (D' := fun b => b < w5.heap.size) (fun b hb => .inl hb))
                  rw [HVB.out] at HBA
                  refine HBA.mono ?_
                  rintro e wx ⟨Ax, cx, rfl, hox, hbx⟩
                  have HRB := Lib.hid (hox.rd (Below.refl _ _))
                  have HBN : Hid (RdK wx (WM db mb F6 lb6 v6) Ax bs6.length bs6) := Lib.hid (RdK.of_own hox (fun b hb h => by have h1 := HLS6.out.lt b h; have h2 := HCUR.out.size; omega))
                  replace HC7 := Lib.hid (HC7.out.trans (hbx.mono HC7.out.size))
                  replace HCUR := Lib.hid (HCUR.out.trans (hbx.mono HCUR.out.size))
                  clear hox hbx HBA
                  go_wp2_with fail
                  have HSM := sameY_any (c := cx) (d := bc) HRB.out (HBASE6.out.below HCUR.out).rd (by omega) (by omega)
                  rw [HS2.out] at HSM
                  refine HSM.mono ?_
                  rintro e wy ⟨rfl, qy, hqy⟩
                  replace HC7 : Hid (Below w7.heap.size w7 wy) := Lib.hid (by rw [hqy]; exact below_drewN HC7.out qy)
                  replace HCUR : Hid (Below w6.heap.size w6 wy) := Lib.hid (by rw [hqy]; exact below_drewN HCUR.out qy)
                  clear hqy HSM
                  go_wp2_with fail
                  have HSM := same14_any (k := 0) (m := 0) (c := c7) (d := rc) ((HROW7.out.below HC7.out).rdTk HGL.out) ((HROW6.out.below HCUR.out).rdT.less hglr) (by omega) (by omega)
                  rw [HS14.out] at HSM
                  refine HSM.mono ?_
                  rintro e wy ⟨rfl, qy, hqy⟩
                  replace HC7 : Hid (Below w7.heap.size w7 wy) := Lib.hid (by rw [hqy]; exact below_drewN HC7.out qy)
                  replace HCUR : Hid (Below w6.heap.size w6 wy) := Lib.hid (by rw [hqy]; exact below_drewN HCUR.out qy)
                  clear hqy HSM
                  go_wp2_with fail
                  have HBA := base_any (HL6.out.turn (Fr.of_below HCUR.out) (D' := fun b => b < w5.heap.size) (fun b hb => .inl hb))
                  rw [HVB.out] at HBA
                  refine HBA.mono ?_
                  rintro e wx ⟨Ax, cx, rfl, hox, hbx⟩
                  have HRB := Lib.hid (hox.rd (Below.refl _ _))
                  have HBN : Hid (RdK wx (WM db mb F6 lb6 v6) Ax bs6.length bs6) := Lib.hid (RdK.of_own hox (fun b hb h => by have h1 := HLS6.out.lt b h; have h2 := HCUR.out.size; omega))
                  replace HC7 := Lib.hid (HC7.out.trans (hbx.mono HC7.out.size))
                  replace HCUR := Lib.hid (HCUR.out.trans (hbx.mono HCUR.out.size))
                  clear hox hbx HBA
                  have hax := HAX.out wx (HLS6.out.bel.trans (HCUR.out.mono HLS6.out.bel.size))
                  have HARM := Lib.hid (arm_any (HLS6.out.below HCUR.out).dk (ix zs lv))
                  go_wp2_with fail
                  refine HARM.out.mono ?_
                  rintro e wz ⟨rfl, hkz, hfz⟩
                  have HPZ := Lib.hid (HFINA.out wx wz Ax cx (ix zs lv) hbd0.1 hbd0.2 HCUR.out HC7.out HBN.out hkz hfz)
                  clear hkz hfz HARM
                  go_wp2_with fail
                  exact ⟨⟨j + 1, by omega, by go_num, HPZ⟩, by simp [intOf]; omega⟩
              · have hdl : ¬ ((lv : Int) < (na : Int)) := by omega
                have hdl2 : decide ((lv : Int) < (na : Int)) = false := decide_eq_false hdl
                as_aux_lemma =>
                  go_wp2_with fail
                  have HBA := base_any (HL6.out.turn (Fr.of_below HCUR.out) (D' := fun b => b < w5.heap.size) (fun b hb => .inl hb))
                  rw [HVB.out] at HBA
                  refine HBA.mono ?_
                  rintro e wx ⟨Ax, cx, rfl, hox, hbx⟩
                  have HRB := Lib.hid (hox.rd (Below.refl _ _))
                  have HBN : Hid (RdK wx (WM db mb F6 lb6 v6) Ax bs6.length bs6) := Lib.hid (RdK.of_own hox (fun b hb h => by have h1 := HLS6.out.lt b h; have h2 := HCUR.out.size; omega))
                  replace HC7 := Lib.hid (HC7.out.trans (hbx.mono HC7.out.size))
                  replace HCUR := Lib.hid (HCUR.out.trans (hbx.mono HCUR.out.size))
                  clear hox hbx HBA
                  go_wp2_with fail
                  have HSM := sameY_any (c := cx) (d := nc) HRB.out ((HNX.out.below (HLS6.out.bel.trans (HCUR.out.mono HLS6.out.bel.size))).more (Nat.le_trans HLS6.out.bel.size HCUR.out.size)) (by omega) (by omega)
                  rw [HS1.out] at HSM
                  refine HSM.mono ?_
                  rintro e wy ⟨rfl, qy, hqy⟩
                  replace HC7 : Hid (Below w7.heap.size w7 wy) := Lib.hid (by rw [hqy]; exact below_drewN HC7.out qy)
                  replace HCUR : Hid (Below w6.heap.size w6 wy) := Lib.hid (by rw [hqy]; exact below_drewN HCUR.out qy)
                  clear hqy HSM
                  go_wp2_with fail
                  have HBA := base_any (HL6.out.turn (Fr.of_below HCUR.out) (D' := fun b => b < w5.heap.size) (fun b hb => .inl hb))
                  rw [HVB.out] at HBA
                  refine HBA.mono ?_
                  rintro e wx ⟨Ax, cx, rfl, hox, hbx⟩
                  have HRB := Lib.hid (hox.rd (Below.refl _ _))
                  have HBN : Hid (RdK wx (WM db mb F6 lb6 v6) Ax bs6.length bs6) := Lib.hid (RdK.of_own hox (fun b hb h => by have h1 := HLS6.out.lt b h; have h2 := HCUR.out.size; omega))
                  replace HC7 := Lib.hid (HC7.out.trans (hbx.mono HC7.out.size))
                  replace HCUR := Lib.hid (HCUR.out.trans (hbx.mono HCUR.out.size))
                  clear hox hbx HBA
                  go_wp2_with fail
                  have HSM := sameY_any (c := cx) (d := bc) HRB.out (HBASE6.out.below HCUR.out).rd (by omega) (by omega)
                  rw [HS2.out] at HSM
                  refine HSM.mono ?_
                  rintro e wy ⟨rfl, qy, hqy⟩
                  replace HC7 : Hid (Below w7.heap.size w7 wy) := Lib.hid (by rw [hqy]; exact below_drewN HC7.out qy)
                  replace HCUR : Hid (Below w6.heap.size w6 wy) := Lib.hid (by rw [hqy]; exact below_drewN HCUR.out qy)
                  clear hqy HSM
                  go_wp2_with fail
                  have HSM := same14_any (k := 0) (m := 0) (c := c7) (d := rc) ((HROW7.out.below HC7.out).rdTk HGL.out) ((HROW6.out.below HCUR.out).rdT.less hglr) (by omega) (by omega)
                  rw [HS14.out] at HSM
                  refine HSM.mono ?_
                  rintro e wy ⟨rfl, qy, hqy⟩
                  replace HC7 : Hid (Below w7.heap.size w7 wy) := Lib.hid (by rw [hqy]; exact below_drewN HC7.out qy)
                  replace HCUR : Hid (Below w6.heap.size w6 wy) := Lib.hid (by rw [hqy]; exact below_drewN HCUR.out qy)
                  clear hqy HSM
                  go_wp2_with fail
                  have HBA := base_any (HL6.out.turn (Fr.of_below HCUR.out) (D' := fun b => b < w5.heap.size) (fun b hb => .inl hb))
                  rw [HVB.out] at HBA
                  refine HBA.mono ?_
                  rintro e wx ⟨Ax, cx, rfl, hox, hbx⟩
                  have HRB := Lib.hid (hox.rd (Below.refl _ _))
                  have HBN : Hid (RdK wx (WM db mb F6 lb6 v6) Ax bs6.length bs6) := Lib.hid (RdK.of_own hox (fun b hb h => by have h1 := HLS6.out.lt b h; have h2 := HCUR.out.size; omega))
                  replace HC7 := Lib.hid (HC7.out.trans (hbx.mono HC7.out.size))
                  replace HCUR := Lib.hid (HCUR.out.trans (hbx.mono HCUR.out.size))
                  clear hox hbx HBA
                  go_wp2_with fail
                  exact ⟨⟨j + 1, by omega, by go_num, Lib.hid (HFIN.out _ _ _ HCUR.out HC7.out HBN.out)⟩, by simp [intOf]; omega⟩
            · have d4 : decide ((safe : Int) ≤ 0) = false := by simp; omega
              by_cases hlv : lv < na
              · obtain ⟨ba, oa, eA, hba, hca⟩ := HAR.out.2 (by omega)
                have hbd0 := HBD.out lv hlv
                subst eA
                have HAX : Hid (∀ W : World, Below w.heap.size w W → W.cell? ⟨ba, oa + lv, none⟩ = some (.int .i64 (ix zs lv))) := Lib.hid (fun W hW => (hW.cell (p := ⟨ba, oa + lv, none⟩) hba).trans (hca lv hlv))
                have hdl : ((lv : Int) < (na : Int)) := by omega
                have hdl2 : decide ((lv : Int) < (na : Int)) = true := decide_eq_true hdl
                clear hca
                as_aux_lemma =>
                  go_wp2_with fail
                  have HBA := base_any (HL6.out.turn (Fr.of_below HCUR.out) (D' := fun b => b < w5.heap.size) (fun b hb => .inl hb))
                  rw [HVB.out] at HBA
                  refine HBA.mono ?_
                  rintro e wx ⟨Ax, cx, rfl, hox, hbx⟩
                  have HRB := Lib.hid (hox.rd (Below.refl _ _))
                  have HBN : Hid (RdK wx (WM db mb F6 lb6 v6) Ax bs6.length bs6) := Lib.hid (RdK.of_own hox (fun b hb h => by have h1 := HLS6.out.lt b h; have h2 := HCUR.out.size; omega))
                  replace HC7 := Lib.hid (HC7.out.trans (hbx.mono HC7.out.size))
                  replace HCUR := Lib.hid (HCUR.out.trans (hbx.mono HCUR.out.size))
                  clear hox hbx HBA
                  go_wp2_with fail
                  have HSM := sameY_any (c := cx) (d := nc) HRB.out ((HNX.out.below (HLS6.out.bel.trans (HCUR.out.mono HLS6.out.bel.size))).more (Nat.le_trans HLS6.out.bel.size HCUR.out.size)) (by omega) (by omega)
                  rw [HS1.out] at HSM
                  refine HSM.mono ?_
                  rintro e wy ⟨rfl, qy, hqy⟩
                  replace HC7 : Hid (Below w7.heap.size w7 wy) := Lib.hid (by rw [hqy]; exact below_drewN HC7.out qy)
                  replace HCUR : Hid (Below w6.heap.size w6 wy) := Lib.hid (by rw [hqy]; exact below_drewN HCUR.out qy)
                  clear hqy HSM
                  go_wp2_with fail
                  have HBA := base_any (HL6.out.turn (Fr.of_below HCUR.out) (D' := fun b => b < w5.heap.size) (fun b hb => .inl hb))
                  rw [HVB.out] at HBA
                  refine HBA.mono ?_
                  rintro e wx ⟨Ax, cx, rfl, hox, hbx⟩
                  have HRB := Lib.hid (hox.rd (Below.refl _ _))
                  have HBN : Hid (RdK wx (WM db mb F6 lb6 v6) Ax bs6.length bs6) := Lib.hid (RdK.of_own hox (fun b hb h => by have h1 := HLS6.out.lt b h; have h2 := HCUR.out.size; omega))
                  replace HC7 := Lib.hid (HC7.out.trans (hbx.mono HC7.out.size))
                  replace HCUR := Lib.hid (HCUR.out.trans (hbx.mono HCUR.out.size))
                  clear hox hbx HBA
                  go_wp2_with fail
                  have HSM := sameY_any (c := cx) (d := bc) HRB.out (HBASE6.out.below HCUR.out).rd (by omega) (by omega)
                  rw [HS2.out] at HSM
                  refine HSM.mono ?_
                  rintro e wy ⟨rfl, qy, hqy⟩
                  replace HC7 : Hid (Below w7.heap.size w7 wy) := Lib.hid (by rw [hqy]; exact below_drewN HC7.out qy)
                  replace HCUR : Hid (Below w6.heap.size w6 wy) := Lib.hid (by rw [hqy]; exact below_drewN HCUR.out qy)
                  clear hqy HSM
                  go_wp2_with fail
                  have HBA := base_any (HL6.out.turn (Fr.of_below HCUR.out) (D' := fun b => b < w5.heap.size) (fun b hb => .inl hb))
                  rw [HVB.out] at HBA
                  refine HBA.mono ?_
                  rintro e wx ⟨Ax, cx, rfl, hox, hbx⟩
                  have HRB := Lib.hid (hox.rd (Below.refl _ _))
                  have HBN : Hid (RdK wx (WM db mb F6 lb6 v6) Ax bs6.length bs6) := Lib.hid (RdK.of_own hox (fun b hb h => by have h1 := HLS6.out.lt b h; have h2 := HCUR.out.size; omega))
                  replace HC7 := Lib.hid (HC7.out.trans (hbx.mono HC7.out.size))
                  replace HCUR := Lib.hid (HCUR.out.trans (hbx.mono HCUR.out.size))
                  clear hox hbx HBA
                  have hax := HAX.out wx (HLS6.out.bel.trans (HCUR.out.mono HLS6.out.bel.size))
                  have HARM := Lib.hid (arm_any (HLS6.out.below HCUR.out).dk (ix zs lv))
                  go_wp2_with fail
                  refine HARM.out.mono ?_
                  rintro e wz ⟨rfl, hkz, hfz⟩
                  have HPZ := Lib.hid (HFINA.out wx wz Ax cx (ix zs lv) hbd0.1 hbd0.2 HCUR.out HC7.out HBN.out hkz hfz)
                  clear hkz hfz HARM
                  go_wp2_with fail
                  exact ⟨⟨j + 1, by omega, by go_num, HPZ⟩, by simp [intOf]; omega⟩
              · have hdl : ¬ ((lv : Int) < (na : Int)) := by omega
                have hdl2 : decide ((lv : Int) < (na : Int)) = false := decide_eq_false hdl
                as_aux_lemma =>
                  go_wp2_with fail
                  have HBA := base_any (HL6.out.turn (Fr.of_below HCUR.out) (D' := fun b => b < w5.heap.size) (fun b hb => .inl hb))
                  rw [HVB.out] at HBA
                  refine HBA.mono ?_
                  rintro e wx ⟨Ax, cx, rfl, hox, hbx⟩
                  have HRB := Lib.hid (hox.rd (Below.refl _ _))
                  have HBN : Hid (RdK wx (WM db mb F6 lb6 v6) Ax bs6.length bs6) := Lib.hid (RdK.of_own hox (fun b hb h => by have h1 := HLS6.out.lt b h; have h2 := HCUR.out.size; omega))
                  replace HC7 := Lib.hid (HC7.out.trans (hbx.mono HC7.out.size))
                  replace HCUR := Lib.hid (HCUR.out.trans (hbx.mono HCUR.out.size))
                  clear hox hbx HBA
                  go_wp2_with fail
                  have HSM := sameY_any (c := cx) (d := nc) HRB.out ((HNX.out.below (HLS6.out.bel.trans (HCUR.out.mono HLS6.out.bel.size))).more (Nat.le_trans HLS6.out.bel.size HCUR.out.size)) (by omega) (by omega)
                  rw [HS1.out] at HSM
                  refine HSM.mono ?_
                  rintro e wy ⟨rfl, qy, hqy⟩
                  replace HC7 : Hid (Below w7.heap.size w7 wy) := Lib.hid (by rw [hqy]; exact below_drewN HC7.out qy)
                  replace HCUR : Hid (Below w6.heap.size w6 wy) := Lib.hid (by rw [hqy]; exact below_drewN HCUR.out qy)
                  clear hqy HSM
                  go_wp2_with fail
                  have HBA := base_any (HL6.out.turn (Fr.of_below HCUR.out) (D' := fun b => b < w5.heap.size) (fun b hb => .inl hb))
                  rw [HVB.out] at HBA
                  refine HBA.mono ?_
                  rintro e wx ⟨Ax, cx, rfl, hox, hbx⟩
                  have HRB := Lib.hid (hox.rd (Below.refl _ _))
                  have HBN : Hid (RdK wx (WM db mb F6 lb6 v6) Ax bs6.length bs6) := Lib.hid (RdK.of_own hox (fun b hb h => by have h1 := HLS6.out.lt b h; have h2 := HCUR.out.size; omega))
                  replace HC7 := Lib.hid (HC7.out.trans (hbx.mono HC7.out.size))
                  replace HCUR := Lib.hid (HCUR.out.trans (hbx.mono HCUR.out.size))
                  clear hox hbx HBA
                  go_wp2_with fail
                  have HSM := sameY_any (c := cx) (d := bc) HRB.out (HBASE6.out.below HCUR.out).rd (by omega) (by omega)
                  rw [HS2.out] at HSM
                  refine HSM.mono ?_
                  rintro e wy ⟨rfl, qy, hqy⟩
                  replace HC7 : Hid (Below w7.heap.size w7 wy) := Lib.hid (by rw [hqy]; exact below_drewN HC7.out qy)
                  replace HCUR : Hid (Below w6.heap.size w6 wy) := Lib.hid (by rw [hqy]; exact below_drewN HCUR.out qy)
                  clear hqy HSM
                  go_wp2_with fail
                  have HBA := base_any (HL6.out.turn (Fr.of_below HCUR.out) (D' := fun b => b < w5.heap.size) (fun b hb => .inl hb))
                  rw [HVB.out] at HBA
                  refine HBA.mono ?_
                  rintro e wx ⟨Ax, cx, rfl, hox, hbx⟩
                  have HRB := Lib.hid (hox.rd (Below.refl _ _))
                  have HBN : Hid (RdK wx (WM db mb F6 lb6 v6) Ax bs6.length bs6) := Lib.hid (RdK.of_own hox (fun b hb h => by have h1 := HLS6.out.lt b h; have h2 := HCUR.out.size; omega))
                  replace HC7 := Lib.hid (HC7.out.trans (hbx.mono HC7.out.size))
                  replace HCUR := Lib.hid (HCUR.out.trans (hbx.mono HCUR.out.size))
                  clear hox hbx HBA
                  go_wp2_with fail
                  exact ⟨⟨j + 1, by omega, by go_num, Lib.hid (HFIN.out _ _ _ HCUR.out HC7.out HBN.out)⟩, by simp [intOf]; omega⟩
          · have HS2 : Hid (sameY bs6 bs = false) := Lib.hid (Bool.eq_false_iff.2 h3)
            by_cases hlv : lv < na
            · obtain ⟨ba, oa, eA, hba, hca⟩ := HAR.out.2 (by omega)
              have hbd0 := HBD.out lv hlv
              subst eA
              have HAX : Hid (∀ W : World, Below w.heap.size w W → W.cell? ⟨ba, oa + lv, none⟩ = some (.int .i64 (ix zs lv))) := Lib.hid (fun W hW => (hW.cell (p := ⟨ba, oa + lv, none⟩) hba).trans (hca lv hlv))
              have hdl : ((lv : Int) < (na : Int)) := by omega
              have hdl2 : decide ((lv : Int) < (na : Int)) = true := decide_eq_true hdl
              clear hca
              as_aux_lemma =>
                go_wp2_with fail
                have HBA := base_any (HL6.out.turn (Fr.of_below HCUR.out) (D' := fun b => b < w5.heap.size) (fun b hb => .inl hb))
                rw [HVB.out] at HBA
                refine HBA.mono ?_
                rintro e wx ⟨Ax, cx, rfl, hox, hbx⟩
                have HRB := Lib.hid (hox.rd (Below.refl _ _))
                have HBN : Hid (RdK wx (WM db mb F6 lb6 v6) Ax bs6.length bs6) := Lib.hid (RdK.of_own hox (fun b hb h => by have h1 := HLS6.out.lt b h; have h2 := HCUR.out.size; omega))
                replace HC7 := Lib.hid (HC7.out.trans (hbx.mono HC7.out.size))
                replace HCUR := Lib.hid (HCUR.out.trans (hbx.mono HCUR.out.size))
                clear hox hbx HBA
                go_wp2_with fail
                have HSM := sameY_any (c := cx) (d := nc) HRB.out ((HNX.out.below (HLS6.out.bel.trans (HCUR.out.mono HLS6.out.bel.size))).more (Nat.le_trans HLS6.out.bel.size HCUR.out.size)) (by omega) (by omega)
                rw [HS1.out] at HSM
                refine HSM.mono ?_
                rintro e wy ⟨rfl, qy, hqy⟩
                replace HC7 : Hid (Below w7.heap.size w7 wy) := Lib.hid (by rw [hqy]; exact below_drewN HC7.out qy)
                replace HCUR : Hid (Below w6.heap.size w6 wy) := Lib.hid (by rw [hqy]; exact below_drewN HCUR.out qy)
                clear hqy HSM
                go_wp2_with fail
                have HBA := base_any (HL6.out.turn (Fr.of_below HCUR.out) (D' := fun b => b < w5.heap.size) (fun b hb => .inl hb))
                rw [HVB.out] at HBA
                refine HBA.mono ?_
                rintro e wx ⟨Ax, cx, rfl, hox, hbx⟩
                have HRB := Lib.hid (hox.rd (Below.refl _ _))
                have HBN : Hid (RdK wx (WM db mb F6 lb6 v6) Ax bs6.length bs6) := Lib.hid (RdK.of_own hox (fun b hb h => by have h1 := HLS6.out.lt b h; have h2 := HCUR.out.size; omega))
                replace HC7 := Lib.hid (HC7.out.trans (hbx.mono HC7.out.size))
                replace HCUR := Lib.hid (HCUR.out.trans (hbx.mono HCUR.out.size))
                clear hox hbx HBA
                go_wp2_with fail
                have HSM := sameY_any (c := cx) (d := bc) HRB.out (HBASE6.out.below HCUR.out).rd (by omega) (by omega)
                rw [HS2.out] at HSM
                refine HSM.mono ?_
                rintro e wy ⟨rfl, qy, hqy⟩
                replace HC7 : Hid (Below w7.heap.size w7 wy) := Lib.hid (by rw [hqy]; exact below_drewN HC7.out qy)
                replace HCUR : Hid (Below w6.heap.size w6 wy) := Lib.hid (by rw [hqy]; exact below_drewN HCUR.out qy)
                clear hqy HSM
                go_wp2_with fail
                have HBA := base_any (HL6.out.turn (Fr.of_below HCUR.out) (D' := fun b => b < w5.heap.size) (fun b hb => .inl hb))
                rw [HVB.out] at HBA
                refine HBA.mono ?_
                rintro e wx ⟨Ax, cx, rfl, hox, hbx⟩
                have HRB := Lib.hid (hox.rd (Below.refl _ _))
                have HBN : Hid (RdK wx (WM db mb F6 lb6 v6) Ax bs6.length bs6) := Lib.hid (RdK.of_own hox (fun b hb h => by have h1 := HLS6.out.lt b h; have h2 := HCUR.out.size; omega))
                replace HC7 := Lib.hid (HC7.out.trans (hbx.mono HC7.out.size))
                replace HCUR := Lib.hid (HCUR.out.trans (hbx.mono HCUR.out.size))
                clear hox hbx HBA
                have hax := HAX.out wx (HLS6.out.bel.trans (HCUR.out.mono HLS6.out.bel.size))
                have HARM := Lib.hid (arm_any (HLS6.out.below HCUR.out).dk (ix zs lv))
                go_wp2_with fail
                refine HARM.out.mono ?_
                rintro e wz ⟨rfl, hkz, hfz⟩
                have HPZ := Lib.hid (HFINA.out wx wz Ax cx (ix zs lv) hbd0.1 hbd0.2 HCUR.out HC7.out HBN.out hkz hfz)
                clear hkz hfz HARM
                go_wp2_with fail
                exact ⟨⟨j + 1, by omega, by go_num, HPZ⟩, by simp [intOf]; omega⟩
            · have hdl : ¬ ((lv : Int) < (na : Int)) := by omega
              have hdl2 : decide ((lv : Int) < (na : Int)) = false := decide_eq_false hdl
              as_aux_lemma =>
                go_wp2_with fail
                have HBA := base_any (HL6.out.turn (Fr.of_below HCUR.out) (D' := fun b => b < w5.heap.size) (fun b hb => .inl hb))
                rw [HVB.out] at HBA
                refine HBA.mono ?_
                rintro e wx ⟨Ax, cx, rfl, hox, hbx⟩
                have HRB := Lib.hid (hox.rd (Below.refl _ _))
                have HBN : Hid (RdK wx (WM db mb F6 lb6 v6) Ax bs6.length bs6) := Lib.hid (RdK.of_own hox (fun b hb h => by have h1 := HLS6.out.lt b h; have h2 := HCUR.out.size; omega))
                replace HC7 := Lib.hid (HC7.out.trans (hbx.mono HC7.out.size))
                replace HCUR := Lib.hid (HCUR.out.trans (hbx.mono HCUR.out.size))
                clear hox hbx HBA
                go_wp2_with fail
                have HSM := sameY_any (c := cx) (d := nc) HRB.out ((HNX.out.below (HLS6.out.bel.trans (HCUR.out.mono HLS6.out.bel.size))).more (Nat.le_trans HLS6.out.bel.size HCUR.out.size)) (by omega) (by omega)
                rw [HS1.out] at HSM
                refine HSM.mono ?_
                rintro e wy ⟨rfl, qy, hqy⟩
                replace HC7 : Hid (Below w7.heap.size w7 wy) := Lib.hid (by rw [hqy]; exact below_drewN HC7.out qy)
                replace HCUR : Hid (Below w6.heap.size w6 wy) := Lib.hid (by rw [hqy]; exact below_drewN HCUR.out qy)
                clear hqy HSM
                go_wp2_with fail
                have HBA := base_any (HL6.out.turn (Fr.of_below HCUR.out) (D' := fun b => b < w5.heap.size) (fun b hb => .inl hb))
                rw [HVB.out] at HBA
                refine HBA.mono ?_
                rintro e wx ⟨Ax, cx, rfl, hox, hbx⟩
                have HRB := Lib.hid (hox.rd (Below.refl _ _))
                have HBN : Hid (RdK wx (WM db mb F6 lb6 v6) Ax bs6.length bs6) := Lib.hid (RdK.of_own hox (fun b hb h => by have h1 := HLS6.out.lt b h; have h2 := HCUR.out.size; omega))
                replace HC7 := Lib.hid (HC7.out.trans (hbx.mono HC7.out.size))
                replace HCUR := Lib.hid (HCUR.out.trans (hbx.mono HCUR.out.size))
                clear hox hbx HBA
                go_wp2_with fail
                have HSM := sameY_any (c := cx) (d := bc) HRB.out (HBASE6.out.below HCUR.out).rd (by omega) (by omega)
                rw [HS2.out] at HSM
                refine HSM.mono ?_
                rintro e wy ⟨rfl, qy, hqy⟩
                replace HC7 : Hid (Below w7.heap.size w7 wy) := Lib.hid (by rw [hqy]; exact below_drewN HC7.out qy)
                replace HCUR : Hid (Below w6.heap.size w6 wy) := Lib.hid (by rw [hqy]; exact below_drewN HCUR.out qy)
                clear hqy HSM
                go_wp2_with fail
                have HBA := base_any (HL6.out.turn (Fr.of_below HCUR.out) (D' := fun b => b < w5.heap.size) (fun b hb => .inl hb))
                rw [HVB.out] at HBA
                refine HBA.mono ?_
                rintro e wx ⟨Ax, cx, rfl, hox, hbx⟩
                have HRB := Lib.hid (hox.rd (Below.refl _ _))
                have HBN : Hid (RdK wx (WM db mb F6 lb6 v6) Ax bs6.length bs6) := Lib.hid (RdK.of_own hox (fun b hb h => by have h1 := HLS6.out.lt b h; have h2 := HCUR.out.size; omega))
                replace HC7 := Lib.hid (HC7.out.trans (hbx.mono HC7.out.size))
                replace HCUR := Lib.hid (HCUR.out.trans (hbx.mono HCUR.out.size))
                clear hox hbx HBA
                go_wp2_with fail
                exact ⟨⟨j + 1, by omega, by go_num, Lib.hid (HFIN.out _ _ _ HCUR.out HC7.out HBN.out)⟩, by simp [intOf]; omega⟩
        · have hgq : gl = q := by rw [← HGL.out, hrse, List.length_take]; omega
          have hglr : gl ≤ rs.length := by omega
          have HS2 : Hid (sameY bs6 bs = true) := Lib.hid (by rw [hbe]; exact sameY_refl _)
          have hmin : min (gl : Int) (rs.length : Int) = (gl : Int) := by omega
          have hcap : (gl : Int) ≤ (rc : Int) := by omega
          have HS14 : Hid (sameT gl (fun j => rs6.getD j []) gl (fun j => rs.getD j []) = true) := Lib.hid (sameT_yes (fun i hi => by rw [hrse]; simp [List.getD, show i < q by omega]))
          have d4 : decide ((safe : Int) ≤ (gl : Int)) = true := by simp; omega
          have d5 : decide ((gl : Int) ≤ (rs.length : Int)) = true := by simp; omega
          have hsg : safe ≤ gl := by omega
          clear hbe hrse HPA hgq hq1 hq2
          cases rot with
          | false =>
            by_cases hlv : lv < na
            · obtain ⟨ba, oa, eA, hba, hca⟩ := HAR.out.2 (by omega)
              have hbd0 := HBD.out lv hlv
              subst eA
              have HAX : Hid (∀ W : World, Below w.heap.size w W → W.cell? ⟨ba, oa + lv, none⟩ = some (.int .i64 (ix zs lv))) := Lib.hid (fun W hW => (hW.cell (p := ⟨ba, oa + lv, none⟩) hba).trans (hca lv hlv))
              have hdl : ((lv : Int) < (na : Int)) := by omega
              have hdl2 : decide ((lv : Int) < (na : Int)) = true := decide_eq_true hdl
              clear hca
              as_aux_lemma =>
                go_wp2_with fail
                have HBA := base_any (HL6.out.turn (Fr.of_below HCUR.out) (D' := fun b => b < w5.heap.size) (fun b hb => .inl hb))
                rw [HVB.out] at HBA
                refine HBA.mono ?_
                rintro e wx ⟨Ax, cx, rfl, hox, hbx⟩
                have HRB := Lib.hid (hox.rd (Below.refl _ _))
                have HBN : Hid (RdK wx (WM db mb F6 lb6 v6) Ax bs6.length bs6) := Lib.hid (RdK.of_own hox (fun b hb h => by have h1 := HLS6.out.lt b h; have h2 := HCUR.out.size; omega))
                replace HC7 := Lib.hid (HC7.out.trans (hbx.mono HC7.out.size))
                replace HCUR := Lib.hid (HCUR.out.trans (hbx.mono HCUR.out.size))
                clear hox hbx HBA
                go_wp2_with fail
                have HSM := sameY_any (c := cx) (d := bc) HRB.out (HBASE6.out.below HCUR.out).rd (by omega) (by omega)
                rw [HS2.out] at HSM
                refine HSM.mono ?_
                rintro e wy ⟨rfl, qy, hqy⟩
                replace HC7 : Hid (Below w7.heap.size w7 wy) := Lib.hid (by rw [hqy]; exact below_drewN HC7.out qy)
                replace HCUR : Hid (Below w6.heap.size w6 wy) := Lib.hid (by rw [hqy]; exact below_drewN HCUR.out qy)
                clear hqy HSM
                go_wp2_with fail
                have HSM := same14_any (k := gl) (m := gl) (c := c7) (d := rc) ((HROW7.out.below HC7.out).rdTk HGL.out) ((HROW6.out.below HCUR.out).rdT.less hglr) (by omega) (by omega)
                rw [HS14.out] at HSM
                refine HSM.mono ?_
                rintro e wy ⟨rfl, qy, hqy⟩
                replace HC7 : Hid (Below w7.heap.size w7 wy) := Lib.hid (by rw [hqy]; exact below_drewN HC7.out qy)
                replace HCUR : Hid (Below w6.heap.size w6 wy) := Lib.hid (by rw [hqy]; exact below_drewN HCUR.out qy)
                clear hqy HSM
                go_wp2_with fail
                have HBA := base_any (HL6.out.turn (Fr.of_below HCUR.out) (D' := fun b => b < w5.heap.size) (fun b hb => .inl hb))
                rw [HVB.out] at HBA
                refine HBA.mono ?_
                rintro e wx ⟨Ax, cx, rfl, hox, hbx⟩
                have HRB := Lib.hid (hox.rd (Below.refl _ _))
                have HBN : Hid (RdK wx (WM db mb F6 lb6 v6) Ax bs6.length bs6) := Lib.hid (RdK.of_own hox (fun b hb h => by have h1 := HLS6.out.lt b h; have h2 := HCUR.out.size; omega))
                replace HC7 := Lib.hid (HC7.out.trans (hbx.mono HC7.out.size))
                replace HCUR := Lib.hid (HCUR.out.trans (hbx.mono HCUR.out.size))
                clear hox hbx HBA
                have hax := HAX.out wx (HLS6.out.bel.trans (HCUR.out.mono HLS6.out.bel.size))
                have HARM := Lib.hid (arm_any (HLS6.out.below HCUR.out).dk (ix zs lv))
                go_wp2_with fail
                refine HARM.out.mono ?_
                rintro e wz ⟨rfl, hkz, hfz⟩
                have HPZ := Lib.hid (HFINA.out wx wz Ax cx (ix zs lv) hbd0.1 hbd0.2 HCUR.out HC7.out HBN.out hkz hfz)
                clear hkz hfz HARM
                go_wp2_with fail
                exact ⟨⟨j + 1, by omega, by go_num, HPZ⟩, by simp [intOf]; omega⟩
            · have hdl : ¬ ((lv : Int) < (na : Int)) := by omega
              have hdl2 : decide ((lv : Int) < (na : Int)) = false := decide_eq_false hdl
              as_aux_lemma =>
                go_wp2_with fail
                have HBA := base_any (HL6.out.turn (Fr.of_below HCUR.out) (D' := fun b => b < w5.heap.size) (fun b hb => .inl hb))
                rw [HVB.out] at HBA
                refine HBA.mono ?_
                rintro e wx ⟨Ax, cx, rfl, hox, hbx⟩
                have HRB := Lib.hid (hox.rd (Below.refl _ _))
                have HBN : Hid (RdK wx (WM db mb F6 lb6 v6) Ax bs6.length bs6) := Lib.hid (RdK.of_own hox (fun b hb h => by have h1 := HLS6.out.lt b h; have h2 := HCUR.out.size; omega))
                replace HC7 := Lib.hid (HC7.out.trans (hbx.mono HC7.out.size))
                replace HCUR := Lib.hid (HCUR.out.trans (hbx.mono HCUR.out.size))
                clear hox hbx HBA
                go_wp2_with fail
                have HSM := sameY_any (c := cx) (d := bc) HRB.out (HBASE6.out.below HCUR.out).rd (by omega) (by omega)
                rw [HS2.out] at HSM
                refine HSM.mono ?_
                rintro e wy ⟨rfl, qy, hqy⟩
                replace HC7 : Hid (Below w7.heap.size w7 wy) := Lib.hid (by rw [hqy]; exact below_drewN HC7.out qy)
                replace HCUR : Hid (Below w6.heap.size w6 wy) := Lib.hid (by rw [hqy]; exact below_drewN HCUR.out qy)
                clear hqy HSM
                go_wp2_with fail
                have HSM := same14_any (k := gl) (m := gl) (c := c7) (d := rc) ((HROW7.out.below HC7.out).rdTk HGL.out) ((HROW6.out.below HCUR.out).rdT.less hglr) (by omega) (by omega)
                rw [HS14.out] at HSM
                refine HSM.mono ?_
                rintro e wy ⟨rfl, qy, hqy⟩
                replace HC7 : Hid (Below w7.heap.size w7 wy) := Lib.hid (by rw [hqy]; exact below_drewN HC7.out qy)
                replace HCUR : Hid (Below w6.heap.size w6 wy) := Lib.hid (by rw [hqy]; exact below_drewN HCUR.out qy)
                clear hqy HSM
                go_wp2_with fail
                have HBA := base_any (HL6.out.turn (Fr.of_below HCUR.out) (D' := fun b => b < w5.heap.size) (fun b hb => .inl hb))
                rw [HVB.out] at HBA
                refine HBA.mono ?_
                rintro e wx ⟨Ax, cx, rfl, hox, hbx⟩
                have HRB := Lib.hid (hox.rd (Below.refl _ _))
                have HBN : Hid (RdK wx (WM db mb F6 lb6 v6) Ax bs6.length bs6) := Lib.hid (RdK.of_own hox (fun b hb h => by have h1 := HLS6.out.lt b h; have h2 := HCUR.out.size; omega))
                replace HC7 := Lib.hid (HC7.out.trans (hbx.mono HC7.out.size))
                replace HCUR := Lib.hid (HCUR.out.trans (hbx.mono HCUR.out.size))
                clear hox hbx HBA
                go_wp2_with fail
                exact ⟨⟨j + 1, by omega, by go_num, Lib.hid (HFIN.out _ _ _ HCUR.out HC7.out HBN.out)⟩, by simp [intOf]; omega⟩
          | true =>
            have HNX := Lib.hid (HNXT.out rfl)
            by_cases h1 : sameY bs6 nx = true
            · have HS1 : Hid (sameY bs6 nx = true) := Lib.hid h1
              by_cases hg0 : gl = 0
              · subst hg0
                have hmin2 : min (0 : Int) (rs.length : Int) = 0 := by omega
                have d42 : decide ((safe : Int) ≤ 0) = true := by simp; omega
                have d52 : decide ((0 : Int) ≤ (rs.length : Int)) = true := by simp
                clear hmin hcap d4 d5
                by_cases hlv : lv < na
                · obtain ⟨ba, oa, eA, hba, hca⟩ := HAR.out.2 (by omega)
                  have hbd0 := HBD.out lv hlv
                  subst eA
                  have HAX : Hid (∀ W : World, Below w.heap.size w W → W.cell? ⟨ba, oa + lv, none⟩ = some (.int .i64 (ix zs lv))) := Lib.hid (fun W hW => (hW.cell (p := ⟨ba, oa + lv, none⟩) hba).trans (hca lv hlv))
                  have hdl : ((lv : Int) < (na : Int)) := by omega
                  have hdl2 : decide ((lv : Int) < (na : Int)) = true := decide_eq_true hdl
                  clear hca
                  as_aux_lemma =>
                    go_wp2_with fail
                    have HBA := base_any (HL6.out.turn (Fr.of_below HCUR.out) (D' := fun b => b < w5.heap.size) (fun b hb => .inl hb))
                    rw [HVB.out] at HBA
                    refine HBA.mono ?_
                    rintro e wx ⟨Ax, cx, rfl, hox, hbx⟩
                    have HRB := Lib.hid (hox.rd (Below.refl _ _))
                    have HBN : Hid (RdK wx (WM db mb F6 lb6 v6) Ax bs6.length bs6) := Lib.hid (RdK.of_own hox (fun b hb h => by have h1 := HLS6.out.lt b h; have h2 := HCUR.out.size; omega))
                    replace HC7 := Lib.hid (HC7.out.trans (hbx.mono HC7.out.size))
                    replace HCUR := Lib.hid (HCUR.out.trans (hbx.mono HCUR.out.size))
                    clear hox hbx HBA
                    go_wp2_with fail
                    have HSM := sameY_any (c := cx) (d := nc) HRB.out ((HNX.out.below (HLS6.out.bel.trans (HCUR.out.mono HLS6.out.bel.size))).more (Nat.le_trans HLS6.out.bel.size HCUR.out.size)) (by omega) (by omega)
                    rw [HS1.out] at HSM
                    refine HSM.mono ?_
                    rintro e wy ⟨rfl, qy, hqy⟩
                    replace HC7 : Hid (Below w7.heap.size w7 wy) := Lib.hid (by rw [hqy]; exact below_drewN HC7.out qy)
                    replace HCUR : Hid (Below w6.heap.size w6 wy) := Lib.hid (by rw [hqy]; exact below_drewN HCUR.out qy)
                    clear hqy HSM
                    go_wp2_with fail
                    have HBA := base_any (HL6.out.turn (Fr.of_below HCUR.out) (D' := fun b => b < w5.heap.size) (fun b hb => .inl hb))
                    rw [HVB.out] at HBA
                    refine HBA.mono ?_
                    rintro e wx ⟨Ax, cx, rfl, hox, hbx⟩
                    have HRB := Lib.hid (hox.rd (Below.refl _ _))
                    have HBN : Hid (RdK wx (WM db mb F6 lb6 v6) Ax bs6.length bs6) := Lib.hid (RdK.of_own hox (fun b hb h => by have h1 := HLS6.out.lt b h; have h2 := HCUR.out.size; omega))
                    replace HC7 := Lib.hid (HC7.out.trans (hbx.mono HC7.out.size))
                    replace HCUR := Lib.hid (HCUR.out.trans (hbx.mono HCUR.out.size))
                    clear hox hbx HBA
                    go_wp2_with fail
                    have HSM := sameY_any (c := cx) (d := bc) HRB.out (HBASE6.out.below HCUR.out).rd (by omega) (by omega)
                    rw [HS2.out] at HSM
                    refine HSM.mono ?_
                    rintro e wy ⟨rfl, qy, hqy⟩
                    replace HC7 : Hid (Below w7.heap.size w7 wy) := Lib.hid (by rw [hqy]; exact below_drewN HC7.out qy)
                    replace HCUR : Hid (Below w6.heap.size w6 wy) := Lib.hid (by rw [hqy]; exact below_drewN HCUR.out qy)
                    clear hqy HSM
                    go_wp2_with fail
                    have HSM := same14_any (k := 0) (m := 0) (c := c7) (d := rc) ((HROW7.out.below HC7.out).rdTk HGL.out) ((HROW6.out.below HCUR.out).rdT.less hglr) (by omega) (by omega)
                    rw [HS14.out] at HSM
                    refine HSM.mono ?_
                    rintro e wy ⟨rfl, qy, hqy⟩
                    replace HC7 : Hid (Below w7.heap.size w7 wy) := Lib.hid (by rw [hqy]; exact below_drewN HC7.out qy)
                    replace HCUR : Hid (Below w6.heap.size w6 wy) := Lib.hid (by rw [hqy]; exact below_drewN HCUR.out qy)
                    clear hqy HSM
                    go_wp2_with fail
                    have HBA := base_any (HL6.out.turn (Fr.of_below HCUR.out) (D' := fun b => b < w5.heap.size) (fun b hb => .inl hb))
                    rw [HVB.out] at HBA
                    refine HBA.mono ?_
                    rintro e wx ⟨Ax, cx, rfl, hox, hbx⟩
                    have HRB := Lib.hid (hox.rd (Below.refl _ _))
                    have HBN : Hid (RdK wx (WM db mb F6 lb6 v6) Ax bs6.length bs6) := Lib.hid (RdK.of_own hox (fun b hb h => by have h1 := HLS6.out.lt b h; have h2 := HCUR.out.size; omega))
                    replace HC7 := Lib.hid (HC7.out.trans (hbx.mono HC7.out.size))
                    replace HCUR := Lib.hid (HCUR.out.trans (hbx.mono HCUR.out.size))
                    clear hox hbx HBA
                    have hax := HAX.out wx (HLS6.out.bel.trans (HCUR.out.mono HLS6.out.bel.size))
                    have HARM := Lib.hid (arm_any (HLS6.out.below HCUR.out).dk (ix zs lv))
                    go_wp2_with fail
                    refine HARM.out.mono ?_
                    rintro e wz ⟨rfl, hkz, hfz⟩
                    have HPZ := Lib.hid (HFINA.out wx wz Ax cx (ix zs lv) hbd0.1 hbd0.2 HCUR.out HC7.out HBN.out hkz hfz)
                    clear hkz hfz HARM
                    go_wp2_with fail
                    exact ⟨⟨j + 1, by omega, by go_num, HPZ⟩, by simp [intOf]; omega⟩
                · have hdl : ¬ ((lv : Int) < (na : Int)) := by omega
                  have hdl2 : decide ((lv : Int) < (na : Int)) = false := decide_eq_false hdl
                  as_aux_lemma =>
                    go_wp2_with fail
                    have HBA := base_any (HL6.out.turn (Fr.of_below HCUR.out) (D' := fun b => b < w5.heap.size) (fun b hb => .inl hb))
                    rw [HVB.out] at HBA
                    refine HBA.mono ?_
                    rintro e wx ⟨Ax, cx, rfl, hox, hbx⟩
                    have HRB := Lib.hid (hox.rd (Below.refl _ _))
                    have HBN : Hid (RdK wx (WM db mb F6 lb6 v6) Ax bs6.length bs6) := Lib.hid (RdK.of_own hox (fun b hb h => by have h1 := HLS6.out.lt b h; have h2 := HCUR.out.size; omega))
                    replace HC7 := Lib.hid (HC7.out.trans (hbx.mono HC7.out.size))
                    replace HCUR := Lib.hid (HCUR.out.trans (hbx.mono HCUR.out.size))
                    clear hox hbx HBA
                    go_wp2_with fail
                    have HSM := sameY_any (c := cx) (d := nc) HRB.out ((HNX.out.below (HLS6.out.bel.trans (HCUR.out.mono HLS6.out.bel.size))).more (Nat.le_trans HLS6.out.bel.size HCUR.out.size)) (by omega) (by omega)
                    rw [HS1.out] at HSM
                    refine HSM.mono ?_
                    rintro e wy ⟨rfl, qy, hqy⟩
                    replace HC7 : Hid (Below w7.heap.size w7 wy) := Lib.hid (by rw [hqy]; exact below_drewN HC7.out qy)
                    replace HCUR : Hid (Below w6.heap.size w6 wy) := Lib.hid (by rw [hqy]; exact below_drewN HCUR.out qy)
                    clear hqy HSM
                    go_wp2_with fail
                    have HBA := base_any (HL6.out.turn (Fr.of_below HCUR.out) (D' := fun b => b < w5.heap.size) (fun b hb => .inl hb))
                    rw [HVB.out] at HBA
                    refine HBA.mono ?_
                    rintro e wx ⟨Ax, cx, rfl, hox, hbx⟩
                    have HRB := Lib.hid (hox.rd (Below.refl _ _))
                    have HBN : Hid (RdK wx (WM db mb F6 lb6 v6) Ax bs6.length bs6) := Lib.hid (RdK.of_own hox (fun b hb h => by have h1 := HLS6.out.lt b h; have h2 := HCUR.out.size; omega))
                    replace HC7 := Lib.hid (HC7.out.trans (hbx.mono HC7.out.size))
                    replace HCUR := Lib.hid (HCUR.out.trans (hbx.mono HCUR.out.size))
                    clear hox hbx HBA
                    go_wp2_with fail
                    have HSM := sameY_any (c := cx) (d := bc) HRB.out (HBASE6.out.below HCUR.out).rd (by omega) (by omega)
                    rw [HS2.out] at HSM
                    refine HSM.mono ?_
                    rintro e wy ⟨rfl, qy, hqy⟩
                    replace HC7 : Hid (Below w7.heap.size w7 wy) := Lib.hid (by rw [hqy]; exact below_drewN HC7.out qy)
                    replace HCUR : Hid (Below w6.heap.size w6 wy) := Lib.hid (by rw [hqy]; exact below_drewN HCUR.out qy)
                    clear hqy HSM
                    go_wp2_with fail
                    have HSM := same14_any (k := 0) (m := 0) (c := c7) (d := rc) ((HROW7.out.below HC7.out).rdTk HGL.out) ((HROW6.out.below HCUR.out).rdT.less hglr) (by omega) (by omega)
                    rw [HS14.out] at HSM
                    refine HSM.mono ?_
                    rintro e wy ⟨rfl, qy, hqy⟩
                    replace HC7 : Hid (Below w7.heap.size w7 wy) := Lib.hid (by rw [hqy]; exact below_drewN HC7.out qy)
                    replace HCUR : Hid (Below w6.heap.size w6 wy) := Lib.hid (by rw [hqy]; exact below_drewN HCUR.out qy)
                    clear hqy HSM
                    go_wp2_with fail
                    have HBA := base_any (HL6.out.turn (Fr.of_below HCUR.out) (D' := fun b => b < w5.heap.size) (fun b hb => .inl hb))
                    rw [HVB.out] at HBA
                    refine HBA.mono ?_
                    rintro e wx ⟨Ax, cx, rfl, hox, hbx⟩
                    have HRB := Lib.hid (hox.rd (Below.refl _ _))
                    have HBN : Hid (RdK wx (WM db mb F6 lb6 v6) Ax bs6.length bs6) := Lib.hid (RdK.of_own hox (fun b hb h => by have h1 := HLS6.out.lt b h; have h2 := HCUR.out.size; omega))
                    replace HC7 := Lib.hid (HC7.out.trans (hbx.mono HC7.out.size))
                    replace HCUR := Lib.hid (HCUR.out.trans (hbx.mono HCUR.out.size))
                    clear hox hbx HBA
                    go_wp2_with fail
                    exact ⟨⟨j + 1, by omega, by go_num, Lib.hid (HFIN.out _ _ _ HCUR.out HC7.out HBN.out)⟩, by simp [intOf]; omega⟩
              · have hgl0 : ((gl : Int) == 0) = false := by simp [hg0]
                by_cases hlv : lv < na
                · obtain ⟨ba, oa, eA, hba, hca⟩ := HAR.out.2 (by omega)
                  have hbd0 := HBD.out lv hlv
                  subst eA
                  have HAX : Hid (∀ W : World, Below w.heap.size w W → W.cell? ⟨ba, oa + lv, none⟩ = some (.int .i64 (ix zs lv))) := Lib.hid (fun W hW => (hW.cell (p := ⟨ba, oa + lv, none⟩) hba).trans (hca lv hlv))
                  have hdl : ((lv : Int) < (na : Int)) := by omega
                  have hdl2 : decide ((lv : Int) < (na : Int)) = true := decide_eq_true hdl
                  clear hca
                  as_aux_lemma =>
                    go_wp2_with fail
                    have HBA := base_any (HL6.out.turn (Fr.of_below HCUR.out) (D' := fun b => b < w5.heap.size) (fun b hb => .inl hb))
                    rw [HVB.out] at HBA
                    refine HBA.mono ?_
                    rintro e wx ⟨Ax, cx, rfl, hox, hbx⟩
                    have HRB := Lib.hid (hox.rd (Below.refl _ _))
                    have HBN : Hid (RdK wx (WM db mb F6 lb6 v6) Ax bs6.length bs6) := Lib.hid (RdK.of_own hox (fun b hb h => by have h1 := HLS6.out.lt b h; have h2 := HCUR.out.size; omega))
                    replace HC7 := Lib.hid (HC7.out.trans (hbx.mono HC7.out.size))
                    replace HCUR := Lib.hid (HCUR.out.trans (hbx.mono HCUR.out.size))
                    clear hox hbx HBA
                    go_wp2_with fail
                    have HSM := sameY_any (c := cx) (d := nc) HRB.out ((HNX.out.below (HLS6.out.bel.trans (HCUR.out.mono HLS6.out.bel.size))).more (Nat.le_trans HLS6.out.bel.size HCUR.out.size)) (by omega) (by omega)
                    rw [HS1.out] at HSM
                    refine HSM.mono ?_
                    rintro e wy ⟨rfl, qy, hqy⟩
                    replace HC7 : Hid (Below w7.heap.size w7 wy) := Lib.hid (by rw [hqy]; exact below_drewN HC7.out qy)
                    replace HCUR : Hid (Below w6.heap.size w6 wy) := Lib.hid (by rw [hqy]; exact below_drewN HCUR.out qy)
                    clear hqy HSM
                    go_wp2_with fail
                    have HBA := base_any (HL6.out.turn (Fr.of_below HCUR.out) (D' := fun b => b < w5.heap.size) (fun b hb => .inl hb))
                    rw [HVB.out] at HBA
                    refine HBA.mono ?_
                    rintro e wx ⟨Ax, cx, rfl, hox, hbx⟩
                    have HRB := Lib.hid (hox.rd (Below.refl _ _))
                    have HBN : Hid (RdK wx (WM db mb F6 lb6 v6) Ax bs6.length bs6) := Lib.hid (RdK.of_own hox (fun b hb h => by have h1 := HLS6.out.lt b h; have h2 := HCUR.out.size; omega))
                    replace HC7 := Lib.hid (HC7.out.trans (hbx.mono HC7.out.size))
                    replace HCUR := Lib.hid (HCUR.out.trans (hbx.mono HCUR.out.size))
                    clear hox hbx HBA
                    go_wp2_with fail
                    have HSM := sameY_any (c := cx) (d := bc) HRB.out (HBASE6.out.below HCUR.out).rd (by omega) (by omega)
                    rw [HS2.out] at HSM
                    refine HSM.mono ?_
                    rintro e wy ⟨rfl, qy, hqy⟩
                    replace HC7 : Hid (Below w7.heap.size w7 wy) := Lib.hid (by rw [hqy]; exact below_drewN HC7.out qy)
                    replace HCUR : Hid (Below w6.heap.size w6 wy) := Lib.hid (by rw [hqy]; exact below_drewN HCUR.out qy)
                    clear hqy HSM
                    go_wp2_with fail
                    have HSM := same14_any (k := gl) (m := gl) (c := c7) (d := rc) ((HROW7.out.below HC7.out).rdTk HGL.out) ((HROW6.out.below HCUR.out).rdT.less hglr) (by omega) (by omega)
                    rw [HS14.out] at HSM
                    refine HSM.mono ?_
                    rintro e wy ⟨rfl, qy, hqy⟩
                    replace HC7 : Hid (Below w7.heap.size w7 wy) := Lib.hid (by rw [hqy]; exact below_drewN HC7.out qy)
                    replace HCUR : Hid (Below w6.heap.size w6 wy) := Lib.hid (by rw [hqy]; exact below_drewN HCUR.out qy)
                    clear hqy HSM
                    go_wp2_with fail
                    have HBA := base_any (HL6.out.turn (Fr.of_below HCUR.out) (D' := fun b => b < w5.heap.size) (fun b hb => .inl hb))
                    rw [HVB.out] at HBA
                    refine HBA.mono ?_
                    rintro e wx ⟨Ax, cx, rfl, hox, hbx⟩
                    have HRB := Lib.hid (hox.rd (Below.refl _ _))
                    have HBN : Hid (RdK wx (WM db mb F6 lb6 v6) Ax bs6.length bs6) := Lib.hid (RdK.of_own hox (fun b hb h => by have h1 := HLS6.out.lt b h; have h2 := HCUR.out.size; omega))
                    replace HC7 := Lib.hid (HC7.out.trans (hbx.mono HC7.out.size))
                    replace HCUR := Lib.hid (HCUR.out.trans (hbx.mono HCUR.out.size))
                    clear hox hbx HBA
                    have hax := HAX.out wx (HLS6.out.bel.trans (HCUR.out.mono HLS6.out.bel.size))
                    have HARM := Lib.hid (arm_any (HLS6.out.below HCUR.out).dk (ix zs lv))
                    go_wp2_with fail
                    refine HARM.out.mono ?_
                    rintro e wz ⟨rfl, hkz, hfz⟩
                    have HPZ := Lib.hid (HFINA.out wx wz Ax cx (ix zs lv) hbd0.1 hbd0.2 HCUR.out HC7.out HBN.out hkz hfz)
                    clear hkz hfz HARM
                    go_wp2_with fail
                    exact ⟨⟨j + 1, by omega, by go_num, HPZ⟩, by simp [intOf]; omega⟩
                · have hdl : ¬ ((lv : Int) < (na : Int)) := by omega
                  have hdl2 : decide ((lv : Int) < (na : Int)) = false := decide_eq_false hdl
                  as_aux_lemma =>
                    go_wp2_with fail
                    have HBA := base_any (HL6.out.turn (Fr.of_below HCUR.out) (D' := fun b => b < w5.heap.size) (fun b hb => .inl hb))
                    rw [HVB.out] at HBA
                    refine HBA.mono ?_
                    rintro e wx ⟨Ax, cx, rfl, hox, hbx⟩
                    have HRB := Lib.hid (hox.rd (Below.refl _ _))
                    have HBN : Hid (RdK wx (WM db mb F6 lb6 v6) Ax bs6.length bs6) := Lib.hid (RdK.of_own hox (fun b hb h => by have h1 := HLS6.out.lt b h; have h2 := HCUR.out.size; omega))
                    replace HC7 := Lib.hid (HC7.out.trans (hbx.mono HC7.out.size))
                    replace HCUR := Lib.hid (HCUR.out.trans (hbx.mono HCUR.out.size))
                    clear hox hbx HBA
                    go_wp2_with fail
                    have HSM := sameY_any (c := cx) (d := nc) HRB.out ((HNX.out.below (HLS6.out.bel.trans (HCUR.out.mono HLS6.out.bel.size))).more (Nat.le_trans HLS6.out.bel.size HCUR.out.size)) (by omega) (by omega)
                    rw [HS1.out] at HSM
                    refine HSM.mono ?_
                    rintro e wy ⟨rfl, qy, hqy⟩
                    replace HC7 : Hid (Below w7.heap.size w7 wy) := Lib.hid (by rw [hqy]; exact below_drewN HC7.out qy)
                    replace HCUR : Hid (Below w6.heap.size w6 wy) := Lib.hid (by rw [hqy]; exact below_drewN HCUR.out qy)
                    clear hqy HSM
                    go_wp2_with fail
                    have HBA := base_any (HL6.out.turn (Fr.of_below HCUR.out) (D' := fun b => b < w5.heap.size) (fun b hb => .inl hb))
                    rw [HVB.out] at HBA
                    refine HBA.mono ?_
                    rintro e wx ⟨Ax, cx, rfl, hox, hbx⟩
                    have HRB := Lib.hid (hox.rd (Below.refl _ _))
                    have HBN : Hid (RdK wx (WM db mb F6 lb6 v6) Ax bs6.length bs6) := Lib.hid (RdK.of_own hox (fun b hb h => by have h1 := HLS6.out.lt b h; have h2 := HCUR.out.size; omega))
                    replace HC7 := Lib.hid (HC7.out.trans (hbx.mono HC7.out.size))
                    replace HCUR := Lib.hid (HCUR.out.trans (hbx.mono HCUR.out.size))
                    clear hox hbx HBA
                    go_wp2_with fail
                    have HSM := sameY_any (c := cx) (d := bc) HRB.out (HBASE6.out.below HCUR.out).rd (by omega) (by omega)
                    rw [HS2.out] at HSM
                    refine HSM.mono ?_
                    rintro e wy ⟨rfl, qy, hqy⟩
                    replace HC7 : Hid (Below w7.heap.size w7 wy) := Lib.hid (by rw [hqy]; exact below_drewN HC7.out qy)
                    replace HCUR : Hid (Below w6.heap.size w6 wy) := Lib.hid (by rw [hqy]; exact below_drewN HCUR.out qy)
                    clear hqy HSM
                    go_wp2_with fail
                    have HSM := same14_any (k := gl) (m := gl) (c := c7) (d := rc) ((HROW7.out.below HC7.out).rdTk HGL.out) ((HROW6.out.below HCUR.out).rdT.less hglr) (by omega) (by omega)
                    rw [HS14.out] at HSM
                    refine HSM.mono ?_
                    rintro e wy ⟨rfl, qy, hqy⟩
                    replace HC7 : Hid (Below w7.heap.size w7 wy) := Lib.hid (by rw [hqy]; exact below_drewN HC7.out qy)
                    replace HCUR : Hid (Below w6.heap.size w6 wy) := Lib.hid (by rw [hqy]; exact below_drewN HCUR.out qy)
                    clear hqy HSM
                    go_wp2_with fail
                    have HBA := base_any (HL6.out.turn (Fr.of_below HCUR.out) (D' := fun b => b < w5.heap.size) (fun b hb => .inl hb))
                    rw [HVB.out] at HBA
                    refine HBA.mono ?_
                    rintro e wx ⟨Ax, cx, rfl, hox, hbx⟩
                    have HRB := Lib.hid (hox.rd (Below.refl _ _))
                    have HBN : Hid (RdK wx (WM db mb F6 lb6 v6) Ax bs6.length bs6) := Lib.hid (RdK.of_own hox (fun b hb h => by have h1 := HLS6.out.lt b h; have h2 := HCUR.out.size; omega))
                    replace HC7 := Lib.hid (HC7.out.trans (hbx.mono HC7.out.size))
                    replace HCUR := Lib.hid (HCUR.out.trans (hbx.mono HCUR.out.size))
                    clear hox hbx HBA
                    go_wp2_with fail
                    exact ⟨⟨j + 1, by omega, by go_num, Lib.hid (HFIN.out _ _ _ HCUR.out HC7.out HBN.out)⟩, by simp [intOf]; omega⟩
            · have HS1 : Hid (sameY bs6 nx = false) := Lib.hid (Bool.eq_false_iff.2 h1)
              by_cases hlv : lv < na
              · obtain ⟨ba, oa, eA, hba, hca⟩ := HAR.out.2 (by omega)
                have hbd0 := HBD.out lv hlv
                subst eA
                have HAX : Hid (∀ W : World, Below w.heap.size w W → W.cell? ⟨ba, oa + lv, none⟩ = some (.int .i64 (ix zs lv))) := Lib.hid (fun W hW => (hW.cell (p := ⟨ba, oa + lv, none⟩) hba).trans (hca lv hlv))
                have hdl : ((lv : Int) < (na : Int)) := by omega
                have hdl2 : decide ((lv : Int) < (na : Int)) = true := decide_eq_true hdl
                clear hca
                as_aux_lemma =>
                  go_wp2_with fail
                  have HBA := base_any (HL6.out.turn (Fr.of_below HCUR.out) (D' := fun b => b < w5.heap.size) (fun b hb => .inl hb))
                  rw [HVB.out] at HBA
                  refine HBA.mono ?_
                  rintro e wx ⟨Ax, cx, rfl, hox, hbx⟩
                  have HRB := Lib.hid (hox.rd (Below.refl _ _))
                  have HBN : Hid (RdK wx (WM db mb F6 lb6 v6) Ax bs6.length bs6) := Lib.hid (RdK.of_own hox (fun b hb h => by have h1 := HLS6.out.lt b h; have h2 := HCUR.out.size; omega))
                  replace HC7 := Lib.hid (HC7.out.trans (hbx.mono HC7.out.size))
                  replace HCUR := Lib.hid (HCUR.out.trans (hbx.mono HCUR.out.size))
                  clear hox hbx HBA
                  go_wp2_with fail
                  have HSM := sameY_any (c := cx) (d := nc) HRB.out ((HNX.out.below (HLS6.out.bel.trans (HCUR.out.mono HLS6.out.bel.size))).more (Nat.le_trans HLS6.out.bel.size HCUR.out.size)) (by omega) (by omega)
                  rw [HS1.out] at HSM
                  refine HSM.mono ?_
                  rintro e wy ⟨rfl, qy, hqy⟩
                  replace HC7 : Hid (Below w7.heap.size w7 wy) := Lib.hid (by rw [hqy]; exact below_drewN HC7.out qy)
                  replace HCUR : Hid (Below w6.heap.size w6 wy) := Lib.hid (by rw [hqy]; exact below_drewN HCUR.out qy)
                  clear hqy HSM
                  go_wp2_with fail
                  have HBA := base_any (HL6.out.turn (Fr.of_below HCUR.out) (D' := fun b => b < w5.heap.size) (fun b hb => .inl hb))
                  rw [HVB.out] at HBA
                  refine HBA.mono ?_
                  rintro e wx ⟨Ax, cx, rfl, hox, hbx⟩
                  have HRB := Lib.hid (hox.rd (Below.refl _ _))
                  have HBN : Hid (RdK wx (WM db mb F6 lb6 v6) Ax bs6.length bs6) := Lib.hid (RdK.of_own hox (fun b hb h => by have h1 := HLS6.out.lt b h; have h2 := HCUR.out.size; omega))
                  replace HC7 := Lib.hid (HC7.out.trans (hbx.mono HC7.out.size))
                  replace HCUR := Lib.hid (HCUR.out.trans (hbx.mono HCUR.out.size))
                  clear hox hbx HBA
                  go_wp2_with fail
                  have HSM := sameY_any (c := cx) (d := bc) HRB.out (HBASE6.out.below HCUR.out).rd (by omega) (by omega)
                  rw [HS2.out] at HSM
                  refine HSM.mono ?_
                  rintro e wy ⟨rfl, qy, hqy⟩
                  replace HC7 : Hid (Below w7.heap.size w7 wy) := Lib.hid (by rw [hqy]; exact below_drewN HC7.out qy)
                  replace HCUR : Hid (Below w6.heap.size w6 wy) := Lib.hid (by rw [hqy]; exact below_drewN HCUR.out qy)
                  clear hqy HSM
                  go_wp2_with fail
                  have HSM := same14_any (k := gl) (m := gl) (c := c7) (d := rc) ((HROW7.out.below HC7.out).rdTk HGL.out) ((HROW6.out.below HCUR.out).rdT.less hglr) (by omega) (by omega)
                  rw [HS14.out] at HSM
                  refine HSM.mono ?_
                  rintro e wy ⟨rfl, qy, hqy⟩
                  replace HC7 : Hid (Below w7.heap.size w7 wy) := Lib.hid (by rw [hqy]; exact below_drewN HC7.out qy)
                  replace HCUR : Hid (Below w6.heap.size w6 wy) := Lib.hid (by rw [hqy]; exact below_drewN HCUR.out qy)
                  clear hqy HSM
                  go_wp2_with fail
                  have HBA := base_any (HL6.out.turn (Fr.of_below HCUR.out) (D' := fun b => b < w5.heap.size) (fun b hb => .inl hb))
                  rw [HVB.out] at HBA
                  refine HBA.mono ?_
                  rintro e wx ⟨Ax, cx, rfl, hox, hbx⟩
                  have HRB := Lib.hid (hox.rd (Below.refl _ _))
                  have HBN : Hid (RdK wx (WM db mb F6 lb6 v6) Ax bs6.length bs6) := Lib.hid (RdK.of_own hox (fun b hb h => by have h1 := HLS6.out.lt b h; have h2 := HCUR.out.size; omega))
                  replace HC7 := Lib.hid (HC7.out.trans (hbx.mono HC7.out.size))
                  replace HCUR := Lib.hid (HCUR.out.trans (hbx.mono HCUR.out.size))
                  clear hox hbx HBA
                  have hax := HAX.out wx (HLS6.out.bel.trans (HCUR.out.mono HLS6.out.bel.size))
                  have HARM := Lib.hid (arm_any (HLS6.out.below HCUR.out).dk (ix zs lv))
                  go_wp2_with fail
                  refine HARM.out.mono ?_
                  rintro e wz ⟨rfl, hkz, hfz⟩
                  have HPZ := Lib.hid (HFINA.out wx wz Ax cx (ix zs lv) hbd0.1 hbd0.2 HCUR.out HC7.out HBN.out hkz hfz)
                  clear hkz hfz HARM
                  go_wp2_with fail
                  exact ⟨⟨j + 1, by omega, by go_num, HPZ⟩, by simp [intOf]; omega⟩
              · have hdl : ¬ ((lv : Int) < (na : Int)) := by omega
                have hdl2 : decide ((lv : Int) < (na : Int)) = false := decide_eq_false hdl
                as_aux_lemma =>
                  go_wp2_with fail
                  have HBA := base_any (HL6.out.turn (Fr.of_below HCUR.out) (D' := fun b => b < w5.heap.size) (fun b hb => .inl hb))
                  rw [HVB.out] at HBA
                  refine HBA.mono ?_
                  rintro e wx ⟨Ax, cx, rfl, hox, hbx⟩
                  have HRB := Lib.hid (hox.rd (Below.refl _ _))
                  have HBN : Hid (RdK wx (WM db mb F6 lb6 v6) Ax bs6.length bs6) := Lib.hid (RdK.of_own hox (fun b hb h => by have h1 := HLS6.out.lt b h; have h2 := HCUR.out.size; omega))
                  replace HC7 := Lib.hid (HC7.out.trans (hbx.mono HC7.out.size))
                  replace HCUR := Lib.hid (HCUR.out.trans (hbx.mono HCUR.out.size))
                  clear hox hbx HBA
                  go_wp2_with fail
                  have HSM := sameY_any (c := cx) (d := nc) HRB.out ((HNX.out.below (HLS6.out.bel.trans (HCUR.out.mono HLS6.out.bel.size))).more (Nat.le_trans HLS6.out.bel.size HCUR.out.size)) (by omega) (by omega)
                  rw [HS1.out] at HSM
                  refine HSM.mono ?_
                  rintro e wy ⟨rfl, qy, hqy⟩
                  replace HC7 : Hid (Below w7.heap.size w7 wy) := Lib.hid (by rw [hqy]; exact below_drewN HC7.out qy)
                  replace HCUR : Hid (Below w6.heap.size w6 wy) := Lib.hid (by rw [hqy]; exact below_drewN HCUR.out qy)
                  clear hqy HSM
                  go_wp2_with fail
                  have HBA := base_any (HL6.out.turn (Fr.of_below HCUR.out) (D' := fun b => b < w5.heap.size) (fun b hb => .inl hb))
                  rw [HVB.out] at HBA
                  refine HBA.mono ?_
                  rintro e wx ⟨Ax, cx, rfl, hox, hbx⟩
                  have HRB := Lib.hid (hox.rd (Below.refl _ _))
                  have HBN : Hid (RdK wx (WM db mb F6 lb6 v6) Ax bs6.length bs6) := Lib.hid (RdK.of_own hox (fun b hb h => by have h1 := HLS6.out.lt b h; have h2 := HCUR.out.size; omega))
                  replace HC7 := Lib.hid (HC7.out.trans (hbx.mono HC7.out.size))
                  replace HCUR := Lib.hid (HCUR.out.trans (hbx.mono HCUR.out.size))
                  clear hox hbx HBA
                  go_wp2_with fail
                  have HSM := sameY_any (c := cx) (d := bc) HRB.out (HBASE6.out.below HCUR.out).rd (by omega) (by omega)
                  rw [HS2.out] at HSM
                  refine HSM.mono ?_
                  rintro e wy ⟨rfl, qy, hqy⟩
                  replace HC7 : Hid (Below w7.heap.size w7 wy) := Lib.hid (by rw [hqy]; exact below_drewN HC7.out qy)
                  replace HCUR : Hid (Below w6.heap.size w6 wy) := Lib.hid (by rw [hqy]; exact below_drewN HCUR.out qy)
                  clear hqy HSM
                  go_wp2_with fail
                  have HSM := same14_any (k := gl) (m := gl) (c := c7) (d := rc) ((HROW7.out.below HC7.out).rdTk HGL.out) ((HROW6.out.below HCUR.out).rdT.less hglr) (by omega) (by omega)
                  rw [HS14.out] at HSM
                  refine HSM.mono ?_
                  rintro e wy ⟨rfl, qy, hqy⟩
                  replace HC7 : Hid (Below w7.heap.size w7 wy) := Lib.hid (by rw [hqy]; exact below_drewN HC7.out qy)
                  replace HCUR : Hid (Below w6.heap.size w6 wy) := Lib.hid (by rw [hqy]; exact below_drewN HCUR.out qy)
                  clear hqy HSM
                  go_wp2_with fail
                  have HBA := base_any (HL6.out.turn (Fr.of_below HCUR.out) (D' := fun b => b < w5.heap.size) (fun b hb => .inl hb))
                  rw [HVB.out] at HBA
                  refine HBA.mono ?_
                  rintro e wx ⟨Ax, cx, rfl, hox, hbx⟩
                  have HRB := Lib.hid (hox.rd (Below.refl _ _))
                  have HBN : Hid (RdK wx (WM db mb F6 lb6 v6) Ax bs6.length bs6) := Lib.hid (RdK.of_own hox (fun b hb h => by have h1 := HLS6.out.lt b h; have h2 := HCUR.out.size; omega))
                  replace HC7 := Lib.hid (HC7.out.trans (hbx.mono HC7.out.size))
                  replace HCUR := Lib.hid (HCUR.out.trans (hbx.mono HCUR.out.size))
                  clear hox hbx HBA
                  go_wp2_with fail
                  exact ⟨⟨j + 1, by omega, by go_num, Lib.hid (HFIN.out _ _ _ HCUR.out HC7.out HBN.out)⟩, by simp [intOf]; omega⟩
      have q4 : (kd == 4) = false := beq_eq_false_iff_ne.2 k4
      clear y1
      go_wp2_with fail
      exact ⟨⟨j + 1, by omega, by go_num, HSAME⟩, by simp [intOf]; omega⟩
    · go_wp2
      go_ret
      obtain ⟨lb, K, n, F, v, name, f, bs, rs, safe, rot, nx, BA, bc, NA, nn, nc, RA, rc, lv, HP0⟩ := HPX.out
      exact ⟨rfl, HP0.ls.bel⟩
end Go.Proofs.Ytadajkgiijpakaa
