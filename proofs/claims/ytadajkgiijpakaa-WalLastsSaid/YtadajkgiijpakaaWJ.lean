/-
  A DOCK WITH ONE LOG, over this translation: what an open log and its dock keep, call by call.
-/
import Derived.Test.YtadajkgiijpakaaWAnc
import Derived.Test.YtadajkgiijpakaaWRot
namespace Go.Proofs.Ytadajkgiijpakaa
open Go.RowKit
open ByteP
set_option linter.unusedVariables false
set_option maxRecDepth 10000
structure WJ (w : World) (B0 db mb lb K : Nat) (cap : Int) (name : Nat) (F : Int → Option Fi) (f : Fi) (v : LgV) (bs : List Int) (rs : List (List Int)) : Prop where
  dk : Dk w db mb K ⟨cap, ((logL bs rs).length : Int), -1, false⟩ F
  one : F name = some f
  oth : ∀ x, x ≠ (name : Int) → F x = none
  fb : f.bs = logL bs rs
  fn : f.n = (logL bs rs).length
  lg : Lg w (Mine db mb F) B0 lb v bs rs
  vdb : v.db = db
  vnm : v.nm = name
  vcl : v.cl = false
  vsz : v.sz = ((logL bs rs).length : Int)
  mbge : B0 ≤ mb
  base0 : B0 ≤ w.heap.size
section
variable {w w' : World} {B0 db mb lb K name : Nat} {cap : Int} {F : Int → Option Fi} {f : Fi} {v : LgV} {bs : List Int} {rs : List (List Int)}
/-- The blocks of both. -/
abbrev WM (db mb : Nat) (F : Int → Option Fi) (lb : Nat) (v : LgV) : Nat → Prop := LM (Mine db mb F) lb v
theorem WJ.ge (h : WJ w B0 db mb lb K cap name F f v bs rs) : ∀ b, WM db mb F lb v b → B0 ≤ b :=
  h.lg.frow (fun b hb => Nat.le_of_not_lt (fun h2 => h.dk.low (by have := h.mbge; omega) hb))
theorem WJ.bel (h : WJ w B0 db mb lb K cap name F f v bs rs) (hf : Fr w w' (WM db mb F lb v)) : Below B0 w w' := fr_base hf h.ge h.base0
theorem WJ.below (h : WJ w B0 db mb lb K cap name F f v bs rs) (hb : Below w.heap.size w w') : WJ w' B0 db mb lb K cap name F f v bs rs :=
  ⟨h.dk.below hb, h.one, h.oth, h.fb, h.fn, h.lg.below hb, h.vdb, h.vnm, h.vcl, h.vsz, h.mbge, Nat.le_trans h.base0 hb.size⟩
theorem WJ.input (h : WJ w B0 db mb lb K cap name F f v bs rs) {A : Option Addr} {m : Nat} {xs : List Int} (hx : RdY w B0 A m xs) : RdK w (WM db mb F lb v) A m xs :=
  RdK.of_rd hx h.base0 (fun b hb hm => by have := h.ge b hm; omega)
theorem putF_oth {x : Int} (h : WJ w B0 db mb lb K cap name F f v bs rs) (f' : Fi) (hx : x ≠ (name : Int)) : putF F (name : Int) f' x = none := by rw [putF_other _ _ hx]; exact h.oth x hx
theorem WJ.append (h : WJ w B0 db mb lb K cap name F f v bs rs) (hK : K ≤ 999999990) (hc : cap ≤ 16777216) {m c : Nat} {A : Option Addr} {xs : List Int} (hx : RdK w (WM db mb F lb v) A m xs) (hb : Bytes xs) (hm : m ≤ 65535) (hfit : (((logL bs rs).length + (m + 9) : Nat) : Int) ≤ cap) :
    Calls Try.prog 24 #[.pointer (some ⟨lb, 0, none⟩), .slice A m c] w fun e w' => e = .returned (.int .i64 0) ∧ ∃ F' f' v', WJ w' B0 db mb lb (K + 1) cap name F' f' v' bs (rs ++ [xs]) ∧ Fr w w' (WM db mb F lb v) ∧ (∀ b, WM db mb F' lb v' b → WM db mb F lb v b ∨ w.heap.size ≤ b) ∧ f'.s = f.s := by
  have hxl := hx.1
  have hlen := logL_length_snoc bs rs xs
  rw [hxl] at hlen
  have hrl : rs.length ≤ 1000000000 := by
    have h1 : rs.length ≤ (recsL rs).length := by
      clear h hx hlen hfit
      induction rs with
      | nil => exact Nat.zero_le _
      | cons y t ih => rw [recsL, List.length_append, frmP_length, List.length_cons]; omega
    have h2 : (recsL rs).length ≤ (logL bs rs).length := by unfold logL; rw [List.length_append]; omega
    omega
  refine (lappend_ok h.dk h.lg h.vdb h.vcl hK rfl rfl (show (0 : Int) ≤ ((logL bs rs).length : Int) by omega) hc h.vnm h.one hrl (by rw [h.vsz]; omega) (by rw [h.vsz]; omega) h.mbge (hx.weak (fun b hb => .inl (.inl (.inl hb)))) hb hm (by show ((logL bs rs).length : Int) + _ ≤ cap; omega) (by rw [h.fn]; omega)).mono ?_
  rintro e w' ⟨rfl, f', rv', h1, h2, h3, h4, h5, h6, h7⟩
  refine ⟨rfl, _, f', _, ⟨?_, putF_same _ _ _, fun x hx => putF_oth h f' hx, ?_, ?_, h5, h.vdb, h.vnm, h.vcl, ?_, h.mbge, Nat.le_trans h.base0 h6.size⟩, h6, h7, h3⟩
  · rw [hlen]
    have : ((((logL bs rs).length + (m + 9) : Nat)) : Int) = ((logL bs rs).length : Int) + ((m + 9 : Nat) : Int) := by omega
    rw [this]
    exact h4
  · rw [h1, h.fb, logL_snoc]
  · rw [h2, h.fn, hlen]
  · rw [hlen]
    show v.sz + _ = _
    rw [h.vsz]
    omega
theorem delF_oth (F : Int → Option Fi) {k x : Int} (h : x ≠ k) : delF F k x = F x := by unfold delF; rw [if_neg h]
theorem WJ.rotate (h : WJ w B0 db mb lb K cap name F f v bs rs) (hK : K ≤ 999999990) (hc : cap ≤ 16777216) (hn : name + 1 ≤ 999999) {m c : Nat} {A : Option Addr} {xs : List Int} (hx : RdK w (WM db mb F lb v) A m xs) (hb : Bytes xs) (hm : m ≤ 65535) (hfit : (((logL bs rs).length + (m + 9) : Nat) : Int) ≤ cap) :
    Calls Try.prog 26 #[.pointer (some ⟨lb, 0, none⟩), .slice A m c] w fun e w' => e = .returned (.int .i64 0) ∧ ∃ F' f' v', WJ w' B0 db mb lb (K + 2) cap (name + 1) F' f' v' xs [] ∧ Fr w w' (WM db mb F lb v) ∧ (∀ b, WM db mb F' lb v' b → WM db mb F lb v b ∨ w.heap.size ≤ b) ∧ f'.s = f'.n := by
  have hxl := hx.1
  have hlen := logL_length_nil xs
  rw [hxl] at hlen
  refine (rotate_ok h.dk h.lg h.vdb h.vcl hK rfl rfl (show (0 : Int) ≤ ((logL bs rs).length : Int) by omega) hc h.vnm h.one (by omega) (h.oth _ (by omega)) (hx.weak (fun b hb => .inl (.inl hb))) hb hm (by show ((logL bs rs).length : Int) + _ ≤ cap; omega) (by rw [h.fn]; exact Int.le_refl _)).mono ?_
  rintro e w' ⟨rfl, f', bA', bc', h1, h2, h3, h4, h5, h6, h7⟩
  have hne : ((name : Int) + 1) ≠ (name : Int) := by omega
  have hcast : ((name + 1 : Nat) : Int) = (name : Int) + 1 := by omega
  refine ⟨rfl, _, f', _, ⟨?_, ?_, fun x hx => ?_, ?_, ?_, h5, h.vdb, ?_, h.vcl, ?_, h.mbge, Nat.le_trans h.base0 h6.size⟩, ?_, fun b hb => ?_, by rw [h3, h2]⟩
  · have e : ((logL bs rs).length : Int) + ((m + 9 : Nat) : Int) - (f.n : Int) = ((logL xs []).length : Int) := by rw [hlen, h.fn]; omega
    rw [← e]
    exact h4
  · rw [hcast, delF_oth _ hne, putF_same]
  · rw [hcast] at hx
    by_cases e : x = (name : Int)
    · subst e; unfold delF; rw [if_pos rfl]
    · rw [delF_oth _ e, putF_other _ _ hx]; exact h.oth x e
  · rw [h1, logL_nil]
  · rw [h2, hlen]
  · rw [hcast]
  · rw [hlen]
  · exact h6.less (fun b hb => hb.elim (fun h1 => .inl (.inl h1)) (fun h1 => .inl (.inr h1)))
  · rcases hb with (h1 | h1) | h1
    · exact (h7 b h1).imp (fun h2 => .inl (.inl h2)) id
    · exact .inl (.inl (.inr h1))
    · cases h1
theorem WJ.sync (h : WJ w B0 db mb lb K cap name F f v bs rs) (hK : K ≤ 999999990) :
    Calls Try.prog 25 #[.pointer (some ⟨lb, 0, none⟩)] w fun e w' => e = .returned (.int .i64 0) ∧ ∃ F' f', WJ w' B0 db mb lb (K + 1) cap name F' f' v bs rs ∧ Fr w w' (WM db mb F lb v) ∧ (∀ b, WM db mb F' lb v b → WM db mb F lb v b ∨ w.heap.size ≤ b) ∧ f'.s = f'.n := by
  refine (lsync_ok h.dk h.lg h.vdb h.vcl hK rfl rfl h.vnm h.one).mono ?_
  rintro e w' ⟨rfl, h1, h2, h3, h4⟩
  refine ⟨rfl, _, { f with s := f.n }, ⟨h1, putF_same _ _ _, fun x hx => putF_oth h _ hx, h.fb, h.fn, h2, h.vdb, h.vnm, h.vcl, h.vsz, h.mbge, Nat.le_trans h.base0 h3.size⟩, h.lg.frd h3, fun b hb => .inl ?_, rfl⟩
  rcases hb with (h5 | h5) | h5
  · exact .inl (.inl (h4 b h5))
  · exact .inl (.inr h5)
  · exact .inr h5
end
theorem wj_new {w w1 w2 : World} {db mb lb : Nat} {cap : Int} {f1 : Fi} (h1 : Dk w1 db mb 0 ⟨cap, 0, -1, false⟩ (fun _ => none)) (hb : Below w.heap.size w w1) (hmb : w.heap.size ≤ mb) (hbs : f1.bs = frmP 0 []) (hn : f1.n = 9)
    (hk : Dk w2 db mb 2 ⟨cap, 0 + 9, -1, false⟩ (putF (fun _ => none) 0 f1)) (hL : Lg w2 (Mine db mb (putF (fun _ => none) 0 f1)) w.heap.size lb (lgNew db 9) [] []) (hf : Fr w1 w2 (Mine db mb (fun _ => none))) :
    WJ w2 w.heap.size db mb lb 2 cap 0 (putF (fun _ => none) 0 f1) f1 (lgNew db 9) [] [] :=
  ⟨hk, putF_same _ _ _, fun x hx => putF_other (fun _ => none) f1 (k := 0) hx, by rw [hbs, logL_nil], by rw [hn, logL_length_nil]; rfl, hL, rfl, rfl, rfl, rfl, hmb, Nat.le_trans hb.size hf.size⟩
end Go.Proofs.Ytadajkgiijpakaa
