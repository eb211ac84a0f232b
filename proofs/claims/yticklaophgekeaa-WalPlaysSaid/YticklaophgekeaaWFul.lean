/-
  CONTRACTS of package wal, over this translation: Append, lay and Rotate, where there is no room.
-/
import Derived.Test.YticklaophgekeaaWLay
namespace Go.Proofs.Yticklaophgekeaa
open Go.RowKit
open ByteP
set_option linter.unusedVariables false
set_option maxRecDepth 10000
section
variable {w : World} {B0 lb db mb K : Nat} {n : Nm} {F : Int → Option Fi} {v : LgV} {bs : List Int} {rs : List (List Int)}
set_option maxHeartbeats 2000000 in
theorem lappend_full (h : Dk w db mb K n F) (hL : Lg w (Mine db mb F) B0 lb v bs rs) (hvd : v.db = db) (hcl : v.cl = false) (hd : n.down = false) (hs0 : 0 ≤ n.size) (hs1 : n.size ≤ 16777216) {k : Int} (hvn : v.nm = k) (hk0 : 0 ≤ k) (hk1 : k ≤ 999999)
    {B m c : Nat} {A : Option Addr} {xs : List Int} (hx : RdY w B A m xs) (hB : B ≤ w.heap.size) (hb : Bytes xs) (hm : m ≤ 65535) (hfull : n.cap < n.size + ((m + 9 : Nat) : Int)) :
    Calls Try.prog 24 #[.pointer (some ⟨lb, 0, none⟩), .slice A m c] w fun e w' => e = .returned (.int .i64 50) ∧ Below w.heap.size w w' := by
  have HL := Lib.hid hL
  have H := Lib.hid h
  have HXX := Lib.hid hx
  have HBX := Lib.hid hb
  clear h hL hx hb
  go_enter Try.func24, Try.ntmps24
  go_wp2_with (go_at_call 42; refine (checkOpen_ok HL.out hcl hm).mono ?_; rintro e w0 ⟨rfl, rfl⟩)
  refine (framed_any (mk := 1) HXX.out HBX.out (by omega) (by omega) hm hB).mono ?_
  rintro e w2 ⟨A2, c2', rfl, ho2, hb2⟩
  have H2 := Lib.hid (H.out.below hb2)
  have HL2 := Lib.hid (HL.out.below hb2)
  have HB2 := Lib.hid hb2
  have c20 := HL2.out.c0
  have c21 := HL2.out.c1
  rw [hvd] at c20
  rw [hvn] at c21
  have HAP := Lib.hid (append_full (k := k) (H2.out.drewN 1) hd hk0 hk1 A2 (m + 9) c2' (by omega) (by omega) (by omega) hfull)
  clear ho2 hb2
  go_wp2_with fail
  go_region_held3 (fun W => W.cell? ⟨lb, 0, none⟩ = some (.pointer (some ⟨db, 0, none⟩)) ∧ W.cell? ⟨lb, 1, none⟩ = some (.int .i64 k)) ((first | exact ⟨c30, c31⟩ | go_keep)) (first
    | (go_at_call 11; refine HAP.out.mono ?_; rintro e w3 ⟨rfl, q, hq⟩; (have HB3 : Hid (Below w0.heap.size w0 w3) := Lib.hid (by rw [hq]; exact below_drewN (below_drewN HB2.out 1) q)); (have c30 : w3.cell? ⟨lb, 0, none⟩ = some (.pointer (some ⟨db, 0, none⟩)) := by rw [hq]; exact c20); (have c31 : w3.cell? ⟨lb, 1, none⟩ = some (.int .i64 k) := by rw [hq]; exact c21); clear hq HAP)
    | (go_at_call 44; refine (heed_other _ _ (by omega)).mono ?_; rintro e w4 ⟨rfl, rfl⟩))
  go_wp2
  go_ret
  exact ⟨rfl, HB3.out⟩
set_option maxHeartbeats 2000000 in
theorem lay_full (h : Dk w db mb K n F) (hL : Lg w (Mine db mb F) B0 lb v bs rs) (hvd : v.db = db) (hd : n.down = false) (hs0 : 0 ≤ n.size) (hs1 : n.size ≤ 16777216) {k : Int} (hk0 : 0 ≤ k) (hk1 : k ≤ 999999)
    {B m c : Nat} {A : Option Addr} {xs : List Int} (hx : RdY w B A m xs) (hB : B ≤ w.heap.size) (hb : Bytes xs) (hm : m ≤ 65535) (hfull : n.cap < n.size + ((m + 9 : Nat) : Int)) :
    Calls Try.prog 45 #[.pointer (some ⟨lb, 0, none⟩), .int .i64 k, .slice A m c] w fun e w' => e = .returned (.int .i64 50) ∧ Below w.heap.size w w' := by
  have c0 := hL.c0
  rw [hvd] at c0
  have HL := Lib.hid hL
  have H := Lib.hid h
  have HBX := Lib.hid hb
  have HX1 : Hid (RdY w.drew B A m xs) := Lib.hid (hx.drew)
  have H1 : Hid (Dk w.drew db mb K n F) := Lib.hid (h.drewN 1)
  have HZ1 : Hid (B ≤ w.drew.heap.size) := Lib.hid hB
  clear h hL hx hb
  go_enter Try.func45, Try.ntmps45
  go_wp2_with fail
  go_region_held3 (fun W => W.cell? ⟨lb, 0, none⟩ = some (.pointer (some ⟨db, 0, none⟩))) ((first | exact c3 | exact c2 | go_keep)) (first
    | (go_at_call 43; refine (framed_any (mk := 0) HX1.out HBX.out (by omega) (by omega) hm HZ1.out).mono ?_; rintro e w2 ⟨A2, c2', rfl, ho2, hb2⟩; (have H2 := Lib.hid (H1.out.below hb2)); (have HB2 : Hid (Below w.heap.size w w2) := Lib.hid (below_drewN (Below.refl w.heap.size w) 1 |>.trans hb2)); (have HAP := Lib.hid (append_full (k := k) H2.out hd hk0 hk1 A2 (m + 9) c2' (by omega) (by omega) (by omega) hfull)); (have c2 : w2.cell? ⟨lb, 0, none⟩ = some (.pointer (some ⟨db, 0, none⟩)) := by (have := (HL.out.below HB2.out).c0); rw [hvd] at this; exact this); clear ho2 hb2)
    | (go_at_call 11; refine HAP.out.mono ?_; rintro e w3 ⟨rfl, q, hq⟩; (have HB3 : Hid (Below w.heap.size w w3) := Lib.hid (by rw [hq]; exact below_drewN HB2.out q)); (have c3 : w3.cell? ⟨lb, 0, none⟩ = some (.pointer (some ⟨db, 0, none⟩)) := by rw [hq]; exact c2); clear hq HAP)
    | (go_at_call 44; refine (heed_other _ _ (by omega)).mono ?_; rintro e w4 ⟨rfl, rfl⟩))
  go_wp2
  go_ret
  exact ⟨rfl, HB3.out⟩
set_option maxHeartbeats 2000000 in
theorem rotate_full (h : Dk w db mb K n F) (hL : Lg w (Mine db mb F) B0 lb v bs rs) (hvd : v.db = db) (hcl : v.cl = false) (hd : n.down = false) (hs0 : 0 ≤ n.size) (hs1 : n.size ≤ 16777216) {k : Int} (hvn : v.nm = k) (hk0 : 0 ≤ k) (hk1 : k + 1 ≤ 999999)
    {B m c : Nat} {A : Option Addr} {xs : List Int} (hx : RdY w B A m xs) (hB : B ≤ w.heap.size) (hb : Bytes xs) (hm : m ≤ 65535) (hfull : n.cap < n.size + ((m + 9 : Nat) : Int)) :
    Calls Try.prog 26 #[.pointer (some ⟨lb, 0, none⟩), .slice A m c] w fun e w' => e = .returned (.int .i64 50) ∧ Below w.heap.size w w' := by
  have c1 := hL.c1
  rw [hvn] at c1
  have hw1 : IntKind.i64.wrap (k + 1) = k + 1 := IntWalk.i64_in _ (by omega)
  have HL := Lib.hid hL
  have HLY := Lib.hid (lay_full (k := k + 1) (c := c) h hL hvd hd hs0 hs1 (by omega) hk1 hx hB hb hm hfull)
  clear h hL hx hb
  go_enter Try.func26, Try.ntmps26
  go_wp2_with (go_at_call 42; refine (checkOpen_ok HL.out hcl hm).mono ?_; rintro e w0 ⟨rfl, rfl⟩)
  refine HLY.out.mono ?_
  rintro e w2 ⟨rfl, hb2⟩
  have HB2 := Lib.hid hb2
  clear hb2 HLY c1 hw1
  go_wp2
  go_ret
  exact ⟨rfl, HB2.out⟩
end
end Go.Proofs.Yticklaophgekeaa
