/-
  RANGES: words for lists of comparisons that a call made; contract: parseList.
-/
import Derived.Test.YtpnbbbhbbnemlaaGreatDoorRComp
import Derived.Test.YtpnbbbhbbnemlaaGreatDoorRMb
import Derived.Laws.OwnMore
import Derived.Maps.AppendAt
namespace Go.Proofs.YtpnbbbhbbnemlaaGreatDoor
open Go.RowKit
open SemP
set_option linter.unusedVariables false
set_option linter.unusedSimpArgs false
set_option maxRecDepth 100000

theorem infoComp : (Tryz.prog.info? 73).map (fun i => (i.zero, i.size, i.bytes)) = some (some (.agg #[.int .i64 0, .int .i64 0, .int .i64 0, .int .i64 0, .string ⟨#[]⟩]), 5, 48) := by kernel_rfl
theorem infoList : (Tryz.prog.info? 70).map (fun i => (i.zero, i.size, i.bytes)) = some (some (.slice none 0 0), 1, 24) := by kernel_rfl
def ccells : List CV → List Value
  | [] => []
  | x :: r => .int .i64 x.op :: .int .i64 x.a :: .int .i64 x.b :: .int .i64 x.c :: .string x.s :: ccells r
theorem ccells_append (l r : List CV) : ccells (l ++ r) = ccells l ++ ccells r := by
  induction l with
  | nil => rfl
  | cons e l ih => simp [ccells, ih]
theorem ccells_get : ∀ (l : List CV) (j : Nat), j < l.length → (ccells l)[j * 5]? = some (.int .i64 (cvAt l j).op) ∧ (ccells l)[j * 5 + 1]? = some (.int .i64 (cvAt l j).a) ∧ (ccells l)[j * 5 + 2]? = some (.int .i64 (cvAt l j).b) ∧ (ccells l)[j * 5 + 3]? = some (.int .i64 (cvAt l j).c) ∧ (ccells l)[j * 5 + 4]? = some (.string (cvAt l j).s)
  | [], j, h => by simp at h
  | x :: r, 0, h => by simp [ccells, cvAt]
  | x :: r, j + 1, h => by
    have := ccells_get r j (by simpa using h)
    rw [show (j + 1) * 5 = j * 5 + 5 by omega]
    simpa [ccells, cvAt] using this
def OwnC (w : World) (base : Nat) (v : Value) (l : List CV) : Prop := w.ownsRow base 73 5 v l.length (ccells l)
theorem OwnC.nil_ (w : World) (base : Nat) : OwnC w base (.slice none 0 0) [] := World.ownsRow_nil _ _ _ _
theorem OwnC.shape {w : World} {base : Nat} {v : Value} {l : List CV} (h : OwnC w base v l) : ∃ A c, v = .slice A l.length c := by
  rcases h.2 with ⟨rfl, h0⟩ | ⟨g, cap, cur, rfl, _⟩
  · exact ⟨none, 0, by rw [h0]⟩
  · exact ⟨some ⟨g, 0, none⟩, cap, rfl⟩
theorem own_ge {w : World} {base e sz n : Nat} {v : Value} {xs : List Value} (h : w.ownsRow base e sz v n xs) : ∀ g, v.ownBlock = some g → base ≤ g := by
  intro g hg
  rcases h.2 with ⟨rfl, _⟩ | ⟨g', cap, cur, rfl, hb, _⟩
  · cases hg
  · have : g' = g := by simpa [Value.ownBlock] using hg
    omega
theorem own_lt {w : World} {base e sz n : Nat} {v : Value} {xs : List Value} (h : w.ownsRow base e sz v n xs) : ∀ g, v.ownBlock = some g → g < w.heap.size := by
  intro g hg
  rcases h.2 with ⟨rfl, _⟩ | ⟨g', cap, cur, rfl, hb, hh, _⟩
  · cases hg
  · have : g' = g := by simpa [Value.ownBlock] using hg
    subst this
    rcases Nat.lt_or_ge g' w.heap.size with hlt | hge
    · exact hlt
    · rw [Array.getElem?_eq_none hge] at hh; cases hh
theorem own_kept {w w' : World} {base e sz n : Nat} {v : Value} {xs : List Value} (h : w.ownsRow base e sz v n xs) (hb : Below w.heap.size w w') : w'.ownsRow base e sz v n xs := by
  refine ⟨h.1, ?_⟩
  rcases h.2 with h | ⟨g, cap, cur, hv, hbg, hh, r⟩
  · exact .inl h
  · have hlt : g < w.heap.size := by
      rcases Nat.lt_or_ge g w.heap.size with hlt | hge
      · exact hlt
      · rw [Array.getElem?_eq_none hge] at hh; cases hh
    refine .inr ⟨g, cap, cur, hv, hbg, ?_, r⟩
    rw [hb.block g hlt]
    exact hh
theorem OwnC.rd {w : World} {base n c : Nat} {A : Option Addr} {l : List CV} (h : OwnC w base (.slice A n c) l) (hn : l.length = n) : RdC w w.heap.size A n l := by
  refine ⟨hn, fun j hj => ?_⟩
  obtain ⟨g, cap, hv, _, hlt⟩ := World.ownsRow.form h (by omega)
  injection hv with h1 h2 h3
  subst h1
  obtain ⟨c0, c1, c2, c3, c4⟩ := ccells_get l j (by omega)
  have e : ∀ x, (Addr.add ⟨g, 0, none⟩ x) = ⟨g, 0 + x, none⟩ := fun x => by unfold Addr.add; by_cases h0 : x = 0 <;> simp [h0]
  have k0 := World.ownsRow.cells h (g := g) rfl _ _ c0
  have k1 := World.ownsRow.cells h (g := g) rfl _ _ c1
  have k2 := World.ownsRow.cells h (g := g) rfl _ _ c2
  have k3 := World.ownsRow.cells h (g := g) rfl _ _ c3
  have k4 := World.ownsRow.cells h (g := g) rfl _ _ c4
  rw [e] at k0 k1 k2 k3 k4
  exact ⟨g, 0, rfl, hlt, k0, by rw [Nat.add_assoc]; exact k1, by rw [Nat.add_assoc]; exact k2, by rw [Nat.add_assoc]; exact k3, by rw [Nat.add_assoc]; exact k4⟩
theorem wpl_appC {w : World} {ops : Array Oper} {rest : List Oper} {o : Oper} {a : Act} {Q : Exit → Act → World → Prop} (hgd : o.guard = none) (s x : Operand)
    (ho : o.op = .call { callee := .builtin .append, args := #[s, x], argTypes := #[70, 70] })
    (base : Nat) (v : Value) (l : List CV) (hs : a.eval s = v) (hown : OwnC w base v l)
    (b : Nat) (y : CV) (hx : a.eval x = .slice (some ⟨b, 0, none⟩) 1 1) (hc0 : w.cell? ⟨b, 0, none⟩ = some (.int .i64 y.op)) (hc1 : w.cell? ⟨b, 1, none⟩ = some (.int .i64 y.a)) (hc2 : w.cell? ⟨b, 2, none⟩ = some (.int .i64 y.b)) (hc3 : w.cell? ⟨b, 3, none⟩ = some (.int .i64 y.c)) (hc4 : w.cell? ⟨b, 4, none⟩ = some (.string y.s)) (hn : l.length ≤ 1099511627) (hbase : base ≤ w.heap.size)
    (h : ∀ g c w', OwnC w' base (.slice (some ⟨g, 0, none⟩) (l.length + 1) c) (l ++ [y]) → w.grownBy w' v.ownBlock → wpList Tryz.prog ops Q rest (a.put o.dst (.slice (some ⟨g, 0, none⟩) (l.length + 1) c)) w') :
    wpList Tryz.prog ops Q (o :: rest) a w := by
  obtain ⟨i0, hi, hz0, hz1, hz2⟩ := info_parts infoComp
  refine wpList_append_own_at w hgd s x 70 ho base 73 i0 _ 5 48 Tryz.underlying70 hi hz0 hz1 hz2 rfl (by decide) v l.length _ hs hown ⟨b, 0, none⟩ 1 1 [.int .i64 y.op, .int .i64 y.a, .int .i64 y.b, .int .i64 y.c, .string y.s] hx rfl ?_ ?_ (by unfold maxLen; omega) (by omega) hbase ?_
  · intro j z hj
    match j, hj with
    | 0, hj => simp at hj; subst hj; simpa [Addr.add] using hc0
    | 1, hj => simp at hj; subst hj; simpa [Addr.add] using hc1
    | 2, hj => simp at hj; subst hj; simpa [Addr.add] using hc2
    | 3, hj => simp at hj; subst hj; simpa [Addr.add] using hc3
    | 4, hj => simp at hj; subst hj; simpa [Addr.add] using hc4
  · intro z hz
    simp at hz
    rcases hz with rfl | rfl | rfl | rfl | rfl <;> rfl
  · intro v' w' hown' hg _ hat
    have ho' : w'.ownsRow base 73 5 v' (l ++ [y]).length (ccells (l ++ [y])) := by
      rw [ccells_append, List.length_append]; exact hown'
    obtain ⟨g, c, hv, _, _⟩ := World.ownsRow.form ho' (by simp)
    rw [List.length_append] at hv
    have hv' : v' = .slice (some ⟨g, 0, none⟩) (l.length + 1) c := hv
    subst hv'
    exact h g c w' ho' hg

/-- A text's pieces, nine at most. -/
def texts9 (sep s : ByteArray) : List ByteArray := Lib.splitB sep 0 (min 9 (s.size + 1) - 1) s
theorem splitB_size (sep : ByteArray) : ∀ (k : Nat) (s p : ByteArray), p ∈ Lib.splitB sep 0 k s → p.size ≤ s.size := by
  intro k
  induction k with
  | zero => intro s p h; rw [Lib.splitB_zero] at h; simp at h; rw [h]; exact Nat.le_refl _
  | succ k ih =>
    intro s p h
    unfold Lib.splitB at h
    split at h
    · simp at h; rw [h]; exact Nat.le_refl _
    · rcases List.mem_cons.1 h with h | h
      · rw [h, ByteArray.size_extract]; omega
      · have := ih _ _ h
        rw [ByteArray.size_extract] at this; omega
theorem texts9_len (sep s : ByteArray) : (texts9 sep s).length ≤ 9 := by
  have := Lib.splitB_length_le sep 0 (min 9 (s.size + 1) - 1) s
  unfold texts9; omega
theorem cellsOf_get {ps : List ByteArray} {N i : Nat} (h : i < ps.length) : (Lib.cellsOf ps N)[i]? = some (.string (ps.getD i ⟨#[]⟩)) := by
  unfold Lib.cellsOf
  simp [List.getElem?_append_left, h, List.getD]
/-- A text as a list of comparisons. -/
def parseL (s : ByteArray) : Option (List CV) :=
  if 8 < (texts9 ⟨#[32]⟩ s).length then none
  else if (texts9 ⟨#[32]⟩ s).all (fun p => (parseC (bs p)).2) then some ((texts9 ⟨#[32]⟩ s).map (fun p => (parseC (bs p)).1)) else none
theorem take_snoc {ps : List ByteArray} {i : Nat} (h : i < ps.length) (f : ByteArray → CV) : (ps.take (i + 1)).map f = (ps.take i).map f ++ [f (ps.getD i ⟨#[]⟩)] := by
  have e : ps[i]? = some (ps.getD i ⟨#[]⟩) := by simp [List.getD, h]
  rw [List.take_add_one, e]
  simp only [Option.toList_some, List.map_append, List.map_cons, List.map_nil]
theorem allp_at {ps : List ByteArray} {p : ByteArray → Bool} (h : ∀ j, j < ps.length → p (ps.getD j ⟨#[]⟩) = true) : ps.all p = true := by
  rw [List.all_eq_true]
  intro x hx
  obtain ⟨j, hj, rfl⟩ := List.getElem_of_mem hx
  have := h j hj
  simpa [List.getD, hj] using this
theorem allp_not {ps : List ByteArray} {p : ByteArray → Bool} {j : Nat} (hj : j < ps.length) (h : p (ps.getD j ⟨#[]⟩) = false) : ps.all p = false := by
  cases ha : ps.all p with
  | false => rfl
  | true =>
    have := List.all_eq_true.1 ha (ps.getD j ⟨#[]⟩) (by simp [List.getD, hj])
    rw [h] at this; cases this
/-- What parseList answers. -/
def ListR (lo : Nat) (r : Option (List CV)) (e : Ending) (w' : World) : Prop := match r with
  | none => e = .returned (.tuple #[.slice none 0 0, .bool false])
  | some l => ∃ A c, e = .returned (.tuple #[.slice A l.length c, .bool true]) ∧ RdC w' w'.heap.size A l.length l ∧ ∀ b off, A = some ⟨b, off, none⟩ → lo ≤ b ∧ b < w'.heap.size
set_option maxHeartbeats 8000000 in
theorem parseList_any (s : ByteArray) (w : World) (hs : s.size < 4294967281) (hg : SignsAt w) (hm : LenAt w) (h1 : 1 < w.heap.size) :
    Calls Tryz.prog 33 #[.string s] w fun e w' => ListR w.heap.size (parseL s) e w' ∧ Below w.heap.size w w' := by
  obtain ⟨m, hmm⟩ := hm
  have HSP := Lib.hid (Tryz.strings_SplitN s ⟨#[32]⟩ 9 m w hs hmm (by decide) (by decide) (by decide))
  have HM := Lib.hid (show LenAt w from ⟨m, hmm⟩)
  have HG := Lib.hid hg
  have H1 := Lib.hid h1
  have HS := Lib.hid hs
  obtain ⟨ps, hps⟩ : ∃ ps, Lib.splitB ⟨#[32]⟩ 0 (min 9 (s.size + 1) - 1) s = ps := ⟨_, rfl⟩
  have HPS : Hid (texts9 ⟨#[32]⟩ s = ps) := Lib.hid hps
  have HL9 : Hid (ps.length ≤ 9) := Lib.hid (by rw [← HPS.out]; exact texts9_len _ _)
  have HPZ : Hid (∀ i, i < ps.length → (ps.getD i ⟨#[]⟩).size < 4294967281) := Lib.hid (fun i hi => by
    have := splitB_size ⟨#[32]⟩ (min 9 (s.size + 1) - 1) s (ps.getD i ⟨#[]⟩) (by rw [hps]; simp [List.getD, hi])
    omega)
  rw [hps] at HSP
  clear hmm hg hps hs
  go_enter Tryz.func33, Tryz.ntmps33
  go_wp2_with fail
  refine HSP.out.mono ?_
  rintro e W1 ⟨rfl, hw⟩
  have HC1 : Hid (∀ i, i < ps.length → W1.cell? ⟨w.heap.size, i, none⟩ = some (.string (ps.getD i ⟨#[]⟩))) := Lib.hid (fun i hi => by
    have h := World.alloc_heap_new w (.cells (Lib.cellsOf ps (min 9 (s.size + 1))) 9)
    rw [hw]
    simp only [World.cell?, h]
    simp [cellsOf_get hi])
  have HB1 : Hid (Below w.heap.size w W1) := Lib.hid (by rw [hw]; exact (Below.refl _ w).alloc (Nat.le_refl _) _)
  have HZ1 : Hid (w.heap.size < W1.heap.size) := Lib.hid (by rw [hw]; simp)
  have HM1 := Lib.hid (HM.out.below H1.out HB1.out)
  have HG1 : Hid (SignsAt W1) := Lib.hid (HG.out.below HB1.out (by have := H1.out; omega))
  clear hw HSP
  obtain ⟨L, hL⟩ : ∃ L, ps.length = L := ⟨_, rfl⟩
  have HL := Lib.hid hL
  rw [hL]
  rw [hL] at HL9 HPZ HC1
  clear hL
  by_cases h8 : 8 < L
  · have d8 : decide (8 < (L : Int)) = true := decide_eq_true (by omega)
    have HN : Hid (parseL s = none) := Lib.hid (by unfold parseL; rw [HPS.out, if_pos (by rw [HL.out]; exact h8)])
    go_wp2
    refine bodyPost_ret (results_tmp2 rfl _ _ _) rfl ⟨?_, HB1.out⟩
    rw [HN.out]; rfl
  · have d8 : decide (8 < (L : Int)) = false := decide_eq_false (by omega)
    have HPL : Hid (parseL s = if ps.all (fun p => (parseC (bs p)).2) then some (ps.map (fun p => (parseC (bs p)).1)) else none) := Lib.hid (by unfold parseL; rw [HPS.out, if_neg (by rw [HL.out]; exact h8)])
    go_wp2
    go_loopw [5, 7, 8, 9, 17] (fun v5 v7 v8 v9 v17 wr => ∃ (i : Nat), i ≤ L ∧ v17 = .int .i64 (i : Int) ∧ Hid (∀ j, j < i → (parseC (bs (ps.getD j ⟨#[]⟩))).2 = true) ∧ Hid (OwnC wr W1.heap.size v5 ((ps.take i).map (fun p => (parseC (bs p)).1))) ∧ Hid (Below W1.heap.size W1 wr)) (fun _ _ _ _ v _ => L - (intOf v).toNat)
    case atStart => exact ⟨0, Nat.zero_le _, rfl, Lib.hid (fun j hj => absurd hj (by omega)), Lib.hid (OwnC.nil_ _ _), Lib.hid (Below.refl _ _)⟩
    case round =>
      obtain ⟨i, hi, rfl, HD, HO, HB⟩ := hrel
      by_cases him : i < L
      · have hd : decide ((i : Int) < (L : Int)) = true := decide_eq_true (by omega)
        have hadd : IntKind.i64.wrap ((i : Int) + 1) = ((i + 1 : Nat) : Int) := by rw [IntWalk.i64_in _ (by have := HL9.out; omega)]; omega
        have hc : wr.cell? ⟨w.heap.size, i, none⟩ = some (.string (ps.getD i ⟨#[]⟩)) := (HB.out.cell HZ1.out).trans (HC1.out i him)
        have HMr := Lib.hid (HM1.out.1.below HM1.out.2 HB.out)
        have HGr : Hid (SignsAt wr) := Lib.hid (HG1.out.below HB.out (by have := HM1.out.2; omega))
        have HZP : Hid ((ps.getD i ⟨#[]⟩).size < 4294967281) := Lib.hid (HPZ.out i him)
        obtain ⟨p, hp⟩ : ∃ p, ps.getD i ⟨#[]⟩ = p := ⟨_, rfl⟩
        have HPI := Lib.hid hp
        rw [hp] at hc HZP
        obtain ⟨y, ok, hy⟩ : ∃ y ok, parseC (bs p) = (y, ok) := ⟨_, _, rfl⟩
        have HY := Lib.hid hy
        have HPC := Lib.hid (parseComp_any p wr HZP.out HGr.out HMr.out.1 HMr.out.2)
        rw [hy] at HPC
        clear hp hy
        obtain ⟨A5, c5, hv5⟩ := HO.out.shape
        have HLT : Hid (((ps.take i).map (fun p => (parseC (bs p)).1)).length = i) := Lib.hid (by rw [List.length_map, List.length_take, HL.out]; omega)
        rw [HLT.out] at hv5
        subst hv5
        go_wp2_with fail
        refine HPC.out.mono ?_
        rintro e W2 ⟨rfl, hb⟩
        have HO2 : Hid (OwnC W2 W1.heap.size (.slice A5 i c5) ((ps.take i).map (fun p => (parseC (bs p)).1))) := Lib.hid (own_kept HO.out hb)
        have HB2 : Hid (Below W1.heap.size W1 W2) := Lib.hid (HB.out.trans (hb.mono HB.out.size))
        have HVV : Hid (CV.val y = compV y.op y.a y.b y.c y.s) := Lib.hid rfl
        clear hb HPC
        cases ok with
        | false =>
          have HN : Hid (parseL s = none) := Lib.hid (by
            rw [HPL.out, if_neg]
            rw [allp_not (p := fun p => (parseC (bs p)).2) (by rw [HL.out]; exact him) (by show (parseC (bs (ps.getD i ⟨#[]⟩))).2 = false; rw [HPI.out, HY.out])]; simp)
          have HB3 : Hid (∀ o : Obj, Below w.heap.size w (W2.alloc o)) := Lib.hid (fun o => HB1.out.trans ((HB2.out.alloc HB2.out.size o).mono HB1.out.size))
          rw [HVV.out]
          clear hc
          go_wp2
          refine bodyPost_ret (results_tmp2 rfl _ _ _) rfl ⟨?_, HB3.out _⟩
          rw [HN.out]; rfl
        | true =>
          rw [HVV.out]
          clear hc
          have HO3 : Hid (OwnC ((W2.alloc (compC y.op y.a y.b y.c y.s)).alloc (compC y.op y.a y.b y.c y.s)) W1.heap.size (.slice A5 i c5) ((ps.take i).map (fun p => (parseC (bs p)).1))) := Lib.hid (World.ownsRow.alloc (World.ownsRow.alloc HO2.out _) _)
          have HB3 : Hid (Below W1.heap.size W1 ((W2.alloc (compC y.op y.a y.b y.c y.s)).alloc (compC y.op y.a y.b y.c y.s))) := Lib.hid ((HB2.out.alloc HB2.out.size _).alloc (by have := HB2.out.size; simp; omega) _)
          have hz3 : ((W2.alloc (compC y.op y.a y.b y.c y.s)).alloc (compC y.op y.a y.b y.c y.s)).heap[W2.heap.size + 1]? = some (compC y.op y.a y.b y.c y.s) := by
            have := World.alloc_heap_new (W2.alloc (compC y.op y.a y.b y.c y.s)) (compC y.op y.a y.b y.c y.s)
            rw [World.size_alloc] at this; exact this
          have HCC := Lib.hid (cells5 hz3)
          have HSZ := Lib.hid HB3.out.size
          have HOK2 : Hid (∀ j, j < i + 1 → (parseC (bs (ps.getD j ⟨#[]⟩))).2 = true) := Lib.hid (fun j hj => by
            rcases Nat.lt_succ_iff_lt_or_eq.1 hj with h | h
            · exact HD.out j h
            · subst h; rw [HPI.out, HY.out])
          have HTS : Hid ((ps.take (i + 1)).map (fun p => (parseC (bs p)).1) = (ps.take i).map (fun p => (parseC (bs p)).1) ++ [y]) := Lib.hid (by rw [take_snoc (by rw [HL.out]; exact him) (fun p => (parseC (bs p)).1), HPI.out, HY.out])
          clear hz3
          go_wp2_with (at_builtin; refine wpl_appC rfl (.tmp 28) (.tmp 30) rfl W1.heap.size (.slice A5 i c5) _ rfl HO3.out (W2.heap.size + 1) y rfl HCC.out.1 HCC.out.2.1 HCC.out.2.2.1 HCC.out.2.2.2.1 HCC.out.2.2.2.2 (by rw [HLT.out]; have := HL9.out; omega) HSZ.out ?_; intro g c2 w2 hown2 hgr2)
          go_roundw
          case rel => exact ⟨i + 1, by omega, rfl, HOK2, Lib.hid (by rw [HTS.out, show min i ps.length = ((ps.take i).map (fun p => (parseC (bs p)).1)).length from by simp]; exact hown2), Lib.hid (HB3.out.grown hgr2 HSZ.out (fun g hg => own_ge HO3.out g hg))⟩
          case measure => simp [intOf]; omega
      · have hd : decide ((i : Int) < (L : Int)) = false := decide_eq_false (by omega)
        have hiL : i = L := by omega
        subst hiL
        have HT : Hid (parseL s = some (ps.map (fun p => (parseC (bs p)).1))) := Lib.hid (by rw [HPL.out, if_pos (allp_at (fun j hj => HD.out j (by rw [HL.out] at hj; exact hj)))])
        have HO2 : Hid (OwnC wr W1.heap.size u5 (ps.map (fun p => (parseC (bs p)).1))) := Lib.hid (by have h := HO.out; rw [List.take_of_length_le (by rw [HL.out]; exact Nat.le_refl _)] at h; exact h)
        obtain ⟨A5, c5, hv5⟩ := HO2.out.shape
        subst hv5
        go_wp2
        refine bodyPost_ret (results_tmp2 rfl _ _ _) rfl ⟨?_, HB1.out.trans (HB.out.mono HB1.out.size)⟩
        rw [HT.out]
        exact ⟨A5, c5, rfl, HO2.out.rd rfl, fun b off e => by subst e; exact ⟨Nat.le_trans HB1.out.size (own_ge HO2.out b rfl), own_lt HO2.out b rfl⟩⟩
end Go.Proofs.YtpnbbbhbbnemlaaGreatDoor
