/-
  What was read is a catalogue again.
-/
import Derived.Test.YtmfoammkcokcoaaUCw
import Derived.Test.YtmfoammkcokcoaaUCg
namespace Go.Proofs.Ytmfoammkcokcoaa
open Go.RowKit
open ByteP CodeP
set_option linter.unusedVariables false
set_option maxRecDepth 10000
theorem ssI.rd {w : World} {M : Nat → Prop} {A : Option Addr} {n c : Nat} {l : List Sv} (h : ssI w M [.slice A n c] l) : n = l.length ∧ RdG 2 svI w (fun b => w.heap.size ≤ b) A l.length l := by
  obtain ⟨A', n', c', e, hr⟩ := h
  injection e with e _
  injection e with e1 e2 e3
  subst e1 e2 e3
  have hn : n = l.length := hr.1.symm
  subst hn
  exact ⟨rfl, hr.turn sv_turns (FrM.refl w M) (fun b hb => .inr hb)⟩
theorem cat_odd {bs : List Int} (hb : Bytes bs) (hl : bs.length ≤ 1500) (h0 : endP catP bs = 0) : ∃ c, catP bs = .inr (c, []) ∧ catO c = bs ∧ badSv c = false ∧ ShCat c ∧ (fl svO c).length ≤ 400000000 := by
  obtain ⟨c, h1, h2, h3⟩ := endP_back cat_both hb h0
  have h4 : (catO c).length ≤ 1500 := by rw [← h3]; exact hl
  have h5 : (catO c).length = (enc c.length).length + (fl svO c).length := lsE_len svO c
  exact ⟨c, h2, h3.symm, okCat_bad h1, shCat_of h1 (by omega), by omega⟩
theorem cat_written {c : List Sv} (h : badSv c = false) (hs : ShCat c) : Bytes (catO c) ∧ endP catP (catO c) = 0 ∧ catP (catO c) = .inr (c, []) := by
  have hok := shCat_ok h hs
  exact ⟨cat_both.bytes _ hok, endP_enc cat_both hok⟩
end Go.Proofs.Ytmfoammkcokcoaa
