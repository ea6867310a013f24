/- The reference's words of a ledger, at a ledger that lies there; how long what is posted is. -/
import Derived.Test.YtdebhcdmbijanaaLgBeg
namespace Go.Proofs.Ytdebhcdmbijanaa
open Go.RowKit Go.BigFrame

namespace Lg
theorem post_len (l : List Ps) (p : Ps) : (post l p).1.length ≤ 100 := by
  obtain ⟨⟨a, c⟩, h⟩ : ∃ r, post l p = r := ⟨_, rfl⟩
  rw [h]
  by_cases hc : c = 0
  · subst hc
    exact (post_ok h).1.len
  · have := post_err l p (by rw [h]; exact hc)
    rw [h] at this
    simp only at this
    subst this
    exact Nat.zero_le _
theorem rev_len (l : List Ps) (i j : Int) : (rev l i j).1.length ≤ 100 := by
  unfold rev
  by_cases h1 : chk l = 0
  · rw [if_pos h1]
    cases hq : look l i with
    | some q => exact post_len _ _
    | none => exact Nat.zero_le _
  · rw [if_neg h1]; exact Nat.zero_le _
theorem balV_in {l : List Ps} {a : Int} (h : chk l = 0) (ha : ¬ (a < 1 ∨ 5 < a)) : balV l a = bal l a ∧ balC l a = 0 := by
  have : balC l a = 0 := by unfold balC; rw [if_pos h, if_neg ha]
  exact ⟨by unfold balV; rw [if_pos this], this⟩
theorem balV_out {l : List Ps} {a : Int} (h : chk l = 0) (ha : a < 1 ∨ 5 < a) : balV l a = 0 ∧ balC l a = 7 := by
  have : balC l a = 7 := by unfold balC; rw [if_pos h, if_pos ha]
  exact ⟨by unfold balV; rw [if_neg (by rw [this]; decide)], this⟩
theorem balV_bad {l : List Ps} {a : Int} (h : chk l ≠ 0) : balV l a = 0 ∧ balC l a = chk l := by
  have : balC l a = chk l := by unfold balC; rw [if_neg h]
  exact ⟨by unfold balV; rw [if_neg (by rw [this]; exact h)], this⟩
theorem balC_zero {l : List Ps} {a : Int} (h : balC l a = 0) : chk l = 0 ∧ 1 ≤ a ∧ a ≤ 5 ∧ balV l a = bal l a := by
  by_cases h1 : chk l = 0
  · by_cases h2 : a < 1 ∨ 5 < a
    · rw [(balV_out h1 h2).2] at h; exact absurd h (by decide)
    · exact ⟨h1, by omega, by omega, (balV_in h1 h2).1⟩
  · rw [(balV_bad h1).2] at h; exact absurd h h1
end Lg
theorem mL : (100 : Nat) ≤ maxLen := by unfold maxLen; omega
theorem refCheck_at {l : List Lg.Ps} {a : Option Addr} {n cap : Nat} {w : World} (h : Ldg w a n cap l) (c : Int) (hc : Lg.chk l = c) :
    Calls Try.prog 11 #[.slice a n cap] w fun e w' => e = .returned (.int .i64 c) ∧ Below w.heap.size w w' := by
  have := h.len
  subst this hc
  exact ledgerCheck_any l a cap w h.fits.1 h.fit h.row
theorem postOf_at {l : List Lg.Ps} {a : Option Addr} {n cap : Nat} {w : World} (h : Ldg w a n cap l) (id : Int) (ls : List Lg.Ln) (pa : Option Addr) (q pc : Nat) (r : List Lg.Ps) (c : Int) (hq : ls.length = q) (hpl : ls.length ≤ maxLen ∧ ls.length ≤ pc) (hpr : RowL w pa ls) (hc : Lg.post l (id, ls) = (r, c)) (hm : r.length ≤ maxLen) :
    Calls Try.prog 12 #[.slice a n cap, .agg #[.int .i64 id, .slice pa q pc]] w fun e w' => ∃ a' cap', e = .returned (.tuple #[.slice a' r.length cap', .int .i64 c]) ∧ Ldg w' a' r.length cap' r ∧ Below w.heap.size w w' := by
  have := h.len
  subst this hq
  exact (postOf_any l a cap id ls pa pc w h.fits h.nil h.fit h.row hpl hpr).mono fun _ _ hh => ldg_of hh hc hm
theorem reverseOf_at {l : List Lg.Ps} {a : Option Addr} {n cap : Nat} {w : World} (h : Ldg w a n cap l) (id as' : Int) (r : List Lg.Ps) (c : Int) (hc : Lg.rev l id as' = (r, c)) (hm : r.length ≤ maxLen) :
    Calls Try.prog 13 #[.slice a n cap, .int .i64 id, .int .i64 as'] w fun e w' => ∃ a' cap', e = .returned (.tuple #[.slice a' r.length cap', .int .i64 c]) ∧ Ldg w' a' r.length cap' r ∧ Below w.heap.size w w' := by
  have := h.len
  subst this
  exact (reverseOf_any l a cap id as' w h.fits h.nil h.fit h.row).mono fun _ _ hh => ldg_of hh hc hm
theorem balanceOf_at {l : List Lg.Ps} {a : Option Addr} {n cap : Nat} {w : World} (h : Ldg w a n cap l) (acc v : Int) (h100 : l.length ≤ 100) (ok : ∀ p ∈ l, Lg.POk p) (hv : Lg.bal l acc = v) :
    Calls Try.prog 14 #[.slice a n cap, .int .i64 acc] w fun e w' => e = .returned (.int .i64 v) ∧ w' = w := by
  have := h.len
  subst this hv
  exact balanceOf_any l a cap acc w h100 ok h.row
theorem sameLedger_at {l r : List Lg.Ps} {a a' : Option Addr} {n n' cap cap' : Nat} {w : World} (h : Ldg w a n cap l) (h' : Ldg w a' n' cap' r) (b : Bool) (hb : decide (l = r) = b) :
    Calls Try.prog 17 #[.slice a n cap, .slice a' n' cap'] w fun e w' => e = .returned (.bool b) ∧ Below w.heap.size w w' := by
  have e1 := h.len
  have e2 := h'.len
  subst e1 e2 hb
  exact sameLedger_any l r a a' cap cap' w h.fits.1 h'.fits.1 h.fit h'.fit h.row h'.row
end Go.Proofs.Ytdebhcdmbijanaa
