/- The walk of the reference's ends of spans. -/
import Derived.Test.YtmhmdjlongimaaaInts
import Derived.Deep.RegionHeld3
namespace Go.Proofs.Ytmhmdjlongimaaa
open Go.RowKit

theorem OwnI.weak {w : World} {B B' : Nat} {v : Value} {xs : List Int} (h : OwnI w B v xs) (hB : B' ≤ B) : OwnI w B' v xs := by
  obtain ⟨h1, h2⟩ := h
  refine ⟨h1, ?_⟩
  rcases h2 with h2 | ⟨g, cap, cur, a, b, c⟩
  · exact .inl h2
  · exact .inr ⟨g, cap, cur, a, Nat.le_trans hB b, c⟩
theorem below_on {B : Nat} {a W w' : World} (h : Below B a W) (hB : B ≤ a.heap.size) (hb : Below W.heap.size W w') : Below B a w' :=
  h.trans (hb.mono (Nat.le_trans hB h.size))
namespace Spn
/-- the ends of spans, rising, each once -/
def ends (l : List Sp) : List Int := l.foldl (fun o s => ins (ins o s.1) s.2) []
theorem ends_succ (l : List Sp) (k : Nat) (x y : Int) (h : l[k]? = some (x, y)) : ends (l.take (k + 1)) = ins (ins (ends (l.take k)) x) y := by
  unfold ends; rw [take_succ_of l k x y h, List.foldl_append]; rfl
theorem ins_len (l : List Int) (n : Int) : (ins l n).length ≤ 2 * l.length + 1 := by
  have := insAt_len l n l.length
  unfold ins; split <;> simp <;> omega
end Spn
set_option maxHeartbeats 1000000 in
theorem endsOf_any (l : List Spn.Sp) (a : Option Addr) (cap : Nat) (w : World) (hl : l.length ≤ 1000) (hlen : ∀ k, (Spn.ends (l.take k)).length ≤ 10000) (hlen2 : ∀ k x, (Spn.ins (Spn.ends (l.take k)) x).length ≤ 30000) (hr : Row2 w a l) :
    Calls Try.prog 43 #[.slice a l.length cap] w fun e w' => ∃ v, e = .returned v ∧ OwnI w' w.heap.size v (Spn.ends l) ∧ Below w.heap.size w w' := by
  go_enter Try.func43, Try.ntmps43
  go_wp2
  go_loopw [3, 4] (fun v i wr => ∃ k : Nat, k ≤ l.length ∧ i = .int .i64 k ∧ OwnI wr w.heap.size v (Spn.ends (l.take k)) ∧ Below w.heap.size w wr) (fun _ i _ => l.length - (intOf i).toNat)
  case atStart => exact ⟨0, Nat.zero_le _, rfl, OwnI.nil _ _, Below.refl _ _⟩
  case round =>
    obtain ⟨k, hk, rfl, hown, hnx⟩ := hrel
    by_cases hlt : k < l.length
    · obtain ⟨b, off, x, y, rfl, hx, c1, c2⟩ := hr.at hlt
      have hb : b < w.heap.size := by
        rcases hr with rfl | ⟨b', off', e, hb, _⟩
        · simp at hlt
        · simp at e; obtain ⟨rfl, rfl⟩ := e; exact hb
      have hlt' : (k : Int) < (l.length : Int) := by omega
      have HS : Hid (Spn.ends (l.take (k + 1)) = Spn.ins (Spn.ins (Spn.ends (l.take k)) x) y) := Spn.ends_succ l k x y hx
      have d1 : wr.cell? ⟨b, off + k * 2, none⟩ = some (.int .i64 x) := (hnx.cell (p := ⟨b, off + k * 2, none⟩) hb).trans c1
      have d2 : wr.cell? ⟨b, off + k * 2 + 1, none⟩ = some (.int .i64 y) := (hnx.cell (p := ⟨b, off + k * 2 + 1, none⟩) hb).trans c2
      clear hx c1 c2 hr
      obtain ⟨ar, cr, rfl, rowr⟩ := hown.row
      have hl1 := hlen k
      have hl2 := hlen2 k x
      have tok1 : True := trivial
      have hbr : b < wr.drew.heap.size := Nat.lt_of_lt_of_le hb hnx.size
      go_wp2
      go_region_held3 (fun w' => w'.cell? ⟨b, off + k * 2, none⟩ = some (.int .i64 x) ∧ w'.cell? ⟨b, off + k * 2 + 1, none⟩ = some (.int .i64 y)) (go_keep)
        (first
          | (go_at_call 56; have _t := tok1; refine (withInt_any _ _ _ _ wr.drew (by omega) rowr).mono ?_; rintro e w1 ⟨v1, rfl, own1, b1⟩; clear tok1; obtain ⟨a1, k1, rfl, row1⟩ := own1.row; have e1 := (b1.cell (p := ⟨b, off + k * 2, none⟩) hbr).trans d1; have e2 := (b1.cell (p := ⟨b, off + k * 2 + 1, none⟩) hbr).trans d2)
          | (go_at_call 56; refine (withInt_any _ _ _ _ w1 (by omega) row1).mono ?_; rintro e w2 ⟨v2, rfl, own2, b2⟩; have f1 := (b2.cell (p := ⟨b, off + k * 2, none⟩) (Nat.lt_of_lt_of_le hbr b1.size)).trans e1; have f2 := (b2.cell (p := ⟨b, off + k * 2 + 1, none⟩) (Nat.lt_of_lt_of_le hbr b1.size)).trans e2))
      go_wp2
      go_roundw
      case rel => exact ⟨k + 1, by omega, by go_num, by rw [HS.out]; exact own2.weak (Nat.le_trans hnx.size b1.size), below_on (below_on hnx.drew (Nat.le_refl _) b1) (Nat.le_refl _) b2⟩
      case measure => simp [intOf]; omega
    · obtain rfl : k = l.length := by omega
      go_wp2
      go_ret
      rw [List.take_length] at hown
      exact ⟨_, rfl, hown, hnx⟩
end Go.Proofs.Ytmhmdjlongimaaa
