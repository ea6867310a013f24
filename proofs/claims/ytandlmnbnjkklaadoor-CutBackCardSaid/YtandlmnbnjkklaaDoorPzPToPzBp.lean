/- The contracts of package pass, all together. Plain mathematics of passes: what must be in any case. -/
import Derived.Test.YtandlmnbnjkklaaDoorPzRen
import Derived.Test.YtandlmnbnjkklaaDoorPzW5
import Derived.Test.YtandlmnbnjkklaaDoorPzW6
import Derived.Test.YtandlmnbnjkklaaDoorPzW7
import Derived.Test.YtandlmnbnjkklaaDoorPz
namespace Go.Proofs.YtandlmnbnjkklaaDoor
open Go.RowKit

theorem pZNew_any (id born pa pb s u n : Int) (w : World) (hw : Laid w) :
    Calls Tryd.prog 8 #[.int .i64 id, .int .i64 born, .int .i64 pa, .int .i64 pb, .int .i64 s, .agg #[.int .i64 u, .int .i64 n]] w (nzPost w (Pz.new id born pa pb s u n)) :=
  (pZNew_own id born pa pb s u n w hw).mono fun _ _ h => h.weak
theorem pZRenew_any (p : Pz.Pq) (a : Option Addr) (N c : Nat) (n u t : Int) (w : World) (hw : Laid w) (hN : p.days.length = N) (hl : N ≤ maxLen) (hc : N ≤ c) (hn : a = none → c = 0 ∧ p.days = []) (hr : Row2 w a p.days) :
    Calls Tryd.prog 20 #[pv p a N c, .int .i64 n, .agg #[.int .i64 u, .int .i64 t]] w (rzPost w (Pz.renew p n u t)) :=
  (pZRenew_own p a N c n u t w hw hN hl hc hn hr).mono fun _ _ h => h.weak
theorem pZCut_any (p : Pz.Pq) (a : Option Addr) (N c : Nat) (n : Int) (w : World) (hN : p.days.length = N) (hl : N ≤ maxLen) (hc : N ≤ c) (hn : a = none → c = 0 ∧ p.days = []) (hr : Row2 w a p.days) :
    Calls Tryd.prog 9 #[pv p a N c, .int .i64 n] w (rzPost w (Pz.cut p n)) :=
  (pZCut_own p a N c n w hN hl hc hn hr).mono fun _ _ h => h.weak
theorem pZReplace_any (p : Pz.Pq) (a : Option Addr) (N c : Nat) (w : World) (hN : p.days.length = N) (hl : N ≤ maxLen) (hc : N ≤ c) (hn : a = none → c = 0 ∧ p.days = []) (hr : Row2 w a p.days) :
    Calls Tryd.prog 10 #[pv p a N c] w (nzPost w (Pz.repl p)) :=
  (pZReplace_own p a N c w hN hl hc hn hr).mono fun _ _ h => h.weak
end Go.Proofs.YtandlmnbnjkklaaDoor
namespace Go.Proofs.YtandlmnbnjkklaaDoor
namespace Pz
def bw : Pq := ⟨7, 690000, 1, 3, 1, [(700000, 700007)]⟩
theorem b_nth (s y m d x : Int) (hv : Cal.vld y m d) (hn : Cal.num y m d = s) (hk : Trm.bad 2 1 s 1 1000 = 0) (hx : Trm.day y m d 2 1 1 = x) (h0 : x ≠ 0) : Trm.nthF s 2 1 1 = (x, 0) := by
  unfold Trm.nthF
  rw [if_pos hk, Cal.dt_is hv hn]
  show (Trm.day y m d 2 1 1, Trm.over (Trm.day y m d 2 1 1)) = _
  rw [hx]
  unfold Trm.over
  rw [if_neg h0]
theorem b_n1 : Trm.nthF 700000 2 1 1 = (700007, 0) := b_nth 700000 1917 7 15 700007 (by unfold Cal.vld; decide) (by decide) (by decide) (by decide) (by decide)
theorem b_n2 : Trm.nthF 700007 2 1 1 = (700014, 0) := b_nth 700007 1917 7 22 700014 (by unfold Cal.vld; decide) (by decide) (by decide) (by decide) (by decide)
theorem b_n3 : Trm.nthF 700010 2 1 1 = (700017, 0) := b_nth 700010 1917 7 25 700017 (by unfold Cal.vld; decide) (by decide) (by decide) (by decide) (by decide)
theorem b_chk : chk bw = 0 := by decide
theorem b_new : new 7 690000 1 3 700000 2 1 = (bw, 0) := by
  unfold new
  rw [b_n1, if_pos rfl]
  exact if_pos b_chk
theorem b_u1 : Spn.both 0 [(700000, 700007)] [(700007, 700014)] = [(700000, 700014)] :=
  (Spn.both_unique 0 _ _ _ (by simp [Spn.canon, Spn.canonFrom]) (fun n => by rw [Bool.eq_iff_iff]; simp [Spn.memB, Spn.opB]; omega)).symm
theorem b_u2 : Spn.both 0 [(700000, 700007)] [(700010, 700017)] = [(700000, 700007), (700010, 700017)] :=
  (Spn.both_unique 0 _ _ _ (by simp [Spn.canon, Spn.canonFrom]) (fun n => by rw [Bool.eq_iff_iff]; simp [Spn.memB, Spn.opB])).symm
theorem b_c1 : Spn.code 0 [(700000, 700007)] [(700007, 700014)] = 0 := by unfold Spn.code; rw [b_u1]; decide
theorem b_c2 : Spn.code 0 [(700000, 700007)] [(700010, 700017)] = 0 := by unfold Spn.code; rw [b_u2]; decide
theorem b_a1 : Spn.ans 0 [(700000, 700007)] [(700007, 700014)] = [(700000, 700014)] := by unfold Spn.ans; rw [if_pos b_c1, b_u1]
theorem b_a2 : Spn.ans 0 [(700000, 700007)] [(700010, 700017)] = [(700000, 700007), (700010, 700017)] := by unfold Spn.ans; rw [if_pos b_c2, b_u2]
def bq : Pq := ⟨7, 690000, 1, 3, 1, [(700000, 700014)]⟩
def br : Pq := ⟨7, 690000, 1, 3, 1, [(700000, 700007), (700010, 700017)]⟩
def bs : Pq := ⟨7, 690000, 1, 3, 1, [(700000, 700005)]⟩
def bt : Pq := ⟨7, 690000, 1, 3, 2, [(700000, 700005)]⟩
theorem b_f1 : from' bw 700003 = 700007 := by decide
theorem b_f2 : from' bw 700010 = 700010 := by decide
theorem b_r1 : renewed bw 700007 700014 = bq := by unfold renewed; show (⟨7, 690000, 1, 3, 1, Spn.ans 0 [(700000, 700007)] [(700007, 700014)]⟩ : Pq) = _; rw [b_a1]; rfl
theorem b_r2 : renewed bw 700010 700017 = br := by unfold renewed; show (⟨7, 690000, 1, 3, 1, Spn.ans 0 [(700000, 700007)] [(700010, 700017)]⟩ : Pq) = _; rw [b_a2]; rfl
theorem b_renew1 : renew bw 700003 2 1 = (bq, 7, 0) := by
  unfold renew
  rw [if_pos b_chk, if_neg (by decide), b_f1, b_n2, if_pos rfl]
  refine (if_pos b_c1).trans ?_
  rw [b_r1]; exact if_pos (by decide)
theorem b_renew2 : renew bw 700010 2 1 = (br, 7, 0) := by
  unfold renew
  rw [if_pos b_chk, if_neg (by decide), b_f2, b_n3, if_pos rfl]
  refine (if_pos b_c2).trans ?_
  rw [b_r2]; exact if_pos (by decide)
theorem b_cut : cut bq 700005 = (bs, 9, 0) := by unfold cut; rw [if_pos (by decide), if_neg (by decide)]; rfl
theorem b_repl : repl bs = (bt, 0) := by unfold repl; rw [if_pos (by decide), if_neg (by decide)]; rfl
theorem b_has1 : hasB bt 700004 3 = true := by decide
theorem b_has2 : hasB bt 700004 4 = false := by decide
theorem b_bt : chk bt = 0 := by decide
theorem b_zero : chk zero = 3 := by decide
end Pz
end Go.Proofs.YtandlmnbnjkklaaDoor
