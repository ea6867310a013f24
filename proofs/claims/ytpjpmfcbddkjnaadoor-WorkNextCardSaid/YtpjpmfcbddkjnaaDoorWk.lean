/- Plain mathematics of days of work: the holidays of a year. -/
import Derived.Test.YtpjpmfcbddkjnaaDoorWkA
import Derived.Test.YtpjpmfcbddkjnaaDoorEas
namespace Go.Proofs.YtpjpmfcbddkjnaaDoor
namespace Wk
/-- the day of a rule in a year, if there is one -/
def rday (R : Rst) (y : Int) (r : Rl) : Option Int :=
  if y < 1 then none
  else if r.1 = 1 then some (push R (Cal.num y r.2.1 r.2.2.1))
  else if r.1 = 2 then some (nth y r.2.1 r.2.2.1 r.2.2.2)
  else if 1583 ≤ y then some (Cal.easter y + r.2.2.1) else none
def days (R : Rst) (L : List Rl) (y : Int) : List Int := L.filterMap (rday R y)
/-- the holidays of a year: rising, each once -/
def hol (R : Rst) (L : List Rl) (y : Int) : List Int := Spn.once (days R L y)
theorem mem_hol (R : Rst) (L : List Rl) (y n : Int) : n ∈ hol R L y ↔ n ∈ days R L y := (Spn.once_all _).2 n
theorem days_succ (R : Rst) (L : List Rl) (y : Int) (k : Nat) (r : Rl) (h : L[k]? = some r) : days R (L.take (k + 1)) y = days R (L.take k) y ++ (match rday R y r with | none => [] | some n => [n]) := by
  unfold days
  rw [List.take_add_one, h, List.filterMap_append]
  congr 1
  show List.filterMap (rday R y) [r] = _
  cases hd : rday R y r <;> simp [hd]
theorem days_len (R : Rst) (L : List Rl) (y : Int) : (days R L y).length ≤ L.length := List.length_filterMap_le _ _
/-- is a day one of work? -/
def isW (R : Rst) (L : List Rl) (n : Int) : Bool := !(R.rest n || decide (n ∈ days R L (Cal.yr n)) || decide (n ∈ days R L (Cal.yr n - 1)))
end Wk
end Go.Proofs.YtpjpmfcbddkjnaaDoor
