/- What must be in any case of Easter (easterBegun) is so. -/
import Derived.Test.YtpjpmfcbddkjnaaDoorEWalk
namespace Go.Proofs.YtpjpmfcbddkjnaaDoor
open Go.RowKit Go.BigFrame Go.Sort

theorem sundayErr_below (y : Int) (w : World) (h : y < 1583 ∨ 9999 < y) :
    Calls Tryd.prog 73 #[.int .i64 y] w fun e w' => e = .returned (.tuple #[.int .i64 0, .int .i64 3]) ∧ Below w.heap.size w w' :=
  (sunday_err y w h).mono fun _ _ h => ⟨h.1, h.2 ▸ Below.refl _ _⟩
end Go.Proofs.YtpjpmfcbddkjnaaDoor
