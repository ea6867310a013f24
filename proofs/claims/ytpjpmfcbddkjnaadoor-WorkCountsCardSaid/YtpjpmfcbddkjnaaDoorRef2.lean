/- The walks of the reference's weeks: they come to the same plain mathematics; nothing old in memory turns. -/
import Derived.Test.YtpjpmfcbddkjnaaDoorRef
import Derived.Test.YtpjpmfcbddkjnaaDoorBegun
namespace Go.Proofs.YtpjpmfcbddkjnaaDoor
open Go.RowKit Go.BigFrame Go.Sort

theorem dow_any (n : Int) (w : World) (h1 : 1 ≤ n) (h2 : n ≤ 4000000) :
    Calls Tryd.prog 61 #[.int .i64 n] w fun e w' => e = .returned (.int .i64 (Cal.wday n)) ∧ w' = w := by
  go_enter Tryd.func61, Tryd.ntmps61
  go_wp2
  go_loop [0] (fun v => ∃ c : Int, 1 ≤ c ∧ c ≤ n ∧ (n - c) % 7 = 0 ∧ v = .int .i64 c) (fun v => (intOf v).toNat)
  case atStart => exact ⟨n, by omega, by omega, by omega, rfl⟩
  case round =>
    obtain ⟨c, hc1, hc2, hc3, rfl⟩ := hrel
    have HC : Hid ((n - c) % 7 = 0) := hc3
    clear hc3
    by_cases hlt : 700000 < c
    · go_wp2
      go_round
      case rel => exact ⟨c - 700000, by omega, by omega, by have := HC.out; omega, rfl⟩
      case measure => simp [intOf]; omega
    · by_cases h7 : c % 7 = 0
      · go_wp2
        go_ret
        exact ⟨ret_int (by have := HC.out; unfold Cal.wday; omega), rfl⟩
      · go_wp2
        go_ret
        exact ⟨ret_int (by have := HC.out; unfold Cal.wday; omega), rfl⟩
end Go.Proofs.YtpjpmfcbddkjnaaDoor
