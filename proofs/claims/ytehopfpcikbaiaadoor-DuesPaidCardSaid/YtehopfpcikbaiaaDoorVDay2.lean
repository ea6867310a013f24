/- The reference's day of a rule in a year: the so manyth weekday, day by day; and is a day a holiday? -/
import Derived.Test.YtehopfpcikbaiaaDoorVDay
import Derived.Test.YtehopfpcikbaiaaDoorWDay2
namespace Go.Proofs.YtehopfpcikbaiaaDoor
open Go.RowKit

namespace Wk
/-- how many days of a weekday among the first k of a month, at most d -/
def mny (A d k : Int) : Int := if (k + 6 - A) / 7 ≤ d then (k + 6 - A) / 7 else d
def fnd (f A d k : Int) : Int := if mny A d k = 0 then 0 else f + A + (mny A d k - 1) * 7
theorem mny_bd (A d k : Int) (h1 : 0 ≤ A) (h2 : A < 7) (h3 : 0 ≤ k) (h4 : k ≤ 31) (h5 : 1 ≤ d) (h6 : d ≤ 5) : 0 ≤ mny A d k ∧ mny A d k ≤ 5 := by
  unfold mny; split <;> omega
theorem mny_zero (A d : Int) (h1 : 0 ≤ A) (h2 : A < 7) (h5 : 1 ≤ d) : mny A d 0 = 0 := by unfold mny; split <;> omega
theorem mny_hit (A d k : Int) (_h1 : 0 ≤ A) (_h2 : A < 7) (_h3 : 0 ≤ k) (h : k % 7 = A) (hm : mny A d k < d) : mny A d (k + 1) = mny A d k + 1 := by
  unfold mny at *
  split at hm <;> split <;> omega
theorem mny_full (A d k : Int) (_h1 : 0 ≤ A) (_h2 : A < 7) (_h3 : 0 ≤ k) (hm : ¬ mny A d k < d) : mny A d (k + 1) = mny A d k := by
  unfold mny at *
  split at hm <;> split <;> omega
theorem mny_miss (A d k : Int) (h1 : 0 ≤ A) (h2 : A < 7) (_h3 : 0 ≤ k) (h : ¬ k % 7 = A) : mny A d (k + 1) = mny A d k := by
  unfold mny
  split <;> split <;> omega
theorem fnd_hit (f A d k : Int) (h1 : 0 ≤ A) (h2 : A < 7) (h3 : 0 ≤ k) (h4 : k ≤ 31) (h5 : 1 ≤ d) (h6 : d ≤ 5) (h : k % 7 = A) (hm : mny A d k < d) : fnd f A d (k + 1) = f + k := by
  have e := mny_hit A d k h1 h2 h3 h hm
  have b := mny_bd A d k h1 h2 h3 h4 h5 h6
  unfold fnd
  rw [e, if_neg (by omega)]
  unfold mny at *
  split at hm <;> omega
theorem fnd_keep (f A d k : Int) (e : mny A d (k + 1) = mny A d k) : fnd f A d (k + 1) = fnd f A d k := by unfold fnd; rw [e]
theorem fnd_end (y m d w : Int) (h5 : 1 ≤ d) (h6 : d ≤ 5) : fnd (Cal.num y m 1) ((w - Cal.num y m 1 % 7 + 7) % 7) d (Cal.mlen y m) = nth y m d w := by
  have ml := Cal.mlen_bd y m
  unfold fnd nth nth0
  generalize Cal.mlen y m = ML at *
  generalize Cal.num y m 1 = N at *
  have a1 : 0 ≤ (w - N % 7 + 7) % 7 := by omega
  have a2 : (w - N % 7 + 7) % 7 < 7 := by omega
  generalize (w - N % 7 + 7) % 7 = A at *
  have b := mny_bd A d ML a1 a2 (by omega) (by omega) h5 h6
  have hpos : mny A d ML ≠ 0 := by unfold mny; split <;> omega
  rw [if_neg hpos]
  unfold mny at *
  split <;> split <;> omega
theorem match_iff (N w k : Int) (h1 : 1 ≤ w) (h2 : w ≤ 7) : (Cal.wday (N + k) = w ↔ k % 7 = (w - N % 7 + 7) % 7) := by
  unfold Cal.wday; constructor <;> intro h <;> omega
end Wk
set_option maxRecDepth 100000 in
set_option maxHeartbeats 1000000 in
theorem vNth (R : Wk.Rst) (a : Option Addr) (len cap : Nat) (m d wd y : Int) (w : World) (h1 : 1 ≤ y) (h2 : y ≤ 9998) (h3 : 1 ≤ m) (h4 : m ≤ 12) (h5 : 1 ≤ d) (h6 : d ≤ 5) (h7 : 1 ≤ wd) (h8 : wd ≤ 7) :
    Calls Tryd.prog 78 #[calV R a len cap, .agg #[.int .i64 2, .int .i64 m, .int .i64 d, .int .i64 wd], .int .i64 y] w fun e w' => e = .returned (.int .i64 (Wk.nth y m d wd)) ∧ Below w.heap.size w w' := by
  have b1 := below_box w (.cells #[.bool R.b0, .bool R.b1, .bool R.b2, .bool R.b3, .bool R.b4, .bool R.b5, .bool R.b6, .slice a len cap] 25)
  have b2 := b1.alloc (by simp) (.cells #[.int .i64 2, .int .i64 m, .int .i64 d, .int .i64 wd] 74)
  have c1 : ((w.alloc (.cells #[.bool R.b0, .bool R.b1, .bool R.b2, .bool R.b3, .bool R.b4, .bool R.b5, .bool R.b6, .slice a len cap] 25)).alloc (.cells #[.int .i64 2, .int .i64 m, .int .i64 d, .int .i64 wd] 74)).cell? ⟨w.heap.size + 1, 1, none⟩ = some (.int .i64 m) := by simp
  have c2 : ((w.alloc (.cells #[.bool R.b0, .bool R.b1, .bool R.b2, .bool R.b3, .bool R.b4, .bool R.b5, .bool R.b6, .slice a len cap] 25)).alloc (.cells #[.int .i64 2, .int .i64 m, .int .i64 d, .int .i64 wd] 74)).cell? ⟨w.heap.size + 1, 2, none⟩ = some (.int .i64 d) := by simp
  have c3 : ((w.alloc (.cells #[.bool R.b0, .bool R.b1, .bool R.b2, .bool R.b3, .bool R.b4, .bool R.b5, .bool R.b6, .slice a len cap] 25)).alloc (.cells #[.int .i64 2, .int .i64 m, .int .i64 d, .int .i64 wd] 74)).cell? ⟨w.heap.size + 1, 3, none⟩ = some (.int .i64 wd) := by simp
  have sA : w.heap.size + 1 < ((w.alloc (.cells #[.bool R.b0, .bool R.b1, .bool R.b2, .bool R.b3, .bool R.b4, .bool R.b5, .bool R.b6, .slice a len cap] 25)).alloc (.cells #[.int .i64 2, .int .i64 m, .int .i64 d, .int .i64 wd] 74)).heap.size := by simp
  have HCS : Hid (_) := And.intro c1 (And.intro c2 c3)
  clear c1 c2 c3
  have HEND : Hid (_) := Wk.fnd_end y m d wd h5 h6
  have HML : Hid (∀ W, Calls Tryd.prog 52 #[.int .i64 y, .int .i64 m] W fun e w' => e = .returned (.int .i64 (Cal.mlen y m)) ∧ w' = W) := fun W => monthDays_ok y m W h1 (by omega) h3 h4
  have HD : Hid (∀ (k : Int) W, 0 ≤ k → k < 31 → Calls Tryd.prog 53 #[.agg #[.int .i64 y, .int .i64 m, .int .i64 (k + 1)]] W fun e w' => e = .returned (.int .i64 (Cal.num y m 1 + k)) ∧ Below W.heap.size W w') := fun k W a b => by
    have e : Cal.num y m 1 + k = Cal.num y m (k + 1) := by unfold Cal.num; omega
    rw [e]
    exact dayOf_any y m (k + 1) W h1 (by omega) h3 h4 (by omega) (by omega)
  have ml := Cal.mlen_bd y m
  have hN : 1 ≤ Cal.num y m 1 ∧ Cal.num y m 1 ≤ 3652059 := Cal.num_in y m 1 ⟨h1, by omega, h3, h4, by omega, by omega⟩
  have HMI : Hid (∀ k, Cal.wday (Cal.num y m 1 + k) = wd ↔ k % 7 = (wd - Cal.num y m 1 % 7 + 7) % 7) := fun k => Wk.match_iff _ wd k h7 h8
  have a1 : 0 ≤ (wd - Cal.num y m 1 % 7 + 7) % 7 := by omega
  have a2 : (wd - Cal.num y m 1 % 7 + 7) % 7 < 7 := by omega
  generalize (wd - Cal.num y m 1 % 7 + 7) % 7 = A at *
  generalize Wk.nth y m d wd = X at *
  generalize Cal.mlen y m = ML at *
  generalize Cal.num y m 1 = N at *
  go_enter Tryd.func78, Tryd.ntmps78
  go_wp2
  generalize ((w.alloc (.cells #[.bool R.b0, .bool R.b1, .bool R.b2, .bool R.b3, .bool R.b4, .bool R.b5, .bool R.b6, .slice a len cap] 25)).alloc (.cells #[.int .i64 2, .int .i64 m, .int .i64 d, .int .i64 wd] 74)) = wA at *
  go_loopw [8, 9, 10] (fun f c i wr => ∃ k : Int, 0 ≤ k ∧ k ≤ ML ∧ i = .int .i64 (k + 1) ∧ c = .int .i64 (Wk.mny A d k) ∧ f = .int .i64 (Wk.fnd N A d k) ∧ Below wA.heap.size wA wr) (fun _ _ i _ => (32 - intOf i).toNat)
  case atStart => exact ⟨0, by omega, by omega, rfl, by rw [Wk.mny_zero A d a1 a2 h5], by unfold Wk.fnd; rw [Wk.mny_zero A d a1 a2 h5]; rfl, Below.refl _ _⟩
  case round =>
    obtain ⟨k, hk0, hkM, rfl, rfl, rfl, hnx⟩ := hrel
    have B := below_next b2 (Nat.le_refl _) hnx
    have c1 : wr.cell? ⟨w.heap.size + 1, 1, none⟩ = some (.int .i64 m) := (hnx.cell (p := ⟨w.heap.size + 1, 1, none⟩) sA).trans HCS.out.1
    have c2 : wr.cell? ⟨w.heap.size + 1, 2, none⟩ = some (.int .i64 d) := (hnx.cell (p := ⟨w.heap.size + 1, 2, none⟩) sA).trans HCS.out.2.1
    have c3 : wr.cell? ⟨w.heap.size + 1, 3, none⟩ = some (.int .i64 wd) := (hnx.cell (p := ⟨w.heap.size + 1, 3, none⟩) sA).trans HCS.out.2.2
    have mb := Wk.mny_bd A d k a1 a2 hk0 (by omega) h5 h6
    have hw1 : IntKind.i64.wrap (k + 1 + 1) = k + 1 + 1 := by rw [IntKind.wrap_i64]; omega
    go_wp2_with fail
    refine (HML.out _).mono ?_
    rintro e w2 ⟨rfl, rfl⟩
    by_cases hlt : k < ML
    · have hlt' : k + 1 ≤ ML := by omega
      have hdec : decide (k + 1 ≤ ML) = true := decide_eq_true hlt'
      have HK : Hid (Wk.mny A d k < d → k % 7 = A → Wk.mny A d (k + 1) = Wk.mny A d k + 1 ∧ Wk.fnd N A d (k + 1) = N + k) := fun p q => ⟨Wk.mny_hit A d k a1 a2 hk0 q p, Wk.fnd_hit N A d k a1 a2 hk0 (by omega) h5 h6 q p⟩
      have HJ : Hid (¬ (k % 7 = A ∧ Wk.mny A d k < d) → Wk.mny A d (k + 1) = Wk.mny A d k ∧ Wk.fnd N A d (k + 1) = Wk.fnd N A d k) := fun p => by
        by_cases q : k % 7 = A
        · have e := Wk.mny_full A d k a1 a2 hk0 (fun r => p ⟨q, r⟩)
          exact ⟨e, Wk.fnd_keep N A d k e⟩
        · have e := Wk.mny_miss A d k a1 a2 hk0 q
          exact ⟨e, Wk.fnd_keep N A d k e⟩
      have hmi := HMI.out k
      generalize Wk.mny A d k = MM at *
      generalize Wk.fnd N A d k = FF at *
      have hw2 : IntKind.i64.wrap (MM + 1) = MM + 1 := by rw [IntKind.wrap_i64]; omega
      go_wp2_with fail
      refine (HD.out k _ hk0 (by omega)).mono ?_
      rintro e w3 ⟨rfl, b3⟩
      have nx3 := below_next hnx (Nat.le_refl _) b3
      have sr : w.heap.size + 1 < w2.heap.size := Nat.lt_of_lt_of_le sA hnx.size
      have d2 : w3.cell? ⟨w.heap.size + 1, 2, none⟩ = some (.int .i64 d) := (b3.cell (p := ⟨w.heap.size + 1, 2, none⟩) sr).trans c2
      have d3 : w3.cell? ⟨w.heap.size + 1, 3, none⟩ = some (.int .i64 wd) := (b3.cell (p := ⟨w.heap.size + 1, 3, none⟩) sr).trans c3
      clear b3 c1 c2 c3 hnx hdec
      by_cases hq : k % 7 = A
      · have hww : Cal.wday (N + k) = wd := hmi.2 hq
        have hwb : (Cal.wday (N + k) == wd) = true := by simpa using hww
        by_cases hr : MM < d
        · have HG := HK.out hr hq
          have HGH : Hid (_) := HG
          have hrd : decide (MM < d) = true := decide_eq_true hr
          clear HG hww hmi hq hr
          go_wp2
          go_quiet ((go_at_call 72; exact Calls.quiet_of_same (dow_any _ _ (by omega) (by omega))))
          go_wp2
          go_roundw
          case rel => exact ⟨k + 1, by omega, by omega, by go_num, by rw [HGH.out.1], by rw [HGH.out.2], below_drewN nx3 _⟩
          case measure => simp [intOf]; omega
        · have HG := HJ.out (fun q => hr q.2)
          have HGH : Hid (_) := HG
          have hrd : decide (MM < d) = false := decide_eq_false hr
          clear HG hww hmi hq hr
          go_wp2
          go_quiet ((go_at_call 72; exact Calls.quiet_of_same (dow_any _ _ (by omega) (by omega))))
          go_wp2
          go_roundw
          case rel => exact ⟨k + 1, by omega, by omega, by go_num, by rw [HGH.out.1], by rw [HGH.out.2], below_drewN nx3 _⟩
          case measure => simp [intOf]; omega
      · have hwb : (Cal.wday (N + k) == wd) = false := by
          simp; intro h; exact hq (hmi.1 h)
        have HG := HJ.out (fun q => hq q.1)
        have HGH : Hid (_) := HG
        clear HG hmi hq
        go_wp2
        go_quiet ((go_at_call 72; exact Calls.quiet_of_same (dow_any _ _ (by omega) (by omega))))
        go_wp2
        go_roundw
        case rel => exact ⟨k + 1, by omega, by omega, by go_num, by rw [HGH.out.1], by rw [HGH.out.2], below_drewN nx3 _⟩
        case measure => simp [intOf]; omega
    · obtain rfl : k = ML := by omega
      have hdec : decide (k + 1 ≤ k) = false := decide_eq_false (by omega)
      have HX : Hid (Wk.fnd N A d k = X) := HEND.out
      go_wp2
      go_ret
      exact ⟨ret_int HX.out, B⟩
end Go.Proofs.YtehopfpcikbaiaaDoor
