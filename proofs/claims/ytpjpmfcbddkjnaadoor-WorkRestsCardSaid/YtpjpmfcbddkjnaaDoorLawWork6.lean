/- The walk of WorkRests: it answers true, whatever it is handed. -/
import Derived.Test.YtpjpmfcbddkjnaaDoorLawWork2
import Derived.Test.YtpjpmfcbddkjnaaDoorLawWork3
namespace Go.Proofs.YtpjpmfcbddkjnaaDoor
open Go.RowKit
namespace Wk
theorem isB_true (R : Rst) (L : List Rl) (n : Int) (h : isB R L n = true) : cchk R L = 0 ∧ 1 ≤ n ∧ n ≤ 3651693 ∧ R.rest n = false ∧ n ∉ days R L (Cal.yr n) ∧ n ∉ days R L (Cal.yr n - 1) := by
  unfold isB isW at h
  simp only [Bool.and_eq_true, decide_eq_true_eq, Bool.not_eq_true', Bool.or_eq_false_iff, decide_eq_false_iff_not] at h
  exact ⟨h.1, h.2.1.1, h.2.1.2, h.2.2.1.1, h.2.2.1.2, h.2.2.2⟩
theorem yr_lt (n : Int) (h1 : 1 ≤ n) (h2 : n ≤ 3651693) : 1 ≤ Cal.yr n ∧ Cal.yr n ≤ 9998 := by
  have a := Cal.yr_in n h1 (by omega)
  have b := Cal.yr_spec n
  refine ⟨a.1, ?_⟩
  by_cases c : Cal.yr n ≤ 9998
  · exact c
  · have e : Cal.yr n = 9999 := by omega
    rw [e] at b
    have : Cal.ahead 9999 = 3651694 := by decide +kernel
    omega
theorem rests (R : Rst) (L : List Rl) (n y : Int) (h : isB R L n = true) (h1 : Cal.yr n - 1 ≤ y) (h2 : y ≤ Cal.yr n) : n ∉ holV R L y ∧ (1 ≤ y → holC R L y = 0) := by
  obtain ⟨hz, n1, n2, hr, d1, d2⟩ := isB_true R L n h
  have b := yr_lt n n1 n2
  constructor
  · unfold holV
    split
    · rw [mem_hol]
      rcases (by omega : y = Cal.yr n ∨ y = Cal.yr n - 1) with e | e
      · rw [e]; exact d1
      · rw [e]; exact d2
    · simp
  · intro y1
    unfold holC; rw [if_pos hz, if_pos (by omega)]
end Wk
theorem rest_cell {w W : World} {R : Wk.Rst} {l : List Wk.Rl} {a : Option Addr} {n c : Nat} (h : WSt w W R l a n c) (k : Nat) (hk : k < 7) : W.cell? ⟨w.heap.size, k, none⟩ = some (.bool (R.at k)) := by
  obtain ⟨g0, g1, g2, g3, g4, g5, g6, g7⟩ := h.cells
  match k, hk with
  | 0, _ => simpa [Wk.Rst.at] using g0
  | 1, _ => simpa [Wk.Rst.at] using g1
  | 2, _ => simpa [Wk.Rst.at] using g2
  | 3, _ => simpa [Wk.Rst.at] using g3
  | 4, _ => simpa [Wk.Rst.at] using g4
  | 5, _ => simpa [Wk.Rst.at] using g5
  | 6, _ => simpa [Wk.Rst.at] using g6
set_option maxRecDepth 100000 in
set_option maxHeartbeats 4000000 in
theorem workRests_any (R : Wk.Rst) (l : List Wk.Rl) (a : Option Addr) (cap : Nat) (n : Int) (w : World) (hl : l.length ≤ maxLen) (hw : Laid w) (hr : Row4 w a l) :
    Calls Tryd.prog 8 #[calV R a l.length cap, .int .i64 n] w fun e w' => e = .returned (.bool true) ∧ Below w.heap.size w w' := by
  have s0 : WSt w (w.alloc (calBox R a l.length cap)) R l a l.length cap := WSt.start hw hr
  cases hb : Wk.isB R l n with
  | false =>
    obtain ⟨c, hc⟩ : ∃ c, Wk.isC R l n = c := ⟨_, rfl⟩
    have pI := pIs_at R l a cap n false c hl hb hc
    clear hb hc
    by_cases h0 : c = 0
    · subst h0
      go_enter Tryd.func8, Tryd.ntmps8
      go_wp2_with fail
      refine (pI _ s0.laid s0.row).mono ?_; rintro e w1 ⟨rfl, b1⟩
      have s1 := s0.on b1
      clear s0 b1
      go_wp2_with fail
      refine (wbegun_any _ s1.laid).mono ?_; rintro e w2 ⟨rfl, b2⟩
      have s2 := s1.on b2
      clear s1 b2
      go_wp2
      go_ret
      exact ⟨rfl, s2.below⟩
    · have h0' : (c != 0) = true := by simpa using h0
      clear h0
      go_enter Tryd.func8, Tryd.ntmps8
      go_wp2_with fail
      refine (pI _ s0.laid s0.row).mono ?_; rintro e w1 ⟨rfl, b1⟩
      have s1 := s0.on b1
      clear s0 b1
      go_wp2_with fail
      refine (wbegun_any _ s1.laid).mono ?_; rintro e w2 ⟨rfl, b2⟩
      have s2 := s1.on b2
      clear s1 b2
      go_wp2
      go_ret
      exact ⟨rfl, s2.below⟩
  | true =>
    obtain ⟨hz, n1, n2, hrest, _, _⟩ := Wk.isB_true R l n hb
    have hc : Wk.isC R l n = 0 := by unfold Wk.isC; rw [if_pos hz, if_pos ⟨n1, n2⟩]
    have pI := pIs_at R l a cap n true 0 hl hb hc
    have hY := Wk.yr_lt n n1 n2
    have HH : Hid (∀ y, Cal.yr n - 1 ≤ y → y ≤ Cal.yr n → ∃ (xs : List Int) (c : Int), xs.length ≤ 1000 ∧ n ∉ xs ∧ (1 ≤ y → c = 0) ∧ ∀ w, Laid w → Row4 w a l → Calls Tryd.prog 9 #[calV R a l.length cap, .int .i64 y] w fun e w' => ∃ b k, e = .returned (.tuple #[.slice b xs.length k, .int .i64 c]) ∧ Row1 w' b xs ∧ Below w.heap.size w w') := by
      intro y y1 y2
      have r := Wk.rests R l n y hb y1 y2
      refine ⟨Wk.holV R l y, Wk.holC R l y, Wk.holV_len R l y, r.1, r.2, fun w hw hr => (pHolidays R l a cap y w hl hw hr).mono ?_⟩
      rintro e w' ⟨v, rfl, ho, hb⟩
      obtain ⟨b, c, rfl, h1⟩ := ho.row
      exact ⟨b, c, rfl, h1, hb⟩
    have HW : Hid (∀ w, Calls Tryd.prog 23 #[.int .i64 n] w fun e w' => e = .returned (.tuple #[.agg #[.int .i64 (Cal.wyear n), .int .i64 (Cal.wno n), .int .i64 (Cal.wday n)], .int .i64 0]) ∧ Below w.heap.size w w') := fun w => week_ok n w n1 (by omega)
    have HO : Hid (∀ w, Laid w → Calls Tryd.prog 24 #[.int .i64 n] w fun e w' => ∃ m d, e = .returned (.tuple #[.agg #[.int .i64 (Cal.yr n), .int .i64 m, .int .i64 d], .int .i64 0]) ∧ Below w.heap.size w w') := by
      intro w hw
      refine (of_ok n w hw n1 (by omega)).mono ?_
      rintro e w' ⟨y, m, d, rfl, hv, hn, hb⟩
      obtain rfl := Cal.yr_is n y m d hv hn
      exact ⟨m, d, rfl, hb⟩
    obtain ⟨k, hk⟩ : ∃ k : Nat, Cal.wday n = (k : Int) + 1 := ⟨((n - 1) % 7).toNat, by unfold Cal.wday; omega⟩
    have hk7 : k < 7 := by have := Cal.wday_in n; omega
    have hat : R.at k = false := by
      rw [← hrest]; unfold Wk.Rst.rest; rw [show (n - 1) % 7 = (k : Int) by unfold Cal.wday at hk; omega]
    rw [hk] at HW
    generalize Cal.wyear n = wy at *
    generalize Cal.wno n = wn at *
    generalize Cal.yr n = Y at *
    clear hz hrest hc hb hk n1 n2
    go_enter Tryd.func8, Tryd.ntmps8
    go_wp2_with fail
    refine (pI _ s0.laid s0.row).mono ?_; rintro e w1 ⟨rfl, b1⟩
    have s1 := s0.on b1
    clear s0 b1
    go_wp2_with fail
    refine (wbegun_any _ s1.laid).mono ?_; rintro e w2 ⟨rfl, b2⟩
    have s2 := s1.on b2
    clear s1 b2
    clear pI
    go_wp2_with fail
    refine (HW.out _).mono ?_; rintro e w3 ⟨rfl, b3⟩
    have s3 := s2.on b3
    clear s2 b3
    go_wp2_with fail
    have bw := below_box w3 (.cells #[.int .i64 wy, .int .i64 wn, .int .i64 ((k : Int) + 1)] 42)
    have v3 := Has3.new w3 wy wn ((k : Int) + 1) 42
    have s3' := s3.on bw
    clear s3 bw
    refine (HO.out _ s3'.laid).mono ?_; rintro e w4 ⟨mm, dd, rfl, b4⟩
    have s4 := s3'.on b4
    have v4 := v3.below b4
    clear s3' v3 b4 HW HO
    have bd := below_box w4 (.cells #[.int .i64 Y, .int .i64 mm, .int .i64 dd] 46)
    have d5 := Has3.new w4 Y mm dd 46
    have s5 := s4.on bd
    have v5 := v4.below bd
    clear s4 v4 bd
    have q0 := rest_cell s5 k hk7
    rw [hat] at q0
    have q1 := v5.2.2.2
    have t1 : decide ((k : Int) + 1 < 1) = false := decide_eq_false (by omega)
    have t2 : decide (7 < (k : Int) + 1) = false := decide_eq_false (by omega)
    have t3 : IntKind.i64.wrap ((k : Int) + 1 - 1) = (k : Int) := by rw [IntKind.wrap_i64]; omega
    have t4 : (0 : Int) ≤ (k : Int) := by omega
    have t5 : (k : Int) < 7 := by omega
    go_wp2
    clear q0 q1 t1 t2 t3 t4 t5 v5
    go_loopw [11] (fun yv wr => ∃ j : Nat, j ≤ 2 ∧ yv = .int .i64 (Y - 1 + j) ∧ WSt w wr R l a l.length cap ∧ Has3 wr w4.heap.size Y mm dd) (fun yv _ => (Y + 1 - intOf yv).toNat)
    case atStart => exact ⟨0, by omega, by simp, s5, d5⟩
    case round =>
      clear s5 d5
      obtain ⟨j, hj, rfl, s6, d6⟩ := hrel
      have q0 := d6.2.1
      by_cases hlt : j < 2
      · have u1 : decide (Y - 1 + (j : Int) ≤ Y) = true := decide_eq_true (by omega)
        obtain ⟨xs, c, hx, hn, hc, pH⟩ := HH.out (Y - 1 + j) (by omega) (by omega)
        obtain ⟨g0, g1, g2, g3, g4, g5, g6, g7⟩ := s6.cells
        go_wp2_with fail
        clear g0 g1 g2 g3 g4 g5 g6 g7 q0 u1
        refine (pH _ s6.laid s6.row).mono ?_; rintro e w7 ⟨b7, k7, rfl, r7, bel7⟩
        have s7 := s6.on bel7
        have d7 := d6.below bel7
        clear s6 d6 bel7 pH
        have hyc : decide (1 ≤ Y - 1 + (j : Int)) = false ∨ (decide (1 ≤ Y - 1 + (j : Int)) = true ∧ c = 0) := by
          by_cases h : 1 ≤ Y - 1 + (j : Int)
          · exact .inr ⟨decide_eq_true h, hc h⟩
          · exact .inl (decide_eq_false h)
        clear hc
        rcases hyc with hyc | ⟨hyc, rfl⟩
        all_goals
          go_wp2
          clear hyc
          go_loopw [14] (fun i wr => ∃ k : Nat, k ≤ xs.length ∧ i = .int .i64 k ∧ WSt w wr R l a l.length cap ∧ Has3 wr w4.heap.size Y mm dd ∧ Row1 wr b7 xs) (fun i _ => xs.length - (intOf i).toNat)
          case atStart => exact ⟨0, Nat.zero_le _, rfl, s7, d7, r7⟩
          case round =>
            clear s7 d7 r7
            obtain ⟨k, hk, rfl, s8, d8, r8⟩ := hrel
            by_cases hlt2 : k < xs.length
            · have hlt' : (k : Int) < (xs.length : Int) := by omega
              have hk0 : (0 : Int) ≤ (k : Int) := by omega
              obtain ⟨b1, o1, x, rfl, hb1, hx1, c1⟩ := r8.at hlt2
              have hne : (x == n) = false := by
                have : x ∈ xs := List.mem_of_getElem? hx1
                simp only [beq_eq_false_iff_ne]
                rintro rfl; exact hn this
              clear hx1
              go_wp2
              exact ⟨⟨k + 1, by omega, by go_num, s8, d8, r8⟩, by simp [intOf]; omega⟩
            · obtain rfl : k = xs.length := by omega
              go_wp2
              go_roundw
              case rel => exact ⟨j + 1, by omega, by go_num, s8, d8⟩
              case measure => simp [intOf]; omega
      · obtain rfl : j = 2 := by omega
        have u1 : decide (Y - 1 + ((2 : Nat) : Int) ≤ Y) = false := decide_eq_false (by omega)
        go_wp2
        go_ret
        exact ⟨rfl, s6.below⟩
end Go.Proofs.YtpjpmfcbddkjnaaDoor
