/- Plain mathematics of the calendar: no program is named here. -/
namespace Go.Proofs.YtandlmnbnjkklaaGreatDoor
namespace Cal
def leap (y : Int) : Bool := (decide (y % 4 = 0) && !decide (y % 100 = 0)) || decide (y % 400 = 0)
def lp (y : Int) : Int := if leap y = true then 1 else 0
def ahead (y : Int) : Int := (y - 1) * 365 + (y - 1) / 4 - (y - 1) / 100 + (y - 1) / 400
def mlen (y m : Int) : Int := if m = 2 then 28 + lp y else if m = 4 ∨ m = 6 ∨ m = 9 ∨ m = 11 then 30 else 31
def cum (y m : Int) : Int := if m ≤ 2 then 31 * (m - 1) else (153 * (m - 3) + 2) / 5 + 59 + lp y
def num (y m d : Int) : Int := ahead y + cum y m + d
def vld (y m d : Int) : Prop := 1 ≤ y ∧ y ≤ 9999 ∧ 1 ≤ m ∧ m ≤ 12 ∧ 1 ≤ d ∧ d ≤ mlen y m
theorem lp_cases (y : Int) : (lp y = 1 ∧ leap y = true) ∨ (lp y = 0 ∧ leap y = false) := by
  unfold lp; cases h : leap y <;> simp
theorem leap_iff (y : Int) : leap y = true ↔ ((y % 4 = 0 ∧ y % 100 ≠ 0) ∨ y % 400 = 0) := by
  simp [leap]
theorem leap_not (y : Int) : leap y = false ↔ ¬ ((y % 4 = 0 ∧ y % 100 ≠ 0) ∨ y % 400 = 0) := by
  rw [← leap_iff]; simp
theorem lp_bd (y : Int) : 0 ≤ lp y ∧ lp y ≤ 1 := by
  rcases lp_cases y with ⟨h, _⟩ | ⟨h, _⟩ <;> omega
theorem ahead_succ (y : Int) : ahead (y + 1) = ahead y + 365 + lp y := by
  rcases lp_cases y with ⟨h, h'⟩ | ⟨h, h'⟩
  · rw [leap_iff] at h'; rw [h]; unfold ahead; omega
  · rw [leap_not] at h'; rw [h]; unfold ahead; omega
theorem cum_succ (y m : Int) (h1 : 1 ≤ m) (h2 : m ≤ 12) : cum y (m + 1) = cum y m + mlen y m := by
  have := lp_bd y
  have : m = 1 ∨ m = 2 ∨ m = 3 ∨ m = 4 ∨ m = 5 ∨ m = 6 ∨ m = 7 ∨ m = 8 ∨ m = 9 ∨ m = 10 ∨ m = 11 ∨ m = 12 := by omega
  rcases this with rfl | rfl | rfl | rfl | rfl | rfl | rfl | rfl | rfl | rfl | rfl | rfl <;> simp [cum, mlen] <;> omega
theorem mlen_bd (y m : Int) : 28 ≤ mlen y m ∧ mlen y m ≤ 31 := by
  have := lp_bd y
  unfold mlen
  split
  · omega
  · split <;> omega
theorem cum_1 (y : Int) : cum y 1 = 0 := by simp [cum]
theorem cum_13 (y : Int) : cum y 13 = 365 + lp y := by simp [cum]
theorem cum_bd (y m : Int) (h1 : 1 ≤ m) (h2 : m ≤ 13) : 0 ≤ cum y m ∧ cum y m ≤ 366 := by
  have := lp_bd y; unfold cum; split <;> omega
theorem cum_mono (y m k : Int) (h1 : 1 ≤ m) (h : m ≤ k) (h2 : k ≤ 13) : cum y m ≤ cum y k := by
  have := lp_bd y; unfold cum; split <;> split <;> omega
theorem ahead_mono (a b : Int) (h : a ≤ b) : ahead a ≤ ahead b := by unfold ahead; omega
theorem ahead_bd (y : Int) (h1 : 1 ≤ y) (h2 : y ≤ 10000) : 0 ≤ ahead y ∧ ahead y ≤ 3652059 := by unfold ahead; omega
theorem num_bd (y m d : Int) (h : vld y m d) : ahead y < num y m d ∧ num y m d ≤ ahead (y + 1) := by
  obtain ⟨h1, h2, h3, h4, h5, h6⟩ := h
  have a := cum_succ y m h3 h4
  have b := cum_mono y (m + 1) 13 (by omega) (by omega) (by omega)
  have c := cum_13 y
  have d := ahead_succ y
  have e := cum_bd y m h3 (by omega)
  unfold num; omega
theorem num_in (y m d : Int) (h : vld y m d) : 1 ≤ num y m d ∧ num y m d ≤ 3652059 := by
  have := num_bd y m d h
  obtain ⟨h1, h2, h3, h4, h5, h6⟩ := h
  have a := ahead_bd y h1 (by omega)
  have b := ahead_bd (y + 1) (by omega) (by omega)
  omega
theorem year_inj (n y z : Int) (h1 : ahead y < n) (h2 : n ≤ ahead (y + 1)) (h3 : ahead z < n) (h4 : n ≤ ahead (z + 1)) : y = z := by
  rcases Int.lt_trichotomy y z with h | h | h
  · have := ahead_mono (y + 1) z (by omega); omega
  · exact h
  · have := ahead_mono (z + 1) y (by omega); omega
theorem num_inj (y m d y' m' d' : Int) (h : vld y m d) (h' : vld y' m' d') (e : num y m d = num y' m' d') : y = y' ∧ m = m' ∧ d = d' := by
  have b := num_bd y m d h
  have b' := num_bd y' m' d' h'
  obtain rfl := year_inj (num y m d) y y' b.1 b.2 (by omega) (by omega)
  obtain ⟨h1, h2, h3, h4, h5, h6⟩ := h
  obtain ⟨g1, g2, g3, g4, g5, g6⟩ := h'
  have cs := cum_succ y m h3 h4
  have cs' := cum_succ y m' g3 g4
  unfold num at e
  rcases Int.lt_trichotomy m m' with h | h | h
  · have := cum_mono y (m + 1) m' (by omega) (by omega) (by omega); omega
  · subst h; exact ⟨rfl, rfl, by omega⟩
  · have := cum_mono y (m' + 1) m (by omega) (by omega) (by omega); omega
/-- the year of a day, as the code reckons it -/
def guess (n : Int) : Int := (n - 1) * 400 / 146097 + 1
def yr (n : Int) : Int := if ahead (guess n + 1) < n then guess n + 1 else guess n
theorem guess_bd (n : Int) : ahead (guess n) < n ∧ n ≤ ahead (guess n + 2) := by
  unfold guess ahead; omega
theorem guess_in (n : Int) (h1 : 1 ≤ n) (h2 : n ≤ 3652059) : 1 ≤ guess n ∧ guess n ≤ 9999 := by
  unfold guess; omega
theorem yr_spec (n : Int) : ahead (yr n) < n ∧ n ≤ ahead (yr n + 1) := by
  have := guess_bd n
  have e : guess n + 2 = guess n + 1 + 1 := by omega
  rw [e] at this
  unfold yr; split <;> omega
theorem yr_in (n : Int) (h1 : 1 ≤ n) (h2 : n ≤ 3652059) : 1 ≤ yr n ∧ yr n ≤ 9999 := by
  have a := yr_spec n
  have g := guess_in n h1 h2
  have e : ahead 10000 = 3652059 := by decide
  constructor
  · unfold yr; split <;> omega
  · by_cases h : yr n ≤ 9999
    · exact h
    · have := ahead_mono 10000 (yr n) (by omega); omega
def wday (n : Int) : Int := (n - 1) % 7 + 1
def mid (n : Int) : Int := n - wday n + 4
def wyear (n : Int) : Int := yr (mid n)
def wno (n : Int) : Int := (mid n - ahead (wyear n) - 1) / 7 + 1
def fth (y : Int) : Int := ahead y + 4 - wday (ahead y + 4) + 4
def wmid (y k : Int) : Int := fth y + (k - 1) * 7
def wnum (y k d : Int) : Int := wmid y k - 4 + d
def wok (y k d : Int) : Prop := 1 ≤ y ∧ y ≤ 9999 ∧ 1 ≤ d ∧ d ≤ 7 ∧ 1 ≤ k ∧ k ≤ 53 ∧ wmid y k ≤ ahead (y + 1) ∧ 1 ≤ wnum y k d ∧ wnum y k d ≤ 3652059
theorem mid_in (n : Int) (h1 : 1 ≤ n) (h2 : n ≤ 3652059) : 4 ≤ mid n ∧ mid n ≤ 3652058 := by unfold mid wday; omega
theorem wyear_in (n : Int) (h1 : 1 ≤ n) (h2 : n ≤ 3652059) : 1 ≤ wyear n ∧ wyear n ≤ 9999 := by
  have := mid_in n h1 h2
  exact yr_in _ (by omega) (by omega)
theorem wyear_spec (n : Int) : ahead (wyear n) < mid n ∧ mid n ≤ ahead (wyear n + 1) := yr_spec (mid n)
theorem fth_bd (y : Int) : ahead y < fth y ∧ fth y ≤ ahead y + 7 ∧ fth y % 7 = 4 := by unfold fth wday; omega
theorem mid_mod (n : Int) : mid n % 7 = 4 := by unfold mid wday; omega
theorem wday_in (n : Int) : 1 ≤ wday n ∧ wday n ≤ 7 := by unfold wday; omega
theorem wno_in (n : Int) : 1 ≤ wno n ∧ wno n ≤ 53 := by
  have a := wyear_spec n
  have b := ahead_succ (wyear n)
  have c := lp_bd (wyear n)
  unfold wno; omega
theorem wmid_of (n : Int) : wmid (wyear n) (wno n) = mid n := by
  have a := wyear_spec n
  have b := fth_bd (wyear n)
  have c := mid_mod n
  unfold wmid wno; omega
theorem wnum_of (n : Int) : wnum (wyear n) (wno n) (wday n) = n := by
  unfold wnum; rw [wmid_of]; unfold mid; omega
theorem wok_of (n : Int) (h1 : 1 ≤ n) (h2 : n ≤ 3652059) : wok (wyear n) (wno n) (wday n) := by
  have a := wyear_in n h1 h2
  have b := wday_in n
  have c := wno_in n
  have d := wyear_spec n
  refine ⟨a.1, a.2, b.1, b.2, c.1, c.2, ?_, ?_, ?_⟩
  · rw [wmid_of]; omega
  · rw [wnum_of]; omega
  · rw [wnum_of]; omega
theorem mid_wnum (y k d : Int) (h1 : 1 ≤ d) (h2 : d ≤ 7) : mid (wnum y k d) = wmid y k ∧ wday (wnum y k d) = d := by
  have b := fth_bd y
  unfold mid wnum wmid wday; omega
theorem week_of (y k d : Int) (h : wok y k d) : wyear (wnum y k d) = y ∧ wno (wnum y k d) = k ∧ wday (wnum y k d) = d := by
  obtain ⟨h1, h2, h3, h4, h5, h6, h7, h8, h9⟩ := h
  have m := mid_wnum y k d h3 h4
  have b := fth_bd y
  have s := wyear_spec (wnum y k d)
  have c : ahead y < wmid y k := by unfold wmid; omega
  have e : wyear (wnum y k d) = y := by
    rw [m.1] at s
    exact year_inj _ _ _ s.1 s.2 c h7
  refine ⟨e, ?_, m.2⟩
  unfold wno; rw [e, m.1]; unfold wmid; omega
theorem wmid_bd (y k : Int) (h1 : 1 ≤ y) (h2 : y ≤ 9999) (h5 : 1 ≤ k) (h6 : k ≤ 53) : 1 ≤ wmid y k ∧ wmid y k ≤ 3653000 := by
  have b := fth_bd y
  have a := ahead_bd y h1 (by omega)
  unfold wmid; omega
def ff (x : Int) : Int := x - x / 1460 + x / 36524 - x / 146096
def st (r : Int) : Int := 365 * r + r / 4 - r / 100
theorem ff_mono (x y : Int) (h : x ≤ y) : ff x ≤ ff y := by
  have e : ∀ z : Int, z / 146096 = z / 36524 / 4 := fun z => by omega
  unfold ff; rw [e, e]
  have a : x - x / 1460 ≤ y - y / 1460 := by omega
  have b : x / 36524 ≤ y / 36524 := by omega
  generalize x / 36524 = g at *
  generalize y / 36524 = k at *
  omega
theorem ff_ends : ∀ r : Nat, r < 400 → 365 * (r : Int) ≤ ff (st r) ∧ ff (st r + 364) < 365 * (r + 1) ∧ (((r + 1) % 4 = 0 ∧ ((r + 1) % 100 ≠ 0 ∨ r = 399)) → ff (st r + 365) < 365 * (r + 1)) := by
  decide +kernel
theorem yoe (r doy : Int) (h0 : 0 ≤ r) (h1 : r < 400) (h2 : 0 ≤ doy) (h3 : doy ≤ 365) (h4 : doy = 365 → (r + 1) % 4 = 0 ∧ ((r + 1) % 100 ≠ 0 ∨ r = 399)) :
    ff (st r + doy) / 365 = r := by
  obtain ⟨k, rfl⟩ := Int.eq_ofNat_of_zero_le h0
  obtain ⟨a, b, c⟩ := ff_ends k (by omega)
  have m := ff_mono (st k) (st k + doy) (by omega)
  by_cases h : doy = 365
  · subst h
    have := c (by have := h4 rfl; omega)
    omega
  · have m2 := ff_mono (st k + doy) (st k + 364) (by omega)
    omega
theorem st_bd (r doy : Int) (h0 : 0 ≤ r) (h1 : r < 400) (h2 : 0 ≤ doy) (h3 : doy ≤ 365) : 0 ≤ st r + doy ∧ st r + doy < 146097 := by
  unfold st; omega
theorem month_of (m d : Int) (h1 : 0 ≤ m) (h2 : m ≤ 11) (h3 : 1 ≤ d) (h5 : m ≤ 10 → d ≤ (153 * (m + 1) + 2) / 5 - (153 * m + 2) / 5) (h6 : m = 11 → d ≤ 29) :
    (5 * ((153 * m + 2) / 5 + d - 1) + 2) / 153 = m := by
  omega
theorem dayOf_hi (y m d : Int) (h3 : 3 ≤ m) :
    y / 400 * 146097 + (y - y / 400 * 400) * 365 + (y - y / 400 * 400) / 4 - (y - y / 400 * 400) / 100 + (153 * (m - 3) + 2) / 5 + d - 306 = num y m d := by
  unfold num cum ahead
  rw [if_neg (by omega)]
  rcases lp_cases y with ⟨h, h'⟩ | ⟨h, h'⟩
  · rw [leap_iff] at h'; rw [h]; omega
  · rw [leap_not] at h'; rw [h]; omega
theorem dayOf_lo (y m d : Int) (h1 : 1 ≤ m) (h2 : m ≤ 2) :
    (y - 1) / 400 * 146097 + (y - 1 - (y - 1) / 400 * 400) * 365 + (y - 1 - (y - 1) / 400 * 400) / 4 - (y - 1 - (y - 1) / 400 * 400) / 100 + (153 * (m - 3 + 12) + 2) / 5 + d - 306 = num y m d := by
  unfold num cum ahead
  rw [if_pos (by omega)]
  omega
theorem ex_date (n : Int) (h1 : 1 ≤ n) (h2 : n ≤ 3652059) : ∃ y m d, vld y m d ∧ num y m d = n := by
  have hy := yr_in n h1 h2
  have hs := yr_spec n
  have hu := ahead_succ (yr n)
  have hl := lp_bd (yr n)
  have key : ∀ k : Int, 1 ≤ k → k ≤ 12 → cum (yr n) k < n - ahead (yr n) → n - ahead (yr n) ≤ cum (yr n) (k + 1) → ∃ y m d, vld y m d ∧ num y m d = n := by
    intro k a b c d
    have cs := cum_succ (yr n) k a b
    exact ⟨yr n, k, n - ahead (yr n) - cum (yr n) k, ⟨hy.1, hy.2, a, b, by omega, by omega⟩, by unfold num; omega⟩
  have c1 := cum_1 (yr n)
  have c13 := cum_13 (yr n)
  by_cases g1 : n - ahead (yr n) ≤ cum (yr n) 2
  · exact key 1 (by omega) (by omega) (by omega) g1
  by_cases g2 : n - ahead (yr n) ≤ cum (yr n) 3
  · exact key 2 (by omega) (by omega) (by omega) g2
  by_cases g3 : n - ahead (yr n) ≤ cum (yr n) 4
  · exact key 3 (by omega) (by omega) (by omega) g3
  by_cases g4 : n - ahead (yr n) ≤ cum (yr n) 5
  · exact key 4 (by omega) (by omega) (by omega) g4
  by_cases g5 : n - ahead (yr n) ≤ cum (yr n) 6
  · exact key 5 (by omega) (by omega) (by omega) g5
  by_cases g6 : n - ahead (yr n) ≤ cum (yr n) 7
  · exact key 6 (by omega) (by omega) (by omega) g6
  by_cases g7 : n - ahead (yr n) ≤ cum (yr n) 8
  · exact key 7 (by omega) (by omega) (by omega) g7
  by_cases g8 : n - ahead (yr n) ≤ cum (yr n) 9
  · exact key 8 (by omega) (by omega) (by omega) g8
  by_cases g9 : n - ahead (yr n) ≤ cum (yr n) 10
  · exact key 9 (by omega) (by omega) (by omega) g9
  by_cases g10 : n - ahead (yr n) ≤ cum (yr n) 11
  · exact key 10 (by omega) (by omega) (by omega) g10
  by_cases g11 : n - ahead (yr n) ≤ cum (yr n) 12
  · exact key 11 (by omega) (by omega) (by omega) g11
  · exact key 12 (by omega) (by omega) (by omega) (by show _ ≤ cum (yr n) 13; omega)
/-- what the reference reckons with, of a date that there is -/
theorem era_facts (y mo d : Int) (h : vld y mo d) : ∃ e r doy m : Int, 0 ≤ e ∧ e ≤ 25 ∧ 0 ≤ r ∧ r < 400 ∧ 0 ≤ doy ∧ doy ≤ 365 ∧ 0 ≤ m ∧ m ≤ 11 ∧
    (num y mo d + 305) / 146097 = e ∧ (num y mo d + 305) % 146097 = st r + doy ∧ ff (st r + doy) / 365 = r ∧ (5 * doy + 2) / 153 = m ∧ doy - (153 * m + 2) / 5 + 1 = d ∧
    ((m ≤ 9 ∧ mo = m + 3 ∧ y = e * 400 + r) ∨ (10 ≤ m ∧ mo = m - 9 ∧ y = e * 400 + r + 1)) := by
  obtain ⟨h1, h2, h3, h4, h5, h6⟩ := h
  have hd : d ≤ 31 := by have := mlen_bd y mo; omega
  by_cases hm : 3 ≤ mo
  · have e1 := dayOf_hi y mo d hm
    have hml : d ≤ (153 * (mo - 3 + 1) + 2) / 5 - (153 * (mo - 3) + 2) / 5 ∧ (153 * (mo - 3) + 2) / 5 + d - 1 ≤ 305 := by
      have : mo = 3 ∨ mo = 4 ∨ mo = 5 ∨ mo = 6 ∨ mo = 7 ∨ mo = 8 ∨ mo = 9 ∨ mo = 10 ∨ mo = 11 ∨ mo = 12 := by omega
      rcases this with rfl | rfl | rfl | rfl | rfl | rfl | rfl | rfl | rfl | rfl <;> simp [mlen] at h6 ⊢ <;> omega
    have b := st_bd (y - y / 400 * 400) ((153 * (mo - 3) + 2) / 5 + d - 1) (by omega) (by omega) (by omega) (by omega)
    have g := yoe (y - y / 400 * 400) ((153 * (mo - 3) + 2) / 5 + d - 1) (by omega) (by omega) (by omega) (by omega) (by omega)
    have mm := month_of (mo - 3) d (by omega) (by omega) h5 (by omega) (by omega)
    have hN : num y mo d + 305 = y / 400 * 146097 + (st (y - y / 400 * 400) + ((153 * (mo - 3) + 2) / 5 + d - 1)) := by unfold st; omega
    refine ⟨y / 400, y - y / 400 * 400, (153 * (mo - 3) + 2) / 5 + d - 1, mo - 3, by omega, by omega, by omega, by omega, by omega, by omega, by omega, by omega, ?_, ?_, g, mm, by omega, .inl ⟨by omega, by omega, by omega⟩⟩
    · omega
    · omega
  · have e1 := dayOf_lo y mo d h3 (by omega)
    have hml : (mo = 1 → d ≤ 31) ∧ (mo = 2 → d ≤ 28 + lp y) := by
      constructor
      · rintro rfl; omega
      · rintro rfl; simpa [mlen] using h6
    have hl := lp_cases y
    rw [leap_iff, leap_not] at hl
    have b := st_bd (y - 1 - (y - 1) / 400 * 400) ((153 * (mo - 3 + 12) + 2) / 5 + d - 1) (by omega) (by omega) (by omega) (by omega)
    have g := yoe (y - 1 - (y - 1) / 400 * 400) ((153 * (mo - 3 + 12) + 2) / 5 + d - 1) (by omega) (by omega) (by omega) (by omega) (by omega)
    have mm := month_of (mo - 3 + 12) d (by omega) (by omega) h5 (by omega) (by omega)
    have hN : num y mo d + 305 = (y - 1) / 400 * 146097 + (st (y - 1 - (y - 1) / 400 * 400) + ((153 * (mo - 3 + 12) + 2) / 5 + d - 1)) := by unfold st; omega
    refine ⟨(y - 1) / 400, y - 1 - (y - 1) / 400 * 400, (153 * (mo - 3 + 12) + 2) / 5 + d - 1, mo - 3 + 12, by omega, by omega, by omega, by omega, by omega, by omega, by omega, by omega, ?_, ?_, g, mm, by omega, .inr ⟨by omega, by omega, by omega⟩⟩
    · omega
    · omega
end Cal
end Go.Proofs.YtandlmnbnjkklaaGreatDoor
