/- The walk of the document's words: are fares fair. -/
import Derived.Test.YtcaibonnkfhkmaaFFa
namespace Go.Proofs.Ytcaibonnkfhkmaa
open Go.RowKit

/-- a price of fares that are right, as it lies there -/
theorem Mat.sq {w : World} {a : Option Addr} {f : List (List Int)} {n : Nat} (h : Mat w a f) (hs : Sq f) (hn : f.length = n) {x y : Nat} (hxy : x ≤ y) (hy : y < n) :
    ∃ b off b2 off2 ci, a = some ⟨b, off, none⟩ ∧ w.cell? ⟨b, off + x, none⟩ = some (.slice (some ⟨b2, off2, none⟩) (n - x) ci) ∧ w.cell? ⟨b2, off2 + (y - x), none⟩ = some (.int .i64 (Fr.pr f x y)) := by
  obtain ⟨b1, o1, b2, o2, ci, hf, hb1, hb2, c1, c2⟩ := h.price (x := x) (y := y) (by omega) (by rw [hs x (by omega)]; omega)
  rw [hs x (by omega), hn] at c1
  exact ⟨b1, o1, b2, o2, ci, hf, c1, c2⟩
set_option maxRecDepth 100000 in
set_option maxHeartbeats 2000000 in
theorem refFair_any {f : List (List Int)} (hs : Sq f) (hP : Fr.Ok (Fr.pr f) f.length) (b0 o0 : Nat) (cap : Nat) (w : World) (hm : Mat w (some ⟨b0, o0, none⟩) f) (hn1 : 1 ≤ f.length) (hn6 : f.length ≤ 6) :
    Calls Try.prog 15 #[.slice (some ⟨b0, o0, none⟩) f.length cap] w fun e w' => e = .returned (.bool (Fr.fb (Fr.pr f) f.length)) ∧ ∃ q, w' = w.drewN q := by
  have HIFF : Hid (Fr.fb (Fr.pr f) f.length = true ↔ Fr.Fair (Fr.pr f) f.length) := Fr.fb_iff hP
  have HS : Hid (Sq f) := hs
  have HP : Hid (Fr.Ok (Fr.pr f) f.length) := hP
  have HM : Hid (Mat w (some ⟨b0, o0, none⟩) f) := hm
  obtain ⟨n, hn⟩ : ∃ n, f.length = n := ⟨_, rfl⟩
  have HN : Hid (f.length = n) := hn
  rw [hn] at hn1 hn6 HP HIFF ⊢
  have HNO : Hid (¬ Fr.Fair (Fr.pr f) n → Fr.fb (Fr.pr f) n = false) := by
    intro h
    cases e : Fr.fb (Fr.pr f) n with
    | false => rfl
    | true => exact absurd (HIFF.out.1 e) h
  clear hs hP hm hn
  obtain ⟨P, hPf⟩ : ∃ P, Fr.pr f = P := ⟨_, rfl⟩
  have HPR : Hid (∀ x y, x ≤ y → y < n → ∃ b2 off2 ci, w.cell? ⟨b0, o0 + x, none⟩ = some (.slice (some ⟨b2, off2, none⟩) (n - x) ci) ∧ w.cell? ⟨b2, off2 + (y - x), none⟩ = some (.int .i64 (P x y))) := by
    intro x y h1 h2
    obtain ⟨b1, o1, b2, o2, ci, e, c1, c2⟩ := HM.out.sq HS.out HN.out h1 h2
    cases e
    rw [hPf] at c2
    exact ⟨b2, o2, ci, c1, c2⟩
  rw [hPf] at HP HIFF HNO ⊢
  clear hPf HM HS HN
  generalize Fr.fb P n = FB at *
  go_enter Try.func15, Try.ntmps15
  go_wp2
  go_loopw [4, 5, 6, 7, 8] (fun av _ _ _ _ wr => ∃ a : Nat, a ≤ n ∧ av = .int .i64 a ∧ (∀ a', a' < a → ∀ b, a' ≤ b → b < n → (∀ x y, x ≤ a' → b ≤ y → y < n → P a' b ≤ P x y) ∧ ∀ m, a' ≤ m → m < b → P a' b ≤ P a' m + P (m + 1) b) ∧ ∃ q, wr = w.drewN q) (fun av _ _ _ _ _ => n - (intOf av).toNat)
  case atStart => exact ⟨0, Nat.zero_le _, rfl, fun _ h => by omega, 0, rfl⟩
  case round =>
    obtain ⟨a, ha, rfl, hz, q, rfl⟩ := hrel
    have HZA : Hid (∀ a', a' < a → ∀ b, a' ≤ b → b < n → (∀ x y, x ≤ a' → b ≤ y → y < n → P a' b ≤ P x y) ∧ ∀ m, a' ≤ m → m < b → P a' b ≤ P a' m + P (m + 1) b) := hz
    clear hz
    by_cases hla : a < n
    · have hla' : (a : Int) < (n : Int) := by omega
      go_wp2
      go_loopw [5, 6, 7, 8] (fun bv _ _ _ wr => ∃ b : Nat, a ≤ b ∧ b ≤ n ∧ bv = .int .i64 b ∧ (∀ b', a ≤ b' → b' < b → (∀ x y, x ≤ a → b' ≤ y → y < n → P a b' ≤ P x y) ∧ ∀ m, a ≤ m → m < b' → P a b' ≤ P a m + P (m + 1) b') ∧ ∃ q, wr = w.drewN q) (fun bv _ _ _ _ => n - (intOf bv).toNat)
      case atStart => exact ⟨a, Nat.le_refl _, ha, rfl, fun _ _ h => by omega, _, rfl⟩
      case round =>
        obtain ⟨b, hab, hb, rfl, hz, q, rfl⟩ := hrel
        have HZB : Hid (∀ b', a ≤ b' → b' < b → (∀ x y, x ≤ a → b' ≤ y → y < n → P a b' ≤ P x y) ∧ ∀ m, a ≤ m → m < b' → P a b' ≤ P a m + P (m + 1) b') := hz
        clear hz
        by_cases hlb : b < n
        · have hlb' : (b : Int) < (n : Int) := by omega
          go_wp2
          go_loopw [6, 7] (fun xv _ wr => ∃ x : Nat, x ≤ a + 1 ∧ xv = .int .i64 x ∧ (∀ x' y, x' < x → b ≤ y → y < n → P a b ≤ P x' y) ∧ ∃ q, wr = w.drewN q) (fun xv _ _ => a + 1 - (intOf xv).toNat)
          case atStart => exact ⟨0, Nat.zero_le _, rfl, fun _ _ h => by omega, _, rfl⟩
          case round =>
            obtain ⟨x, hx, rfl, hz, q, rfl⟩ := hrel
            have HZX : Hid (∀ x' y, x' < x → b ≤ y → y < n → P a b ≤ P x' y) := hz
            clear hz
            by_cases hlx : x < a + 1
            · have hlx' : (x : Int) ≤ (a : Int) := by omega
              go_wp2
              go_loopw [7] (fun yv wr => ∃ y : Nat, b ≤ y ∧ y ≤ n ∧ yv = .int .i64 y ∧ (∀ y', b ≤ y' → y' < y → P a b ≤ P x y') ∧ ∃ q, wr = w.drewN q) (fun yv _ => n - (intOf yv).toNat)
              case atStart => exact ⟨b, Nat.le_refl _, hb, rfl, fun _ _ h => by omega, _, rfl⟩
              case round =>
                obtain ⟨y, hby, hy, rfl, hz, q, rfl⟩ := hrel
                have HZY : Hid (∀ y', b ≤ y' → y' < y → P a b ≤ P x y') := hz
                clear hz
                by_cases hly : y < n
                · have hly' : (y : Int) < (n : Int) := by omega
                  obtain ⟨b2, o2, ci2, c1, c2⟩ := HPR.out a b hab hlb
                  obtain ⟨b3, o3, ci3, c3, c4⟩ := HPR.out x y (by omega) hly
                  obtain ⟨t, ht⟩ : ∃ t, b - a = t := ⟨_, rfl⟩
                  obtain ⟨s, hs⟩ : ∃ s, y - x = s := ⟨_, rfl⟩
                  obtain ⟨r, hr⟩ : ∃ r, n - a = r := ⟨_, rfl⟩
                  obtain ⟨r2, hr2⟩ : ∃ r, n - x = r := ⟨_, rfl⟩
                  rw [hr] at c1; rw [ht] at c2; rw [hr2] at c3; rw [hs] at c4
                  have f1 : (t : Int) < (r : Int) := by omega
                  have f2 : (s : Int) < (r2 : Int) := by omega
                  have f3 : (x : Int) < (n : Int) := by omega
                  have e1 : (b : Int) - (a : Int) = (t : Int) := by omega
                  have e2 : (y : Int) - (x : Int) = (s : Int) := by omega
                  have w1 : IntKind.i64.wrap (t : Int) = (t : Int) := by rw [IntKind.wrap_i64]; omega
                  have w2 : IntKind.i64.wrap (s : Int) = (s : Int) := by rw [IntKind.wrap_i64]; omega
                  by_cases hv : P x y < P a b
                  · have HF : Hid (FB = false) := HNO.out fun hF => by have := (hF a b hab hlb).1 x y (by omega) hby hly; omega
                    generalize P a b = p1 at *
                    generalize P x y = p2 at *
                    go_wp2
                    go_quiet (fail)
                    go_wp2
                    go_ret
                    exact ⟨ret_bool HF.out.symm, _, (by first | rfl | exact World.drewN_drewN _ _ _)⟩
                  · have HN2 : Hid (∀ y', b ≤ y' → y' < y + 1 → P a b ≤ P x y') := by
                      intro y' h1 h2
                      by_cases c : y' = y
                      · subst c; omega
                      · exact HZY.out y' h1 (by omega)
                    have hv' : decide (P x y < P a b) = false := by simpa using hv
                    obtain ⟨p1, hp1⟩ : ∃ p, P a b = p := ⟨_, rfl⟩
                    obtain ⟨p2, hp2⟩ : ∃ p, P x y = p := ⟨_, rfl⟩
                    rw [hp1] at c2 hv'
                    rw [hp2] at c4 hv'
                    have hv2 : ¬ p2 < p1 := by simpa using hv'
                    clear hp1 hp2 hv hv'
                    go_wp2
                    go_quiet (fail)
                    go_wp2
                    refine ⟨⟨y + 1, by omega, by omega, by go_num, HN2.out, _, rfl⟩, by simp [intOf]; omega⟩
                · obtain rfl : n = y := by omega
                  have HN2 : Hid (∀ x' y, x' < x + 1 → b ≤ y → y < n → P a b ≤ P x' y) := by
                    intro x' y h1 h2 h3
                    by_cases c : x' = x
                    · subst c; exact HZY.out y h2 h3
                    · exact HZX.out x' y (by omega) h2 h3
                  go_wp2
                  refine ⟨⟨x + 1, by omega, by go_num, HN2.out, _, rfl⟩, by simp [intOf]; omega⟩
            · obtain rfl : x = a + 1 := by omega
              have hlx' : ¬ ((a + 1 : Nat) : Int) ≤ (a : Int) := by omega
              go_wp2
              go_loopw [8] (fun mv wr => ∃ m : Nat, a ≤ m ∧ m ≤ b ∧ mv = .int .i64 m ∧ (∀ m', a ≤ m' → m' < m → P a b ≤ P a m' + P (m' + 1) b) ∧ ∃ q, wr = w.drewN q) (fun mv _ => b - (intOf mv).toNat)
              case atStart => exact ⟨a, Nat.le_refl _, hab, rfl, fun _ _ h => by omega, _, rfl⟩
              case round =>
                obtain ⟨m, ham, hmb, rfl, hz, q, rfl⟩ := hrel
                have HZM : Hid (∀ m', a ≤ m' → m' < m → P a b ≤ P a m' + P (m' + 1) b) := hz
                clear hz
                by_cases hlm : m < b
                · have hlm' : (m : Int) < (b : Int) := by omega
                  obtain ⟨b2, o2, ci2, c1, c2⟩ := HPR.out a b hab hlb
                  obtain ⟨b3, o3, ci3, c3, c4⟩ := HPR.out a m ham (by omega)
                  obtain ⟨b4, o4, ci4, c5, c6⟩ := HPR.out (m + 1) b (by omega) hlb
                  have hsame := c1.symm.trans c3
                  obtain ⟨hA, hC⟩ : b2 = b3 ∧ o2 = o3 := by simp at hsame; omega
                  subst hA hC
                  clear hsame c3
                  obtain ⟨t, ht⟩ : ∃ t, b - a = t := ⟨_, rfl⟩
                  obtain ⟨s, hs⟩ : ∃ s, m - a = s := ⟨_, rfl⟩
                  obtain ⟨u, hu⟩ : ∃ u, b - (m + 1) = u := ⟨_, rfl⟩
                  obtain ⟨r, hr⟩ : ∃ r, n - a = r := ⟨_, rfl⟩
                  obtain ⟨r3, hr3⟩ : ∃ r, n - (m + 1) = r := ⟨_, rfl⟩
                  rw [hr] at c1; rw [ht] at c2; rw [hs] at c4; rw [hr3] at c5; rw [hu] at c6
                  have f1 : (t : Int) < (r : Int) := by omega
                  have f2 : (s : Int) < (r : Int) := by omega
                  have f3 : (u : Int) < (r3 : Int) := by omega
                  have f4 : (m : Int) + 1 < (n : Int) := by omega
                  have e1 : (b : Int) - (a : Int) = (t : Int) := by omega
                  have e2 : (m : Int) - (a : Int) = (s : Int) := by omega
                  have e3 : (b : Int) - (m : Int) = (u : Int) + 1 := by omega
                  have e4 : (u : Int) + 1 - 1 = (u : Int) := by omega
                  have w1 : IntKind.i64.wrap (t : Int) = (t : Int) := by rw [IntKind.wrap_i64]; omega
                  have w2 : IntKind.i64.wrap (s : Int) = (s : Int) := by rw [IntKind.wrap_i64]; omega
                  have w3 : IntKind.i64.wrap (u : Int) = (u : Int) := by rw [IntKind.wrap_i64]; omega
                  have w4 : IntKind.i64.wrap ((u : Int) + 1) = (u : Int) + 1 := by rw [IntKind.wrap_i64]; omega
                  have w5 : IntKind.i64.wrap ((m : Int) + 1) = (m : Int) + 1 := by rw [IntKind.wrap_i64]; omega
                  have i1 := HP.out a m ham (by omega)
                  have i2 := HP.out (m + 1) b (by omega) hlb
                  have w6 : IntKind.i64.wrap (P a m + P (m + 1) b) = P a m + P (m + 1) b := by rw [IntKind.wrap_i64]; omega
                  by_cases hv : P a m + P (m + 1) b < P a b
                  · have HF : Hid (FB = false) := HNO.out fun hF => by have := (hF a b hab hlb).2 m ham hlm; omega
                    generalize P a b = p1 at *
                    generalize P a m = p2 at *
                    generalize P (m + 1) b = p3 at *
                    go_wp2
                    go_quiet (fail)
                    go_wp2
                    go_ret
                    exact ⟨ret_bool HF.out.symm, _, (by first | rfl | exact World.drewN_drewN _ _ _)⟩
                  · have HN2 : Hid (∀ m', a ≤ m' → m' < m + 1 → P a b ≤ P a m' + P (m' + 1) b) := by
                      intro m' h1 h2
                      by_cases c : m' = m
                      · subst c; omega
                      · exact HZM.out m' h1 (by omega)
                    obtain ⟨p1, hp1⟩ : ∃ p, P a b = p := ⟨_, rfl⟩
                    obtain ⟨p2, hp2⟩ : ∃ p, P a m = p := ⟨_, rfl⟩
                    obtain ⟨p3, hp3⟩ : ∃ p, P (m + 1) b = p := ⟨_, rfl⟩
                    rw [hp1] at c2 hv
                    rw [hp2] at c4 hv i1 w6
                    rw [hp3] at c6 hv i2 w6
                    clear hp1 hp2 hp3
                    go_wp2
                    go_quiet (fail)
                    go_wp2
                    refine ⟨⟨m + 1, by omega, by omega, by go_num, HN2.out, _, rfl⟩, by simp [intOf]; omega⟩
                · obtain rfl : m = b := by omega
                  have HN2 : Hid (∀ b', a ≤ b' → b' < m + 1 → (∀ x y, x ≤ a → b' ≤ y → y < n → P a b' ≤ P x y) ∧ ∀ m, a ≤ m → m < b' → P a b' ≤ P a m + P (m + 1) b') := by
                    intro b' h1 h2
                    by_cases c : b' = m
                    · subst c; exact ⟨fun x y h1 h2 h3 => HZX.out x y (by omega) h2 h3, HZM.out⟩
                    · exact HZB.out b' h1 (by omega)
                  go_wp2
                  refine ⟨⟨m + 1, by omega, by omega, by go_num, HN2.out, _, rfl⟩, by simp [intOf]; omega⟩
        · obtain rfl : n = b := by omega
          have HN2 : Hid (∀ a', a' < a + 1 → ∀ b, a' ≤ b → b < n → (∀ x y, x ≤ a' → b ≤ y → y < n → P a' b ≤ P x y) ∧ ∀ m, a' ≤ m → m < b → P a' b ≤ P a' m + P (m + 1) b) := by
            intro a' h1 b h2 h3
            by_cases c : a' = a
            · subst c; exact HZB.out b h2 h3
            · exact HZA.out a' (by omega) b h2 h3
          go_wp2
          refine ⟨⟨a + 1, by omega, by go_num, HN2.out, _, rfl⟩, by simp [intOf]; omega⟩
    · obtain rfl : n = a := by omega
      have HF : Hid (FB = true) := HIFF.out.2 fun a b h1 h2 => HZA.out a (by omega) b h1 h2
      go_wp2
      go_ret
      exact ⟨ret_bool HF.out.symm, _, rfl⟩
end Go.Proofs.Ytcaibonnkfhkmaa
