/- The walk of the document's words on fares: is none dearer. -/
import Derived.Test.YtcaibonnkfhkmaaFRow
namespace Go.Proofs.Ytcaibonnkfhkmaa
open Go.RowKit

/-- of as many zones, and no price dearer -/
def Fr.Nod (f g : List (List Int)) : Prop := f.length = g.length ∧ ∀ i, i < f.length → ∀ (k : Nat) (x y : Int), (f.getD i [])[k]? = some x → (g.getD i [])[k]? = some y → x ≤ y
def Fr.NodAns (f g : List (List Int)) (e : Ending) : Prop := ∃ b : Bool, e = .returned (.bool b) ∧ (b = true ↔ Fr.Nod f g)
set_option maxRecDepth 100000 in
set_option maxHeartbeats 800000 in
theorem noDearer_any (f g : List (List Int)) (a1 a2 : Option Addr) (k1 k2 : Nat) (w : World) (hl : f.length ≤ maxLen) (hr : g.length ≤ maxLen) (h1 : Mat w a1 f) (h2 : Mat w a2 g) :
    Calls Try.prog 19 #[.slice a1 f.length k1, .slice a2 g.length k2] w fun e w' => Fr.NodAns f g e ∧ ∃ q, w' = w.drewN q := by
  unfold maxLen at hl hr
  have HR1 : Hid (Mat w a1 f) := h1
  have HR2 : Hid (Mat w a2 g) := h2
  obtain ⟨n, hn⟩ : ∃ n, f.length = n := ⟨_, rfl⟩
  obtain ⟨m, hm⟩ : ∃ m, g.length = m := ⟨_, rfl⟩
  have HN : Hid (f.length = n) := hn
  have HM : Hid (g.length = m) := hm
  have HYES : Hid (n = m → (∀ i, i < n → ∀ (k : Nat) (x y : Int), (f.getD i [])[k]? = some x → (g.getD i [])[k]? = some y → x ≤ y) → Fr.NodAns f g (.returned (.bool true))) := fun e h => ⟨true, rfl, fun _ => ⟨by rw [hn, hm, e], by rw [hn]; exact h⟩, fun _ => rfl⟩
  have HNO : Hid (¬ Fr.Nod f g → Fr.NodAns f g (.returned (.bool false))) := fun h => ⟨false, rfl, fun e => (by cases e), fun h' => absurd h' h⟩
  rw [hn] at hl
  rw [hm] at hr
  rw [hn, hm]
  clear hn hm h1 h2
  by_cases he : n = m
  · have HE : Hid (n = m) := he
    subst he
    have hne : ((n : Int) != (n : Int)) = false := by simp
    go_enter Try.func19, Try.ntmps19
    go_wp2

    go_loopw [5, 6] (fun i _ wr => ∃ k : Nat, k ≤ n ∧ i = .int .i64 k ∧ (∀ j, j < k → ∀ (t : Nat) (x y : Int), (f.getD j [])[t]? = some x → (g.getD j [])[t]? = some y → x ≤ y) ∧ ∃ q, wr = w.drewN q) (fun i _ _ => n - (intOf i).toNat)
    case atStart => exact ⟨0, Nat.zero_le _, rfl, fun j hj => by omega, 0, rfl⟩
    case round =>
      obtain ⟨k, hk, rfl, hz, hwr⟩ := hrel
      have HZ : Hid (∀ j, j < k → ∀ (t : Nat) (x y : Int), (f.getD j [])[t]? = some x → (g.getD j [])[t]? = some y → x ≤ y) := hz
      by_cases hlt : k < n
      · have hlt' : (k : Int) < (n : Int) := by omega
        have hwr' := hwr
        obtain ⟨q, rfl⟩ := hwr'
        obtain ⟨b1, o1, r1, ci1, rfl, hb1, c1, hx, hxl⟩ := HR1.out.at (k := k) (by rw [HN.out]; exact hlt)
        obtain ⟨b2, o2, r2, ci2, rfl, hb2, c2, hy, hyl⟩ := HR2.out.at (k := k) (by rw [HM.out]; exact hlt)
        have HX : Hid (Row1 w r1 (f.getD k [])) := hx
        have HY : Hid (Row1 w r2 (g.getD k [])) := hy
        have HND : Hid (∀ (t : Nat) (x y : Int), (f.getD k [])[t]? = some x → (g.getD k [])[t]? = some y → ¬ x ≤ y → ¬ Fr.Nod f g) := fun t x y h1 h2 h3 h => h3 (h.2 k (by rw [HN.out]; exact hlt) t x y h1 h2)
        have HNX : Hid ((∀ (t : Nat) (x y : Int), (f.getD k [])[t]? = some x → (g.getD k [])[t]? = some y → x ≤ y) → ∀ j, j < k + 1 → ∀ (t : Nat) (x y : Int), (f.getD j [])[t]? = some x → (g.getD j [])[t]? = some y → x ≤ y) := by
          intro h j hj
          by_cases c : j = k
          · subst c; exact h
          · exact HZ.out j (by omega)
        clear hx hy hz hwr
        generalize f.getD k [] = x at *
        generalize g.getD k [] = y at *
        obtain ⟨lx, hlx⟩ : ∃ l, x.length = l := ⟨_, rfl⟩
        obtain ⟨ly, hly⟩ : ∃ l, y.length = l := ⟨_, rfl⟩
        have HLX : Hid (x.length = lx) := hlx
        have HLY : Hid (y.length = ly) := hly
        rw [hlx] at c1 hxl
        rw [hly] at c2 hyl
        unfold maxLen at hxl hyl
        clear hlx hly
        go_wp2
        go_loopw [6] (fun i wr => ∃ t : Nat, t ≤ lx ∧ i = .int .i64 t ∧ (∀ j, j < t → ∀ (u v : Int), x[j]? = some u → y[j]? = some v → u ≤ v) ∧ ∃ q, wr = w.drewN q) (fun i _ => lx - (intOf i).toNat)
        case atStart => exact ⟨0, Nat.zero_le _, rfl, fun j hj => by omega, _, rfl⟩
        case round =>
          obtain ⟨t, ht, rfl, hz, q, rfl⟩ := hrel
          have HZT : Hid (∀ j, j < t → ∀ (u v : Int), x[j]? = some u → y[j]? = some v → u ≤ v) := hz
          clear hz
          by_cases ha : t < lx
          · have ha' : (t : Int) < (lx : Int) := by omega
            by_cases hb : t < ly
            · have hb' : (t : Int) < (ly : Int) := by omega
              obtain ⟨b3, o3, p1, rfl, hb3, hp1, c3⟩ := HX.out.at (k := t) (by rw [HLX.out]; exact ha)
              obtain ⟨b4, o4, p2, rfl, hb4, hp2, c4⟩ := HY.out.at (k := t) (by rw [HLY.out]; exact hb)
              by_cases hv : p2 < p1
              · have HF : Hid (Fr.NodAns f g (.returned (.bool false))) := HNO.out (HND.out t p1 p2 hp1 hp2 (by omega))
                clear hp1 hp2
                go_wp2
                go_quiet (fail)
                go_wp2
                go_ret
                exact ⟨HF.out, _, (by first | rfl | exact World.drewN_drewN _ _ _)⟩
              · have HZ2 : Hid (∀ j, j < t + 1 → ∀ (u v : Int), x[j]? = some u → y[j]? = some v → u ≤ v) := by
                  intro j hj u v h1 h2
                  by_cases c : j = t
                  · subst c
                    obtain rfl := Option.some.inj (h1.symm.trans hp1)
                    obtain rfl := Option.some.inj (h2.symm.trans hp2)
                    omega
                  · exact HZT.out j (by omega) u v h1 h2
                clear hp1 hp2
                go_wp2
                go_quiet (fail)
                go_wp2
                refine ⟨⟨t + 1, by omega, by go_num, HZ2.out, _, rfl⟩, by simp [intOf]; omega⟩
            · have hb' : decide ((t : Int) < (ly : Int)) = false := by simp; omega
              have HZ2 : Hid (∀ j, j < k + 1 → ∀ (t : Nat) (x y : Int), (f.getD j [])[t]? = some x → (g.getD j [])[t]? = some y → x ≤ y) := HNX.out fun j u v h1 h2 => by
                by_cases c : j < t
                · exact HZT.out j c u v h1 h2
                · rw [List.getElem?_eq_none (by rw [HLY.out]; omega)] at h2; cases h2
              go_wp2
              refine ⟨⟨k + 1, by omega, by go_num, HZ2.out, _, rfl⟩, by simp [intOf]; omega⟩
          · have ha' : decide ((t : Int) < (lx : Int)) = false := by simp; omega
            have HZ2 : Hid (∀ j, j < k + 1 → ∀ (t : Nat) (x y : Int), (f.getD j [])[t]? = some x → (g.getD j [])[t]? = some y → x ≤ y) := HNX.out fun j u v h1 h2 => by
              by_cases c : j < t
              · exact HZT.out j c u v h1 h2
              · rw [List.getElem?_eq_none (by rw [HLX.out]; omega)] at h1; cases h1
            go_wp2
            refine ⟨⟨k + 1, by omega, by go_num, HZ2.out, _, rfl⟩, by simp [intOf]; omega⟩
      · obtain rfl : n = k := by omega
        have HEE : Hid (Fr.NodAns f g (.returned (.bool true))) := HYES.out HE.out HZ.out
        obtain ⟨q, rfl⟩ := hwr
        clear hz
        go_wp2
        go_ret
        exact ⟨HEE.out, _, rfl⟩
  · have hne : ((n : Int) != (m : Int)) = true := by simp; omega
    have HEE : Hid (Fr.NodAns f g (.returned (.bool false))) := HNO.out fun h => he (by rw [← HN.out, ← HM.out]; exact h.1)
    go_enter Try.func19, Try.ntmps19
    go_wp2
    go_ret
    exact ⟨HEE.out, 0, rfl⟩
end Go.Proofs.Ytcaibonnkfhkmaa
