/- The walk of SpellTells: it answers true, whatever it is handed, if that is not too long. -/
import Derived.Test.YthfdaaccopgbeaaLawSpell1
import Derived.Test.YthfdaaccopgbeaaVSp3
namespace Go.Proofs.Ythfdaaccopgbeaa
open Go.RowKit

set_option maxRecDepth 100000 in
set_option maxHeartbeats 8000000 in
theorem spellTells_any (s t : ByteArray) (w : World) (hs : s.size ≤ 1048576) (ht : t.size ≤ 1048576) :
    Calls Try.prog 3 #[.string s, .string t] w fun e w' => e = .returned (.bool true) ∧ Below w.heap.size w w' := by
  have HW : Hid (∀ wx : World, Calls Try.prog 7 #[.string s] wx fun e w' => e = .returned (.tuple #[.string (Sp.wr s), .int .i64 (Sp.wc s)]) ∧ Below wx.heap.size wx w') := fun wx => pWrite s wx (by omega)
  have HR : Hid (∀ wx : World, Calls Try.prog 8 #[.string t] wx fun e w' => e = .returned (.tuple #[.string (Sp.rd t), .int .i64 (Sp.rc t)]) ∧ Below wx.heap.size wx w') := fun wx => pRead t wx (by omega)
  have HF : Hid (∀ wx : World, Calls Try.prog 9 #[.string t] wx fun e w' => e = .returned (.tuple #[.string (Sp.frd t), .int .i64 (Sp.rc t)]) ∧ Below wx.heap.size wx w') := fun wx => pFair t wx (by omega)
  have HU : Hid (∀ wx : World, Calls Try.prog 11 #[.string t] wx fun e w' => e = .returned (.tuple #[.string (Sp.rd t), .int .i64 (Sp.rc t)]) ∧ Below wx.heap.size wx w') := fun wx => unspelled_any t wx ht
  have HS1 : Hid (s.size ≤ 120 → ∀ wx : World, Calls Try.prog 10 #[.string s] wx fun e w' => e = .returned (.string (Sp.wr s)) ∧ w' = wx) := fun h wx => spelled_any s wx h
  have HS2 : Hid (Sp.rc t = 0 → ∀ wx : World, Calls Try.prog 10 #[.string (Sp.rd t)] wx fun e w' => e = .returned (.string (Sp.frd t)) ∧ w' = wx) := fun h wx => by
    have e := spelled_any (Sp.rd t) wx (Sp.rd_size t)
    rw [← show Sp.frd t = Sp.wr (Sp.rd t) from if_pos h] at e
    exact e
  have HN : Hid (Sp.rc t ≠ 0 → Sp.frd t = ⟨#[]⟩) := fun h => (Sp.rc_no t h).2
  have HC1 : Hid (s.size ≤ 120 → Sp.wc s = 0) := fun h => (Sp.wc_ok s h).1
  have HC2 : Hid (¬ s.size ≤ 120 → Sp.wc s = 2 ∧ Sp.wr s = ⟨#[]⟩) := fun h => Sp.wc_no s h
  clear hs ht
  generalize Sp.frd t = U at *
  generalize Sp.rd t = V at *
  generalize Sp.rc t = c at *
  generalize Sp.wr s = T at *
  generalize Sp.wc s = d at *
  by_cases h1 : s.size ≤ 120
  · have hd := HC1.out h1
    subst hd
    have HS1a := HS1.out h1
    have HSa : Hid (∀ wx : World, Calls Try.prog 10 #[.string s] wx fun e w' => e = .returned (.string T) ∧ w' = wx) := HS1a
    have h1z : (s.size : Int) ≤ 120 := by omega
    clear HS1 HS1a HC1 HC2 h1
    by_cases h2 : c = 0
    · have HS2a := HS2.out h2
      have HSb : Hid (∀ wx : World, Calls Try.prog 10 #[.string V] wx fun e w' => e = .returned (.string U) ∧ w' = wx) := HS2a
      clear HS2 HS2a HN
      subst h2
      go_enter Try.func3, Try.ntmps3
      go_upto_region 7 with (first
        | (go_at_call 7; refine (HW.out _).mono ?_; rintro e w1 ⟨rfl, b1⟩)
        | (go_at_call 8; refine (HR.out _).mono ?_; rintro e w2 ⟨rfl, b2⟩)
        | (go_at_call 9; refine (HF.out _).mono ?_; rintro e w3 ⟨rfl, b3⟩)
        | (go_at_call 10; refine (HSa.out _).mono ?_; rintro e w4 ⟨rfl, rfl⟩))
      go_wp2_with (first
        | (go_at_call 11; refine (HU.out _).mono ?_; rintro e w5 ⟨rfl, b5⟩)
        | (go_at_call 10; refine (HSb.out _).mono ?_; rintro e w6 ⟨rfl, rfl⟩)
        | (go_at_call 12; refine (begun_any _).mono ?_; rintro e w7 ⟨rfl, b7⟩))
      go_ret
      exact ⟨rfl, below_on (below_on (below_on (below_on b1 (Nat.le_refl _) b2) (Nat.le_refl _) b3) (Nat.le_refl _) b5) (Nat.le_refl _) b7⟩
    · have hn := HN.out h2
      subst hn
      clear HN HS2
      go_enter Try.func3, Try.ntmps3
      go_wp2_with (first
        | (go_at_call 7; refine (HW.out _).mono ?_; rintro e w1 ⟨rfl, b1⟩)
        | (go_at_call 8; refine (HR.out _).mono ?_; rintro e w2 ⟨rfl, b2⟩)
        | (go_at_call 9; refine (HF.out _).mono ?_; rintro e w3 ⟨rfl, b3⟩)
        | (go_at_call 10; refine (HSa.out _).mono ?_; rintro e w4 ⟨rfl, rfl⟩)
        | (go_at_call 11; refine (HU.out _).mono ?_; rintro e w5 ⟨rfl, b5⟩)
        | (go_at_call 12; refine (begun_any _).mono ?_; rintro e w7 ⟨rfl, b7⟩))
      go_ret
      exact ⟨rfl, below_on (below_on (below_on (below_on b1 (Nat.le_refl _) b2) (Nat.le_refl _) b3) (Nat.le_refl _) b5) (Nat.le_refl _) b7⟩
  · obtain ⟨hd, hT⟩ := HC2.out h1
    subst hd hT
    have h1z : ¬ (s.size : Int) ≤ 120 := by omega
    clear HS1 HC1 HC2 h1
    by_cases h2 : c = 0
    · have HS2a := HS2.out h2
      have HSb : Hid (∀ wx : World, Calls Try.prog 10 #[.string V] wx fun e w' => e = .returned (.string U) ∧ w' = wx) := HS2a
      clear HS2 HS2a HN
      subst h2
      go_enter Try.func3, Try.ntmps3
      go_wp2_with (first
        | (go_at_call 7; refine (HW.out _).mono ?_; rintro e w1 ⟨rfl, b1⟩)
        | (go_at_call 8; refine (HR.out _).mono ?_; rintro e w2 ⟨rfl, b2⟩)
        | (go_at_call 9; refine (HF.out _).mono ?_; rintro e w3 ⟨rfl, b3⟩)
        | (go_at_call 11; refine (HU.out _).mono ?_; rintro e w5 ⟨rfl, b5⟩)
        | (go_at_call 10; refine (HSb.out _).mono ?_; rintro e w6 ⟨rfl, rfl⟩)
        | (go_at_call 12; refine (begun_any _).mono ?_; rintro e w7 ⟨rfl, b7⟩))
      go_ret
      exact ⟨rfl, below_on (below_on (below_on (below_on b1 (Nat.le_refl _) b2) (Nat.le_refl _) b3) (Nat.le_refl _) b5) (Nat.le_refl _) b7⟩
    · have hn := HN.out h2
      subst hn
      clear HN HS2
      go_enter Try.func3, Try.ntmps3
      go_wp2_with (first
        | (go_at_call 7; refine (HW.out _).mono ?_; rintro e w1 ⟨rfl, b1⟩)
        | (go_at_call 8; refine (HR.out _).mono ?_; rintro e w2 ⟨rfl, b2⟩)
        | (go_at_call 9; refine (HF.out _).mono ?_; rintro e w3 ⟨rfl, b3⟩)
        | (go_at_call 11; refine (HU.out _).mono ?_; rintro e w5 ⟨rfl, b5⟩)
        | (go_at_call 12; refine (begun_any _).mono ?_; rintro e w7 ⟨rfl, b7⟩))
      go_ret
      exact ⟨rfl, below_on (below_on (below_on (below_on b1 (Nat.le_refl _) b2) (Nat.le_refl _) b3) (Nat.le_refl _) b5) (Nat.le_refl _) b7⟩
end Go.Proofs.Ythfdaaccopgbeaa
