/- The walk of SpellLoose: it answers true, whatever it is handed. -/
import Derived.Test.YthfdaaccopgbeaaLawSpell1
import Derived.Lib.QuietBelow
namespace Go.Proofs.Ythfdaaccopgbeaa
open Go.RowKit Go.BigFrame Go.Sort

theorem upto_ex (s : ByteArray) (k : Nat) (h : k ≤ s.size) : ∃ c : ByteArray, c.data.toList = s.data.toList.take k ∧ c.size = k ∧ ∀ wx, (Instr.slice 9 (.string s) none (some (.int .i64 k)) none).run Try.prog wx = .ok (.string c) wx := by
  refine ⟨s.extract 0 k, by simp, by simp; omega, fun wx => ?_⟩
  rw [run_slice_string_to_if wx _ s _ _ Try.underlying9, if_pos (by omega)]
  rfl
theorem sum_ex (a b : ByteArray) (h : a.size + b.size ≤ 9223372036854775807) : ∃ c : ByteArray, c.data.toList = a.data.toList ++ b.data.toList ∧ c.size = a.size + b.size ∧ ∀ wx, (Op.stringOp .add a b).run Try.prog wx = .ok (.string c) wx :=
  ⟨a ++ b, by simp, by simp, fun wx => run_string_add_sum wx a b h⟩
set_option maxRecDepth 100000 in
set_option maxHeartbeats 4000000 in
theorem spellLoose_any (t : ByteArray) (at' : Int) (w : World) (ht : t.size ≤ 140737488351232) :
    Calls Try.prog 6 #[.string t, .int .i64 at'] w fun e w' => e = .returned (.bool true) ∧ Below w.heap.size w w' := by
  have HR : Hid (∀ wx : World, Calls Try.prog 8 #[.string t] wx fun e w' => e = .returned (.tuple #[.string (Sp.rd t), .int .i64 (Sp.rc t)]) ∧ Below wx.heap.size wx w') := fun wx => pRead t wx (by omega)
  by_cases hneg : at' < 0
  · clear ht
    generalize Sp.rd t = V at *
    generalize Sp.rc t = c at *
    go_enter Try.func6, Try.ntmps6
    go_wp2_with (first
      | (go_at_call 8; refine (HR.out _).mono ?_; rintro e w1 ⟨rfl, h1⟩)
      | (go_at_call 12; refine (begun_any _).mono ?_; rintro e w2 ⟨rfl, h2⟩))
    go_ret
    exact ⟨rfl, below_on h1 (Nat.le_refl _) h2⟩
  · by_cases hbig : (t.size : Int) < at'
    · clear ht
      generalize Sp.rd t = V at *
      generalize Sp.rc t = c at *
      go_enter Try.func6, Try.ntmps6
      go_wp2_with (first
        | (go_at_call 8; refine (HR.out _).mono ?_; rintro e w1 ⟨rfl, h1⟩)
        | (go_at_call 12; refine (begun_any _).mono ?_; rintro e w2 ⟨rfl, h2⟩))
      go_ret
      exact ⟨rfl, below_on h1 (Nat.le_refl _) h2⟩
    · obtain ⟨k, rfl⟩ : ∃ k : Nat, at' = (k : Int) := ⟨at'.toNat, by omega⟩
      have hk : k ≤ t.size := by omega
      obtain ⟨A1, ea, za, ra⟩ := upto_ex t k hk
      obtain ⟨A2, eb, zb, rb⟩ := from_ex t k (k : Int) rfl hk
      obtain ⟨A3, ec, zc, rc⟩ := sum_ex A1 ⟨#[45]⟩ (by rw [za]; show k + 1 ≤ _; omega)
      obtain ⟨A4, ed, zd, rd⟩ := sum_ex A3 A2 (by rw [zc, za, zb]; show k + 1 + _ ≤ _; omega)
      have z4 : A4.size ≤ 140737488351240 := by rw [zd, zc, za, zb]; show k + 1 + _ ≤ _; omega
      have hl4 : A4.data.toList = t.data.toList.take k ++ [45] ++ t.data.toList.drop k := by rw [ed, ec, ea, eb]
      obtain ⟨d1, d2⟩ := Sp.dash (t.data.toList.take k) (t.data.toList.drop k)
      rw [List.take_append_drop, ← hl4] at d1 d2
      have f1 : Sp.rc A4 = Sp.rc t := d1
      have f2 : Sp.rd A4 = Sp.rd t := by unfold Sp.rd; rw [d2]
      have HR4 : Hid (∀ wx : World, Calls Try.prog 8 #[.string A4] wx fun e w' => e = .returned (.tuple #[.string (Sp.rd t), .int .i64 (Sp.rc t)]) ∧ Below wx.heap.size wx w') := fun wx => by
        have e := pRead A4 wx z4
        rw [f1, f2] at e
        exact e
      have HS : Hid (∀ wx : World, Calls Try.prog 13 #[.string t] wx fun e w' => e = .returned (.string (bx (t.data.toList.map Sp.small))) ∧ Below wx.heap.size wx w') := fun wx => smaller_any t wx (by omega)
      obtain ⟨s1, s2⟩ := Sp.smaller t.data.toList
      have HR5 : Hid (∀ wx : World, Calls Try.prog 8 #[.string (bx (t.data.toList.map Sp.small))] wx fun e w' => e = .returned (.tuple #[.string (Sp.rd t), .int .i64 (Sp.rc t)]) ∧ Below wx.heap.size wx w') := fun wx => by
        have e := pRead (bx (t.data.toList.map Sp.small)) wx (by rw [bx_size, List.length_map, list_len]; omega)
        have g1 : Sp.rc (bx (t.data.toList.map Sp.small)) = Sp.rc t := by unfold Sp.rc; rw [bx_list, s1]
        have g2 : Sp.rd (bx (t.data.toList.map Sp.small)) = Sp.rd t := by unfold Sp.rd; rw [bx_list, s2]
        rw [g1, g2] at e
        exact e
      have k1 : (0 : Int) ≤ (k : Int) := by omega
      have k2 : (k : Int) ≤ (t.size : Int) := by omega
      clear ea eb ec ed za zb zc zd z4 hl4 d1 d2 f1 f2 s1 s2 ht hneg hbig hk
      generalize bx (t.data.toList.map Sp.small) = X at *
      generalize Sp.rd t = V at *
      generalize Sp.rc t = c at *
      go_enter Try.func6, Try.ntmps6
      go_wp2_with (first
        | (go_at_call 8; refine (HR.out _).mono ?_; rintro e w1 ⟨rfl, h1⟩)
        | (go_at_call 12; refine (begun_any _).mono ?_; rintro e w2 ⟨rfl, h2⟩))
      have B2 : Hid (Below w.heap.size w w2) := below_on h1 (Nat.le_refl _) h2
      clear h1 h2
      refine wp_region_quiet_below (by kernel_rfl) (by kernel_rfl) ?_
      repeat go_big_quiet_step (first
        | (go_at_call 8; exact Calls.regrown_of (HR4.out _)))
      refine wpQuiet_nil ?_
      intro _ hw'
      obtain ⟨⟨dq, osq⟩, hw''⟩ := hw'
      subst hw''
      have B3 : Hid (Below w.heap.size w (grow (redrawn w2 dq) osq)) := below_on B2.out (Nat.le_refl _) (below_regrown w2 dq osq)
      generalize grow (redrawn w2 dq) osq = w3 at *
      go_wp2_with (first
        | (go_at_call 13; refine (HS.out _).mono ?_; rintro e w4 ⟨rfl, h4⟩)
        | (go_at_call 8; refine (HR5.out _).mono ?_; rintro e w5 ⟨rfl, h5⟩))
      go_ret
      exact ⟨rfl, below_on (below_on B3.out (Nat.le_refl _) h4) (Nat.le_refl _) h5⟩
end Go.Proofs.Ythfdaaccopgbeaa
