/- The walks of SpellBack and SpellFair: they answer true, whatever they are handed. -/
import Derived.Test.YthfdaaccopgbeaaSBeg
namespace Go.Proofs.Ythfdaaccopgbeaa
open Go.RowKit

theorem ba_eq {a b : ByteArray} (h : a.data.toList = b.data.toList) : a = b := by
  rw [← bx_of a, ← bx_of b, h]
namespace Sp
theorem len_wr (s : ByteArray) (h : s.size ≤ 120) : 8 * s.size ≤ 5 * (wr s).size ∧ 5 * (wr s).size < 8 * s.size + 5 := by
  have e1 : (wr s).size = (wrl s.data.toList).length := by unfold wr; simp [ByteArray.size]
  have e2 := wrl_length s.data.toList (by rw [list_len]; exact h)
  rw [list_len] at e2
  have e3 : cnt s.size = (8 * s.size + 4) / 5 := rfl
  omega
theorem wc_ok (s : ByteArray) (h : s.size ≤ 120) : wc s = 0 ∧ rd (wr s) = s ∧ rc (wr s) = 0 := by
  have hl : s.data.toList.length ≤ 120 := by rw [list_len]; exact h
  obtain ⟨b1, b2⟩ := back s.data.toList hl
  refine ⟨wrc_zero.2 hl, ba_eq ?_, ?_⟩
  · rw [rd_list, wr_list, b2]
  · unfold rc; rw [wr_list, b1]
theorem wc_no (s : ByteArray) (h : ¬ s.size ≤ 120) : wc s = 2 ∧ wr s = ⟨#[]⟩ := by
  have hl : ¬ s.data.toList.length ≤ 120 := by rw [list_len]; exact h
  refine ⟨if_neg hl, ?_⟩
  unfold wr wrl
  rw [if_neg hl]
theorem rc_ok (t : ByteArray) (h : rc t = 0) : rd (frd t) = rd t ∧ rc (frd t) = 0 ∧ frd (frd t) = frd t ∧ (frd t).size ≤ t.size ∧ (frd t).size ≤ 200 := by
  have e : frd t = wr (rd t) := if_pos h
  obtain ⟨_, c2, c3⟩ := wc_ok (rd t) (rd_size t)
  have f1 : rd (frd t) = rd t := by rw [e]; exact c2
  have f2 : rc (frd t) = 0 := by rw [e]; exact c3
  have f3 : frd (frd t) = frd t := by
    have : frd (frd t) = wr (rd (frd t)) := if_pos f2
    rw [this, f1, e]
  refine ⟨f1, f2, f3, ?_, ?_⟩
  · have := (fairly (l := t.data.toList) h).2.2.2
    have e2 : (frd t).size = (wrl (rdl t.data.toList)).length := by rw [e, ← list_len, wr_list, rd_list]
    rw [e2, ← list_len t]
    exact this
  · have := (len_wr (rd t) (rd_size t)).2
    have := rd_size t
    rw [e]
    omega
theorem rc_no (t : ByteArray) (h : rc t ≠ 0) : rd t = ⟨#[]⟩ ∧ frd t = ⟨#[]⟩ := by
  refine ⟨?_, if_neg h⟩
  unfold rd
  rw [rdl_err h]
end Sp
set_option maxRecDepth 100000 in
set_option maxHeartbeats 4000000 in
theorem spellBack_any (s : ByteArray) (w : World) (hs : s.size ≤ 140737488351232) :
    Calls Try.prog 4 #[.string s] w fun e w' => e = .returned (.bool true) ∧ Below w.heap.size w w' := by
  have HW : Hid (∀ wx : World, Calls Try.prog 7 #[.string s] wx fun e w' => e = .returned (.tuple #[.string (Sp.wr s), .int .i64 (Sp.wc s)]) ∧ Below wx.heap.size wx w') := fun wx => pWrite s wx (by omega)
  by_cases h : s.size ≤ 120
  · obtain ⟨c1, c2, c3⟩ := Sp.wc_ok s h
    obtain ⟨c4, c5⟩ := Sp.len_wr s h
    have HR : Hid (∀ wx : World, Calls Try.prog 8 #[.string (Sp.wr s)] wx fun e w' => e = .returned (.tuple #[.string s, .int .i64 0]) ∧ Below wx.heap.size wx w') := fun wx => by
      have e := pRead (Sp.wr s) wx (by omega)
      rw [c2, c3] at e
      exact e
    rw [c1] at HW
    clear c1 c2 c3
    generalize Sp.wr s = T at *
    have d1 : (8 : Int) * (s.size : Int) ≤ 5 * (T.size : Int) := by omega
    have d2 : (5 : Int) * (T.size : Int) < 8 * (s.size : Int) + 5 := by omega
    have d3 : (s.size : Int) ≤ 120 := by omega
    have d4 : (T.size : Int) ≤ 200 := by omega
    clear c4 c5 h hs
    go_enter Try.func4, Try.ntmps4
    go_wp2_with (first
      | (go_at_call 7; refine (HW.out _).mono ?_; rintro e w1 ⟨rfl, h1⟩)
      | (go_at_call 12; refine (begun_any _).mono ?_; rintro e w2 ⟨rfl, h2⟩)
      | (go_at_call 8; refine (HR.out _).mono ?_; rintro e w3 ⟨rfl, h3⟩))
    go_ret
    exact ⟨rfl, below_on (below_on h1 (Nat.le_refl _) h2) (Nat.le_refl _) h3⟩
  · obtain ⟨c1, c2⟩ := Sp.wc_no s h
    rw [c1, c2] at HW
    clear c1 c2 hs h
    go_enter Try.func4, Try.ntmps4
    go_wp2_with (first
      | (go_at_call 7; refine (HW.out _).mono ?_; rintro e w1 ⟨rfl, h1⟩)
      | (go_at_call 12; refine (begun_any _).mono ?_; rintro e w2 ⟨rfl, h2⟩))
    go_ret
    exact ⟨rfl, below_on h1 (Nat.le_refl _) h2⟩
set_option maxRecDepth 100000 in
set_option maxHeartbeats 4000000 in
theorem spellFair_any (t : ByteArray) (w : World) (ht : t.size ≤ 140737488351232) :
    Calls Try.prog 5 #[.string t] w fun e w' => e = .returned (.bool true) ∧ Below w.heap.size w w' := by
  have HR : Hid (∀ wx : World, Calls Try.prog 8 #[.string t] wx fun e w' => e = .returned (.tuple #[.string (Sp.rd t), .int .i64 (Sp.rc t)]) ∧ Below wx.heap.size wx w') := fun wx => pRead t wx (by omega)
  have HF : Hid (∀ wx : World, Calls Try.prog 9 #[.string t] wx fun e w' => e = .returned (.tuple #[.string (Sp.frd t), .int .i64 (Sp.rc t)]) ∧ Below wx.heap.size wx w') := fun wx => pFair t wx (by omega)
  by_cases h : Sp.rc t = 0
  · obtain ⟨c1, c2, c3, c4, c5⟩ := Sp.rc_ok t h
    have HR2 : Hid (∀ wx : World, Calls Try.prog 8 #[.string (Sp.frd t)] wx fun e w' => e = .returned (.tuple #[.string (Sp.rd t), .int .i64 0]) ∧ Below wx.heap.size wx w') := fun wx => by
      have e := pRead (Sp.frd t) wx (by omega)
      rw [c1, c2] at e
      exact e
    have HF2 : Hid (∀ wx : World, Calls Try.prog 9 #[.string (Sp.frd t)] wx fun e w' => e = .returned (.tuple #[.string (Sp.frd t), .int .i64 0]) ∧ Below wx.heap.size wx w') := fun wx => by
      have e := pFair (Sp.frd t) wx (by omega)
      rw [c2, c3] at e
      exact e
    rw [h] at HR HF
    clear c1 c2 c3 h
    generalize Sp.frd t = U at *
    generalize Sp.rd t = V at *
    have d1 : (U.size : Int) ≤ (t.size : Int) := by omega
    clear c4 c5 ht
    go_enter Try.func5, Try.ntmps5
    go_upto_region 2 with (go_at_call 8; refine (HR.out _).mono ?_; rintro e w1 ⟨rfl, h1⟩)
    go_upto_region 3 with (go_at_call 9; refine (HF.out _).mono ?_; rintro e w2 ⟨rfl, h2⟩)
    go_upto_region 7 with (go_at_call 12; refine (begun_any _).mono ?_; rintro e w3 ⟨rfl, h3⟩)
    go_upto_region 8 with (go_at_call 8; refine (HR2.out _).mono ?_; rintro e w4 ⟨rfl, h4⟩)
    go_upto_region 9 with (go_at_call 9; refine (HF2.out _).mono ?_; rintro e w5 ⟨rfl, h5⟩)
    go_wp2
    go_ret
    exact ⟨rfl, below_on (below_on (below_on (below_on h1 (Nat.le_refl _) h2) (Nat.le_refl _) h3) (Nat.le_refl _) h4) (Nat.le_refl _) h5⟩
  · obtain ⟨c1, c2⟩ := Sp.rc_no t h
    rw [c1] at HR
    rw [c2] at HF
    clear c1 c2 ht
    generalize Sp.rc t = c at *
    go_enter Try.func5, Try.ntmps5
    go_wp2_with (first
      | (go_at_call 8; refine (HR.out _).mono ?_; rintro e w1 ⟨rfl, h1⟩)
      | (go_at_call 9; refine (HF.out _).mono ?_; rintro e w2 ⟨rfl, h2⟩)
      | (go_at_call 12; refine (begun_any _).mono ?_; rintro e w3 ⟨rfl, h3⟩))
    go_ret
    exact ⟨rfl, below_on (below_on h1 (Nat.le_refl _) h2) (Nat.le_refl _) h3⟩
end Go.Proofs.Ythfdaaccopgbeaa
