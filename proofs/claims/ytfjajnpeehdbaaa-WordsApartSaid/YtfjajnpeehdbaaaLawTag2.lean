/- The walk of WordsApart: it answers true, whatever it is handed. -/
import Derived.Test.YtfjajnpeehdbaaaGOf
namespace Go.Proofs.Ytfjajnpeehdbaaa
open Go.RowKit

theorem words_eq (s t : ByteArray) : decide (Tg.words s.data.toList = Tg.words t.data.toList) = (s.toList == t.toList) := by
  rw [ByteArray.toList_eq, ByteArray.toList_eq, Bool.eq_iff_iff, decide_eq_true_eq, beq_iff_eq]
  exact ⟨Tg.words_inj _ _, fun h => by rw [h]⟩
set_option maxRecDepth 100000 in
set_option maxHeartbeats 2000000 in
theorem wordsApart_any (s t : ByteArray) (w : World) (hs : s.size ≤ 140737488351232) (ht : t.size ≤ 140737488351232) :
    Calls Try.prog 7 #[.string s, .string t] w fun e w' => e = .returned (.bool true) ∧ Below w.heap.size w w' := by
  have HL : Hid ((Tg.words s.data.toList).length = s.size / 8 + 1) := by show _ = _; rw [Tg.words_length, len_list]
  have HE : Hid (decide (Tg.words s.data.toList = Tg.words t.data.toList) = (s.toList == t.toList)) := words_eq s t
  have HM : Hid ((Tg.words s.data.toList).length ≤ maxLen) := by show _ ≤ _; rw [HL.out]; unfold maxLen; omega
  go_enter Try.func7, Try.ntmps7
  go_wp2_with fail
  refine (gbegun_any _).mono ?_; rintro e w1 ⟨rfl, hb⟩
  have B1 : Hid (Below w.heap.size w w1) := hb
  clear hb
  go_wp2_with fail
  refine (words_any s _ hs).mono ?_; rintro e w2 ⟨a, ca, rfl, hr, hb⟩
  have B2 : Hid (Below w.heap.size w w2) := below_on B1.out (Nat.le_refl _) hb
  have R2 : Hid (RowU w2 a (Tg.words s.data.toList)) := hr.1
  clear hb hr B1
  go_wp2_with fail
  refine (words_any t _ ht).mono ?_; rintro e w3 ⟨c, cc, rfl, hr, hb⟩
  have B3 : Hid (Below w.heap.size w w3) := below_on B2.out (Nat.le_refl _) hb
  have R3 : Hid (RowU w3 a (Tg.words s.data.toList)) := R2.out.below hb
  have Q3 : Hid (RowU w3 c (Tg.words t.data.toList)) := hr.1
  clear hb hr B2 R2
  go_wp2_with fail
  refine (sameWords_any _ _ _ _ _ _ _ HM.out R3.out Q3.out).mono ?_; rintro e w4 ⟨rfl, hb⟩
  have B4 : Hid (Below w.heap.size w w4) := below_on B3.out (Nat.le_refl _) hb
  clear hb B3 R3 Q3
  rw [HE.out]
  have hz : ((s.toList == t.toList) == (s.toList == t.toList)) = true := beq_self_eq_true _
  generalize hE : (s.toList == t.toList) = E at *
  go_wp2_with fail
  refine (words_any s _ hs).mono ?_; rintro e w5 ⟨a5, c5, rfl, hr, hb⟩
  have B5 : Hid (Below w.heap.size w w5) := below_on B4.out (Nat.le_refl _) hb
  clear hb hr B4
  rw [HL.out]
  have hq : ((s.size / 8 + 1 : Nat) : Int) = (s.size : Int) / 8 + 1 := by omega
  have hq2 : (((s.size / 8 + 1 : Nat) : Int) == (s.size : Int) / 8 + 1) = true := by rw [hq]; exact beq_self_eq_true _
  go_wp2
  go_ret
  exact ⟨rfl, B5.out⟩
end Go.Proofs.Ytfjajnpeehdbaaa
