/- Has a pass a day. -/
import Derived.Test.YtandlmnbnjkklaaDoorPzW3
namespace Go.Proofs.YtandlmnbnjkklaaDoor
open Go.RowKit Go.BigFrame

theorem zqHas (l : List Spn.Sp) (x : Bool) (d : Int) (a : Option Addr) (N cap : Nat) (n : Int) (w : World) (hn : l.length = N) (hl : N ≤ maxLen) (hx : (decide (Spn.chk l = 0) && Spn.memB l n) = x) (hd : Spn.chk l = d) (hr : Row2 w a l) :
    Calls Tryd.prog 30 #[.slice a N cap, .int .i64 n] w fun e w' => e = .returned (.tuple #[.bool x, .int .i64 d]) ∧ Below w.heap.size w w' := by
  subst hn hx hd
  exact pHas l a cap n w hl hr
set_option maxRecDepth 100000 in
set_option maxHeartbeats 4000000 in
theorem pZHas_any (p : Pz.Pq) (a : Option Addr) (N c : Nat) (n z : Int) (w : World) (hN : p.days.length = N) (hl : N ≤ maxLen) (hc : N ≤ c) (hn : a = none → c = 0 ∧ p.days = []) (hr : Row2 w a p.days) :
    Calls Tryd.prog 11 #[pv p a N c, .int .i64 n, .int .i64 z] w fun e w' => e = .returned (.tuple #[.bool (Pz.hasB p n z), .int .i64 (Pz.chk p)]) ∧ Below w.heap.size w w' := by
  obtain ⟨d, hd⟩ : ∃ d, Pz.chk p = d := ⟨_, rfl⟩
  have HD : Hid (Pz.chk p = d) := hd
  have HB : Hid (Below w.heap.size w (w.alloc (.cells #[.int .i64 p.id, .int .i64 p.born, .int .i64 p.a, .int .i64 p.b, .int .i64 p.ser, .slice a N c] 24))) := below_box w _
  have H0 : Hid (Has6 (w.alloc (.cells #[.int .i64 p.id, .int .i64 p.born, .int .i64 p.a, .int .i64 p.b, .int .i64 p.ser, .slice a N c] 24)) w.heap.size p a N c) := Has6.new w p a N c _
  have R : Hid (Row2 (w.alloc (.cells #[.int .i64 p.id, .int .i64 p.born, .int .i64 p.a, .int .i64 p.b, .int .i64 p.ser, .slice a N c] 24)) a p.days) := hr.below HB.out
  have HN : Hid (p.days.length = N ∧ N ≤ maxLen) := ⟨hN, hl⟩
  have hck := pZCheck_any p a N c _ hN hl hc hn R.out
  rw [hd] at hck
  have HCK : Hid (Calls _ _ _ _ _) := hck
  clear hck hr hN hc hn hl
  obtain ⟨id, born, pa, pb, ser, l⟩ := p
  simp only at R HN HB HCK H0
  by_cases h0 : d = 0
  · subst h0
    have ok := (Pz.chk_ok _).1 hd
    have HSP : Hid (Spn.chk l = 0) := ok.sp
    obtain ⟨m, hm⟩ : ∃ m, Spn.memB l n = m := ⟨_, rfl⟩
    have HM : Hid (Spn.memB l n = m) := hm
    have HE : Hid (Pz.hasB ⟨id, born, pa, pb, ser, l⟩ n z = (decide (pa ≤ z ∧ z ≤ pb) && m)) := by
      show _ = _
      unfold Pz.hasB
      rw [hd, hm]; rfl
    rw [HE.out, HD.out]
    clear ok hd hm
    cases m with
    | true =>
      go_enter Tryd.func11, Tryd.ntmps11
      go_wp2_with fail
      refine HCK.out.mono ?_
      rintro e w1 ⟨rfl, hb⟩
      have B1 : Hid (Below w.heap.size w w1) := below_on HB.out (Nat.le_refl _) hb
      have H1 : Hid (Has6 w1 w.heap.size ⟨id, born, pa, pb, ser, l⟩ a N c) := H0.out.below hb
      have R1 : Hid (Row2 w1 a l) := R.out.below hb
      have e5 := H1.out.c5
      clear hb
      go_wp2_with fail
      refine (zqHas l true 0 a N c n _ HN.out.1 HN.out.2 (by rw [HSP.out, HM.out]; rfl) HSP.out R1.out).mono ?_
      rintro e w2 ⟨rfl, hb⟩
      have B2 : Hid (Below w.heap.size w w2) := below_on B1.out (Nat.le_refl _) hb
      have H2 : Hid (Has6 w2 w.heap.size ⟨id, born, pa, pb, ser, l⟩ a N c) := H1.out.below hb
      have k2 := H2.out.c2
      have k3 := H2.out.c3
      simp only at k2 k3
      clear hb e5
      go_wp2_with (go_at_call 31; refine (zqWithin _ _ _ _).mono ?_; rintro e w3 ⟨rfl, rfl⟩)
      go_ret2
      refine ⟨?_, B2.out⟩
      show Ending.returned (.tuple #[.bool (decide (pa ≤ z) && decide (z ≤ pb)), .int .i64 0]) = _
      rw [Bool.and_true, Bool.decide_and]
    | false =>
      go_enter Tryd.func11, Tryd.ntmps11
      go_wp2_with fail
      refine HCK.out.mono ?_
      rintro e w1 ⟨rfl, hb⟩
      have B1 : Hid (Below w.heap.size w w1) := below_on HB.out (Nat.le_refl _) hb
      have H1 : Hid (Has6 w1 w.heap.size ⟨id, born, pa, pb, ser, l⟩ a N c) := H0.out.below hb
      have R1 : Hid (Row2 w1 a l) := R.out.below hb
      have e5 := H1.out.c5
      clear hb
      go_wp2_with fail
      refine (zqHas l false 0 a N c n _ HN.out.1 HN.out.2 (by rw [HSP.out, HM.out]; rfl) HSP.out R1.out).mono ?_
      rintro e w2 ⟨rfl, hb⟩
      have B2 : Hid (Below w.heap.size w w2) := below_on B1.out (Nat.le_refl _) hb
      clear hb e5
      go_wp2
      go_ret2
      exact ⟨by rw [Bool.and_false]; rfl, B2.out⟩
  · have HE : Hid (Pz.hasB ⟨id, born, pa, pb, ser, l⟩ n z = false) := by
      show _ = _
      unfold Pz.hasB
      rw [hd, decide_eq_false h0]; rfl
    rw [HE.out, HD.out]
    have d2 : (d != 0) = true := by simpa using h0
    clear hd h0
    go_enter Tryd.func11, Tryd.ntmps11
    go_wp2_with fail
    refine HCK.out.mono ?_
    rintro e w1 ⟨rfl, hb⟩
    have B1 : Hid (Below w.heap.size w w1) := below_on HB.out (Nat.le_refl _) hb
    clear hb
    go_wp2
    go_ret2
    exact ⟨rfl, B1.out⟩
end Go.Proofs.YtandlmnbnjkklaaDoor
