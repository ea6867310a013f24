/- The walks of rings of keys: a text sealed with the last key. -/
import Derived.Test.YtcjpbmfdgheolaaRLf
import Derived.Test.YtcjpbmfdgheolaaRAd
namespace Go.Proofs.Ytcjpbmfdgheolaa
open Go.RowKit

theorem Rg.last_ep {l : List Rg.Ep} (h : Rg.chk l = 0) {m : Nat} (hl : l.length = m + 1) : ∃ (no : Nat) (A B : Tg.W), l[m]? = some (((no : Nat) : Int), A, B) ∧ no < 256 ∧ l.getLast? = some (((no : Nat) : Int), A, B) := by
  obtain ⟨e, hx⟩ : ∃ e, l[m]? = some e := ⟨_, List.getElem?_eq_getElem (by omega)⟩
  have hu := Rg.up_mem l 0 ((Rg.chk_iff l).1 h).2 e (List.mem_of_getElem? hx)
  have he : e = (((e.1.toNat : Nat) : Int), e.2.1, e.2.2) := by rw [Int.toNat_of_nonneg (by omega)]
  refine ⟨e.1.toNat, e.2.1, e.2.2, by rw [← he, hx], by omega, ?_⟩
  rw [List.getLast?_eq_getElem?, hl, show m + 1 - 1 = m by omega, ← he, hx]
def Rg.seaV (l : List Rg.Ep) (s : List UInt8) : Value := .tuple #[.string (bx (Rg.sea l s).1), .int .i64 (Rg.sea l s).2]
theorem Rg.seaV_of {l : List Rg.Ep} {s x : List UInt8} {c : Int} (h : Rg.sea l s = (x, c)) : Ending.returned (.tuple #[.string (bx x), .int .i64 c]) = .returned (Rg.seaV l s) := by unfold Rg.seaV; rw [h]
theorem bx_nil : (⟨#[]⟩ : ByteArray) = bx [] := rfl
set_option maxRecDepth 100000 in
set_option maxHeartbeats 2000000 in
theorem seal_any (l : List Rg.Ep) (a : Option Addr) (cap : Nat) (s : List UInt8) (w : World) (hl : l.length ≤ maxLen) (hs : s.length ≤ 140737488351232) (hr : Row3 w a l) :
    Calls Try.prog 16 #[.slice a l.length cap, .string (bx s)] w fun e w' => e = .returned (Rg.seaV l s) ∧ Below w.heap.size w w' := by
  have HR : Hid (Row3 w a l) := hr
  have hck := check_any l a cap w hl hr
  have hsz := bx_size s
  clear hr
  by_cases hc : Rg.chk l = 0
  · have HCZ : Hid (Rg.chk l = 0) := hc
    have h8 : l.length ≤ 8 := ((Rg.chk_iff l).1 hc).1
    rw [hc] at hck
    clear hc hl
    obtain ⟨n, hLn⟩ : ∃ n, l.length = n := ⟨_, rfl⟩
    have HLn : Hid (l.length = n) := hLn
    rw [hLn] at hck h8 ⊢
    clear hLn
    cases n with
    | zero =>
      have HE : Hid (Rg.sea l s = ([], 5)) := by
        have : l = [] := List.eq_nil_of_length_eq_zero HLn.out
        subst this
        rfl
      go_enter Try.func16, Try.ntmps16
      go_wp2_with fail
      refine hck.mono ?_; rintro e w1 ⟨rfl, hb1⟩
      have HB1 : Hid (Below w.heap.size w w1) := hb1
      clear hb1 hck
      go_wp2
      go_ret2
      exact ⟨Rg.seaV_of HE.out, HB1.out⟩
    | succ m =>
      obtain ⟨no, A, B, hx, hno, hla⟩ := Rg.last_ep HCZ.out HLn.out
      by_cases hs2 : 111 < s.length
      · have HE : Hid (Rg.sea l s = ([], 2)) := by
          show _ = _
          unfold Rg.sea
          rw [if_neg (by rw [HCZ.out]; omega), hla]
          simp only
          rw [if_pos hs2]
        clear hla hx
        go_enter Try.func16, Try.ntmps16
        go_wp2_with fail
        refine hck.mono ?_; rintro e w1 ⟨rfl, hb1⟩
        have HB1 : Hid (Below w.heap.size w w1) := hb1
        clear hb1 hck
        go_wp2
        go_ret2
        exact ⟨Rg.seaV_of HE.out, HB1.out⟩
      · have HE : Hid (Rg.sea l s = (Rg.sl no A B s, 0)) := by
          show _ = _
          unfold Rg.sea
          rw [if_neg (by rw [HCZ.out]; omega), hla]
          simp only
          rw [if_neg hs2]
          rfl
        have hs3 : s.length ≤ 111 := by omega
        have hse := fun W => sealed_any no A B s W hno hs3
        have HSE : Hid (_) := hse
        clear hla hse
        go_enter Try.func16, Try.ntmps16
        go_wp2_with fail
        refine hck.mono ?_; rintro e w1 ⟨rfl, hb1⟩
        obtain ⟨b, off, n', A', B', rfl, hbs, hx', c1, c2, c3⟩ := (HR.out.below hb1).at (k := m) (by rw [HLn.out]; omega)
        rw [hx] at hx'
        injection hx' with hx'
        injection hx' with e1 e2
        injection e2 with e2 e3
        subst e1 e2 e3
        have HB1 : Hid (Below w.heap.size w w1) := hb1
        clear hb1 hck hx
        go_wp2_with fail
        refine (HSE.out _).mono ?_; rintro e w2 ⟨rfl, hb2⟩
        have HB2 : Hid (Below w.heap.size w w2) := below_on HB1.out (Nat.le_refl _) hb2
        clear hb2 HSE
        go_wp2
        go_ret2
        exact ⟨Rg.seaV_of HE.out, HB2.out⟩
  · have HE : Hid (Rg.sea l s = ([], Rg.chk l)) := by show _ = _; unfold Rg.sea; rw [if_pos hc]
    generalize Rg.chk l = C at *
    have hc' : (C != 0) = true := by simpa using hc
    go_enter Try.func16, Try.ntmps16
    go_wp2_with fail
    refine hck.mono ?_; rintro e w1 ⟨rfl, hb1⟩
    have HB1 : Hid (Below w.heap.size w w1) := hb1
    clear hb1 hck
    go_wp2
    go_ret2
    exact ⟨Rg.seaV_of HE.out, HB1.out⟩
set_option maxRecDepth 100000 in
set_option maxHeartbeats 2000000 in
theorem sealOf_any (l : List Rg.Ep) (a : Option Addr) (cap : Nat) (s : List UInt8) (w : World) (hl : l.length ≤ maxLen) (hs : s.length ≤ 140737488351232) (hr : Row3 w a l) :
    Calls Try.prog 18 #[.slice a l.length cap, .string (bx s)] w fun e w' => e = .returned (Rg.seaV l s) ∧ Below w.heap.size w w' := by
  have HR : Hid (Row3 w a l) := hr
  have hck := ringCheck_any l a cap w hl hr
  have hsz := bx_size s
  clear hr
  by_cases hc : Rg.chk l = 0
  · have HCZ : Hid (Rg.chk l = 0) := hc
    have h8 : l.length ≤ 8 := ((Rg.chk_iff l).1 hc).1
    rw [hc] at hck
    clear hc hl
    obtain ⟨n, hLn⟩ : ∃ n, l.length = n := ⟨_, rfl⟩
    have HLn : Hid (l.length = n) := hLn
    rw [hLn] at hck h8 ⊢
    clear hLn
    cases n with
    | zero =>
      have HE : Hid (Rg.sea l s = ([], 5)) := by
        have : l = [] := List.eq_nil_of_length_eq_zero HLn.out
        subst this
        rfl
      go_enter Try.func18, Try.ntmps18
      go_wp2_with fail
      refine hck.mono ?_; rintro e w1 ⟨rfl, rfl⟩; have hb1 := Below.refl w1.heap.size w1
      have HB1 : Hid (Below w1.heap.size w1 w1) := hb1
      clear hb1 hck
      go_wp2
      go_ret2
      exact ⟨Rg.seaV_of HE.out, HB1.out⟩
    | succ m =>
      obtain ⟨no, A, B, hx, hno, hla⟩ := Rg.last_ep HCZ.out HLn.out
      by_cases hs2 : 111 < s.length
      · have HE : Hid (Rg.sea l s = ([], 2)) := by
          show _ = _
          unfold Rg.sea
          rw [if_neg (by rw [HCZ.out]; omega), hla]
          simp only
          rw [if_pos hs2]
        clear hla hx
        go_enter Try.func18, Try.ntmps18
        go_wp2_with fail
        refine hck.mono ?_; rintro e w1 ⟨rfl, rfl⟩; have hb1 := Below.refl w1.heap.size w1
        have HB1 : Hid (Below w1.heap.size w1 w1) := hb1
        clear hb1 hck
        go_wp2
        go_ret2
        exact ⟨Rg.seaV_of HE.out, HB1.out⟩
      · have HE : Hid (Rg.sea l s = (Rg.sl no A B s, 0)) := by
          show _ = _
          unfold Rg.sea
          rw [if_neg (by rw [HCZ.out]; omega), hla]
          simp only
          rw [if_neg hs2]
          rfl
        have hs3 : s.length ≤ 111 := by omega
        have hse := fun W => sealedBy_any no A B s W hno hs3
        have HSE : Hid (_) := hse
        clear hla hse
        go_enter Try.func18, Try.ntmps18
        go_wp2_with fail
        refine hck.mono ?_; rintro e w1 ⟨rfl, rfl⟩; have hb1 := Below.refl w1.heap.size w1
        obtain ⟨b, off, n', A', B', rfl, hbs, hx', c1, c2, c3⟩ := (HR.out.below hb1).at (k := m) (by rw [HLn.out]; omega)
        rw [hx] at hx'
        injection hx' with hx'
        injection hx' with e1 e2
        injection e2 with e2 e3
        subst e1 e2 e3
        have HB1 : Hid (Below w1.heap.size w1 w1) := hb1
        clear hb1 hck hx
        go_wp2_with fail
        refine (HSE.out _).mono ?_; rintro e w2 ⟨rfl, hb2⟩
        have HB2 : Hid (Below w1.heap.size w1 w2) := below_on HB1.out (Nat.le_refl _) hb2
        clear hb2 HSE
        go_wp2
        go_ret2
        exact ⟨Rg.seaV_of HE.out, HB2.out⟩
  · have HE : Hid (Rg.sea l s = ([], Rg.chk l)) := by show _ = _; unfold Rg.sea; rw [if_pos hc]
    generalize Rg.chk l = C at *
    have hc' : (C != 0) = true := by simpa using hc
    go_enter Try.func18, Try.ntmps18
    go_wp2_with fail
    refine hck.mono ?_; rintro e w1 ⟨rfl, rfl⟩; have hb1 := Below.refl w1.heap.size w1
    have HB1 : Hid (Below w1.heap.size w1 w1) := hb1
    clear hb1 hck
    go_wp2
    go_ret2
    exact ⟨Rg.seaV_of HE.out, HB1.out⟩
end Go.Proofs.Ytcjpbmfdgheolaa
