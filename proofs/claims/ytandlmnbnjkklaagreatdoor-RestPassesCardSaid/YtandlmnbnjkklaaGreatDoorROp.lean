/- The walks of rings of keys: a text opened. -/
import Derived.Test.YtandlmnbnjkklaaGreatDoorTxtToShR
import Derived.Test.YtandlmnbnjkklaaGreatDoorTxtToShR
import Derived.Deep.RegionHeld3
import Derived.OwnWalk
namespace Go.Proofs.YtandlmnbnjkklaaGreatDoor
open Go.RowKit

theorem strClone_any (s : ByteArray) (w : World) (hs : s.size ≤ 281474976710656) : Calls Tryz.prog 64 #[.string s] w fun e w' => e = .returned (.string s) ∧ Below w.heap.size w w' := by
  have h : Calls Tryz.prog 80 #[.string s] w fun e w' => e = .returned (.string s) ∧ Below w.heap.size w w' := Any.stringslite_Clone Tryz.lscl s w hs
  go_enter Tryz.func64, Tryz.ntmps64
  go_wp2_with fail
  refine h.mono ?_; rintro e w1 ⟨rfl, hb1⟩
  have HB1 : Hid (Below w.heap.size w w1) := hb1
  clear hb1 h
  go_wp2
  go_ret
  exact ⟨rfl, HB1.out⟩
theorem first_ex (t : List UInt8) (h : 0 < t.length) (wx : World) : (Instr.index 9 (.string (bx t)) (.int .i64 0)).run Tryz.prog wx = .ok (.int .u8 (((t.headD 0).toNat : Nat) : Int)) wx := by
  obtain ⟨x, r, rfl⟩ : ∃ x r, t = x :: r := by cases t with
    | nil => simp at h
    | cons x r => exact ⟨x, r, rfl⟩
  have hs : 0 < (bx (x :: r)).size := by rw [bx_size]; exact h
  rw [run_index_string wx _ (bx (x :: r)) _ _ Tryz.underlying9, dif_pos ⟨by omega, by omega⟩]
  rfl
theorem mid_cut (t : List UInt8) (h9 : 9 ≤ t.length) (wx : World) : (Instr.slice 9 (.string (bx t)) (some (.int .i64 1)) (some (.int .i64 ((t.length : Int) - 8))) none).run Tryz.prog wx = .ok (.string (bx (Rg.mid t))) wx := by
  have hs := bx_size t
  rw [run_slice_string_if wx _ (bx t) _ _ _ _ Tryz.underlying9, if_pos (by omega), if_pos (by omega)]
  congr 2
  apply ByteArray.ext
  apply Array.ext'
  rw [bx_list]
  have e1 : (1 : Int).toNat = 1 := rfl
  have e2 : ((t.length : Int) - 8).toNat = t.length - 8 := by omega
  rw [e1, e2]
  simp [Rg.mid, bx]
  omega
theorem eq_bx (x y : List UInt8) : ((bx x).toList == (bx y).toList) = decide (x = y) := by
  rw [ByteArray.toList_eq, ByteArray.toList_eq, bx_list, bx_list]
  rw [Bool.eq_iff_iff]; simp
def Rg.opnV (l : List Rg.Ep) (t : List UInt8) : Value := .tuple #[.string (bx (Rg.opn l t).1), .int .i64 (Rg.opn l t).2.1, .int .i64 (Rg.opn l t).2.2]
theorem Rg.opnV_of {l : List Rg.Ep} {t x : List UInt8} {c d : Int} (h : Rg.opn l t = (x, c, d)) : Ending.returned (.tuple #[.string (bx x), .int .i64 c, .int .i64 d]) = .returned (Rg.opnV l t) := by unfold Rg.opnV; rw [h]
theorem Rg.opn_chk {l : List Rg.Ep} {t : List UInt8} (h : Rg.chk l ≠ 0) : Rg.opn l t = ([], 0, Rg.chk l) := by unfold Rg.opn; rw [if_pos h]
theorem Rg.opn_form {l : List Rg.Ep} {t : List UInt8} (h : Rg.chk l = 0) (h2 : t.length < 9 ∨ 120 < t.length) : Rg.opn l t = ([], 0, 1) := by unfold Rg.opn; rw [if_neg (by omega), if_pos h2]
theorem Rg.opn_none {l : List Rg.Ep} {t : List UInt8} (h : Rg.chk l = 0) (h2 : ¬ (t.length < 9 ∨ 120 < t.length)) {c : Nat} (hc : (t.headD 0).toNat = c) (hf : Rg.find (c : Int) l = none) : Rg.opn l t = ([], 0, 5) := by
  unfold Rg.opn; rw [if_neg (by omega), if_neg h2, hc, hf]
theorem Rg.opn_some {l : List Rg.Ep} {t : List UInt8} (h : Rg.chk l = 0) (h2 : ¬ (t.length < 9 ∨ 120 < t.length)) {c k : Nat} (hc : (t.headD 0).toNat = c) {A B : Tg.W} (hf : Rg.find (c : Int) l = some (k, A, B)) :
    Rg.opn l t = if Rg.sl c A B (Rg.mid t) = t then (Rg.mid t, (c : Int), 0) else ([], 0, 9) := by
  unfold Rg.opn; rw [if_neg (by omega), if_neg h2, hc, hf]
theorem Rg.mid_len (t : List UInt8) (h : t.length ≤ 120) : (Rg.mid t).length ≤ 111 := by unfold Rg.mid; rw [List.length_take]; omega
theorem op_keep {w W : World} {b o : Nat} {v : Value} (h : Hid (Below w.heap.size w W)) (hb : Hid (b < w.heap.size)) (hc : Hid (w.cell? ⟨b, o, none⟩ = some v)) : W.cell? ⟨b, o, none⟩ = some v := (h.out.cell (p := ⟨b, o, none⟩) hb.out).trans hc.out
theorem op_below2 {w W W' : World} (h : Hid (Below w.heap.size w W)) (hb : Below W.drew.heap.size W.drew W') : Below w.heap.size w W' := below_on (h.out.drew) (Nat.le_refl _) hb
theorem op_below {w W W' : World} (h : Hid (Below w.heap.size w W)) (hb : Below W.heap.size W W') : Below w.heap.size w W' := below_on h.out (Nat.le_refl _) hb
set_option maxRecDepth 100000 in
set_option maxHeartbeats 2000000 in
theorem open_any (l : List Rg.Ep) (a : Option Addr) (cap : Nat) (t : List UInt8) (w : World) (hl : l.length ≤ maxLen) (ht : t.length ≤ 140737488351232) (hr : Row3 w a l) :
    Calls Tryz.prog 42 #[.slice a l.length cap, .string (bx t)] w fun e w' => e = .returned (Rg.opnV l t) ∧ Below w.heap.size w w' := by
  have HR : Hid (Row3 w a l) := hr
  have hck := check_any l a cap w hl hr
  have hsz := bx_size t
  have hpl := fun no W (hb : Below w.heap.size w W) => place_any l a cap no W hl (hr.below hb)
  clear hr
  by_cases hc : Rg.chk l = 0
  · have HCZ : Hid (Rg.chk l = 0) := hc
    have h8 : l.length ≤ 8 := ((Rg.chk_iff l).1 hc).1
    rw [hc] at hck
    clear hc hl
    by_cases h2 : t.length < 9 ∨ 120 < t.length
    · have HE : Hid (Rg.opn l t = ([], 0, 1)) := Rg.opn_form HCZ.out h2
      clear hpl
      by_cases h3 : t.length < 9
      all_goals
        go_enter Tryz.func42, Tryz.ntmps42
        go_wp2_with fail
        refine hck.mono ?_; rintro e w1 ⟨rfl, hb1⟩
        have HB1 : Hid (Below w.heap.size w w1) := hb1
        clear hb1 hck
        have h4 : t.length < 9 ∨ (120 : Int) < (t.length : Int) := by omega
        clear h2
        go_wp2
        go_ret3
        exact ⟨Rg.opnV_of HE.out, HB1.out⟩
    · have H2 : Hid (¬ (t.length < 9 ∨ 120 < t.length)) := h2
      have h9 : 9 ≤ t.length := by omega
      have h120 : t.length ≤ 120 := by omega
      clear h2
      have hfi := fun wx => first_ex t (by omega) wx
      have hmi := fun wx => mid_cut t h9 wx
      obtain ⟨c, hcc⟩ : ∃ c, (t.headD 0).toNat = c := ⟨_, rfl⟩
      have HC : Hid ((t.headD 0).toNat = c) := hcc
      rw [hcc] at hfi
      have hc256 : c < 256 := by rw [← hcc]; exact UInt8.toNat_lt _
      clear hcc
      cases hf : Rg.find (c : Int) l with
      | none =>
        have HE : Hid (Rg.opn l t = ([], 0, 5)) := Rg.opn_none HCZ.out H2.out HC.out hf
        have hpl' := fun W hb => Rg.plc_none hf ▸ hpl c W hb
        clear hpl hf
        go_enter Tryz.func42, Tryz.ntmps42
        go_wp2_with fail
        refine hck.mono ?_; rintro e w1 ⟨rfl, hb1⟩
        have HB1 : Hid (Below w.heap.size w w1) := hb1
        clear hb1 hck
        go_wp2_with fail
        refine (hpl' _ HB1.out).mono ?_; rintro e w2 ⟨rfl, hb2⟩
        have HB2 : Hid (Below w.heap.size w w2) := below_on HB1.out (Nat.le_refl _) hb2
        clear hb2 hpl'
        go_wp2
        go_ret3
        exact ⟨Rg.opnV_of HE.out, HB2.out⟩
      | some p =>
        obtain ⟨k, A, B⟩ := p
        obtain ⟨hk, hx, -⟩ := Rg.find_some l c k (A, B) hf
        have HO := Rg.opn_some (t := t) HCZ.out H2.out HC.out hf
        have hpl' := fun W hb => Rg.plc_some hf ▸ hpl c W hb
        clear hpl hf
        obtain ⟨b, off, n', A', B', rfl, hbs, hx', c1, c2, c3⟩ := HR.out.at hk
        obtain ⟨n, hLn⟩ : ∃ n, l.length = n := ⟨_, rfl⟩
        have HM : Hid ((Rg.mid t).length ≤ 111) := Rg.mid_len t h120
        rw [hx] at hx'
        injection hx' with hx'
        injection hx' with e1 e2
        injection e2 with e2 e3
        subst e2 e3
        rw [← e1] at c1
        rw [hLn] at hk hck h8 hpl' ⊢
        have hse := fun W => sealed_any c A B (Rg.mid t) W hc256 HM.out
        have HSE : Hid (_) := hse
        have heq := eq_bx (Rg.sl c A B (Rg.mid t)) t
        clear hse hx e1 hLn
        have hk' : (k : Int) < (n : Int) := by omega
        have hk0 : (0 : Int) ≤ (k : Int) := by omega
        have hmz : (bx (Rg.mid t)).size ≤ 281474976710656 := by rw [bx_size]; have := HM.out; omega
        have HMZ : Hid (_) := hmz
        clear hmz
        by_cases hq : Rg.sl c A B (Rg.mid t) = t
        · rw [if_pos hq] at HO
          have HE : Hid (Rg.opn l t = (Rg.mid t, (c : Int), 0)) := HO
          rw [show decide (Rg.sl c A B (Rg.mid t) = t) = true by simpa using hq] at heq
          clear HO hq
          generalize Rg.sl c A B (Rg.mid t) = X at *
          generalize Rg.mid t = M at *
          go_enter Tryz.func42, Tryz.ntmps42
          go_wp2_with fail
          refine hck.mono ?_; rintro e w1 ⟨rfl, hb1⟩
          have HB1 : Hid (Below w.heap.size w w1) := hb1
          clear hb1 hck
          go_wp2_with fail
          refine (hpl' _ HB1.out).mono ?_; rintro e w2 ⟨rfl, hb2⟩
          have hB2 := below_on HB1.out (Nat.le_refl _) hb2
          have HB2 : Hid (Below w.heap.size w w2) := hB2
          have d1 := (hB2.cell (p := ⟨b, _, none⟩) hbs).trans c1
          have d2 := (hB2.cell (p := ⟨b, _, none⟩) hbs).trans c2
          have d3 := (hB2.cell (p := ⟨b, _, none⟩) hbs).trans c3
          have HBS : Hid (b < w.heap.size) := hbs
          have HC1 : Hid (w.cell? ⟨b, off + k * 3, none⟩ = some (.int .i64 (c : Int))) := c1
          clear hb2 hpl' hB2 c1 c2 c3 hbs
          go_wp2_with fail
          refine (HSE.out _).mono ?_; rintro e w3 ⟨rfl, hb3⟩
          have hB3 := below_on HB2.out (Nat.le_refl _) hb3
          have HB3 : Hid (Below w.heap.size w w3) := hB3
          have f1 := (hB3.cell (p := ⟨b, _, none⟩) HBS.out).trans HC1.out
          clear hb3 HSE hB3 d1 d2 d3
          go_wp2
          go_region_held3 (fun w' => w'.cell? ⟨b, off + k * 3, none⟩ = some (.int .i64 (c : Int))) (first | go_keep | exact op_keep HB4 HBS HC1)
            ((go_at_call 64; refine (strClone_any _ _ HMZ.out).mono ?_; rintro e w4 ⟨rfl, hb4⟩; have HB4 : Hid (Below w.heap.size w w4) := (by first | exact op_below HB3 hb4 | exact op_below2 HB3 hb4); clear hb4))
          all_goals
            go_wp2
            go_ret3
            exact ⟨Rg.opnV_of HE.out, HB4.out⟩
        · rw [if_neg hq] at HO
          have HE : Hid (Rg.opn l t = ([], 0, 9)) := HO
          rw [show decide (Rg.sl c A B (Rg.mid t) = t) = false by simpa using hq] at heq
          clear HO hq
          generalize Rg.sl c A B (Rg.mid t) = X at *
          generalize Rg.mid t = M at *
          go_enter Tryz.func42, Tryz.ntmps42
          go_wp2_with fail
          refine hck.mono ?_; rintro e w1 ⟨rfl, hb1⟩
          have HB1 : Hid (Below w.heap.size w w1) := hb1
          clear hb1 hck
          go_wp2_with fail
          refine (hpl' _ HB1.out).mono ?_; rintro e w2 ⟨rfl, hb2⟩
          have hB2 := below_on HB1.out (Nat.le_refl _) hb2
          have HB2 : Hid (Below w.heap.size w w2) := hB2
          have d1 := (hB2.cell (p := ⟨b, _, none⟩) hbs).trans c1
          have d2 := (hB2.cell (p := ⟨b, _, none⟩) hbs).trans c2
          have d3 := (hB2.cell (p := ⟨b, _, none⟩) hbs).trans c3
          clear hb2 hpl' hB2 c1 c2 c3 hbs
          go_wp2_with fail
          refine (HSE.out _).mono ?_; rintro e w3 ⟨rfl, hb3⟩
          have HB3 : Hid (Below w.heap.size w w3) := below_on HB2.out (Nat.le_refl _) hb3
          clear hb3 HSE
          go_wp2
          go_ret3
          exact ⟨Rg.opnV_of HE.out, HB3.out⟩
  · have HE : Hid (Rg.opn l t = ([], 0, Rg.chk l)) := Rg.opn_chk hc
    clear hpl
    generalize Rg.chk l = C at *
    have hc' : (C != 0) = true := by simpa using hc
    go_enter Tryz.func42, Tryz.ntmps42
    go_wp2_with fail
    refine hck.mono ?_; rintro e w1 ⟨rfl, hb1⟩
    have HB1 : Hid (Below w.heap.size w w1) := hb1
    clear hb1 hck
    go_wp2
    go_ret3
    exact ⟨Rg.opnV_of HE.out, HB1.out⟩
end Go.Proofs.YtandlmnbnjkklaaGreatDoor
