/- The walk of OpenOnly: it answers true, whatever it is handed. -/
import Derived.Test.YtcjpbmfdgheolaaLawRing2
namespace Go.Proofs.Ytcjpbmfdgheolaa
open Go.RowKit

theorem Rg.sea_one {c : Nat} {A B : Tg.W} {S : List UInt8} (h : Rg.chk [((c : Int), A, B)] = 0) (hs : S.length ≤ 111) : Rg.sea [((c : Int), A, B)] S = (Rg.sl c A B S, 0) := by
  unfold Rg.sea
  rw [if_neg (by omega)]
  simp only [List.getLast?_singleton]
  rw [if_neg (by omega)]
  rfl
theorem Rg.opn_parts (l : List Rg.Ep) (t : List UInt8) : ∃ S no C, Rg.opn l t = (S, no, C) := ⟨_, _, _, rfl⟩
theorem Rg.opn_good {l : List Rg.Ep} {t S : List UInt8} {no : Int} (h : Rg.opn l t = (S, no, 0)) : ∃ (k c : Nat) (A B : Tg.W), no = (c : Int) ∧ Rg.find (c : Int) l = some (k, A, B) ∧ Rg.chk [((c : Int), A, B)] = 0 ∧ S.length ≤ 111 ∧ Rg.sl c A B S = t := by
  obtain ⟨k, A, B, h1, h2, h3, h4⟩ := Rg.opn_only l t (by rw [h])
  rw [h] at h1 h2 h3 h4
  have hb := ((Rg.chk_iff _).1 h2).2
  have hp : 1 ≤ no := hb.2.1
  obtain ⟨c, rfl⟩ : ∃ c : Nat, no = (c : Int) := ⟨no.toNat, by omega⟩
  exact ⟨k, c, A, B, rfl, h1, h2, h3, by simpa using h4⟩
set_option maxRecDepth 100000 in
set_option maxHeartbeats 4000000 in
theorem openOnly_any (l : List Rg.Ep) (a : Option Addr) (cap : Nat) (t : ByteArray) (w : World) (hl : l.length ≤ maxLen) (_hcap : l.length ≤ cap) (_hn : a = none → l = [] ∧ cap = 0) (hr : Row3 w a l) (ht : t.size ≤ 140737488351232) :
    Calls Try.prog 6 #[.slice a l.length cap, .string t] w fun e w' => e = .returned (.bool true) ∧ Below w.heap.size w w' := by
  obtain ⟨y, rfl⟩ : ∃ y, t = bx y := ⟨_, (bx_of t).symm⟩
  rw [bx_size] at ht
  have HL : Hid (l.length ≤ maxLen) := hl
  have R0 : Hid (Row3 w a l) := hr
  obtain ⟨S, no, C, hO⟩ := Rg.opn_parts l y
  have hV : Rg.opnV l y = .tuple #[.string (bx S), .int .i64 no, .int .i64 C] := by unfold Rg.opnV; rw [hO]
  have HV : Hid (_) := hV
  by_cases hC : C = 0
  · subst hC
    obtain ⟨k, c, A, B, rfl, hf, hck, hs, hsl⟩ := Rg.opn_good hO
    have hse : Rg.seaV [((c : Int), A, B)] S = .tuple #[.string (bx y), .int .i64 0] := by unfold Rg.seaV; rw [Rg.sea_one hck hs, hsl]
    have HSE : Hid (_) := hse
    have HKV : Hid (keyVal (c : Int) l = .tuple #[.agg #[.int .u64 (wd A), .int .u64 (wd B)], .bool true]) := keyVal_some hf
    have HS : Hid (S.length ≤ 111) := hs
    clear hl hr hV hO hf hck hs hsl hse
    go_enter Try.func6, Try.ntmps6
    go_wp2_with fail
    refine (open_any l a cap y _ HL.out ht R0.out).mono ?_; rintro e w1 ⟨rfl, hb1⟩
    rw [HV.out]
    have B1 : Hid (Below w.heap.size w w1) := hb1
    have R1 : Hid (Row3 w1 a l) := R0.out.below hb1
    clear hb1 R0
    go_wp2_with fail
    refine (ringBegun_any _).mono ?_; rintro e w2 ⟨rfl, hb2⟩
    have B2 : Hid (Below w.heap.size w w2) := below_on B1.out (Nat.le_refl _) hb2
    have R2 : Hid (Row3 w2 a l) := R1.out.below hb2
    clear hb2 B1 R1
    go_wp2_with fail
    refine (keyOf_any l a cap (c : Int) _ HL.out R2.out).mono ?_; rintro e w3 ⟨rfl, hb3⟩
    rw [HKV.out]
    have B3 : Hid (Below w.heap.size w (w3.alloc (.cells #[.int .u64 (wd A), .int .u64 (wd B)] 25))) := (below_on B2.out (Nat.le_refl _) hb3).alloc (below_on B2.out (Nat.le_refl _) hb3).size _
    clear hb3 B2 R2
    have hsea := fun W : World => seal_any [((c : Int), A, B)] (some ⟨W.heap.size, 0, none⟩) 1 S (W.alloc (.cells #[.int .i64 (c : Int), .int .u64 (wd A), .int .u64 (wd B)] 40)) (by simp [maxLen]) (by have := HS.out; omega) (Row3.lit W _ _ rfl (by simp [maxLen]))
    have HSEA : Hid (_) := hsea
    clear hsea
    go_wp2_with fail
    rename_i Q K hh
    have h4 := HSEA.out (w3.alloc (.cells #[.int .u64 (wd A), .int .u64 (wd B)] 25))
    simp only [World.size_alloc] at h4
    refine h4.mono ?_; rintro e w4 ⟨rfl, hb4⟩
    have B4 : Hid (Below w.heap.size w w4) := below_on (B3.out.alloc B3.out.size _) (Nat.le_refl _) (by simp only [World.size_alloc]; exact hb4)
    clear h4 hb4 B3 HSEA
    rw [HSE.out]
    go_wp2
    go_ret
    exact ⟨rfl, B4.out⟩
  · have hb := Rg.opn_bad l y (by rw [hO]; exact hC)
    rw [hO] at hb
    obtain ⟨rfl, rfl⟩ : S = [] ∧ no = 0 := hb
    have hC' : (C != 0) = true := by simpa using hC
    have hV2 : Rg.opnV l y = .tuple #[.string ⟨#[]⟩, .int .i64 0, .int .i64 C] := hV
    have HV2 : Hid (_) := hV2
    clear hl hr hV hO hC hV2 HV
    go_enter Try.func6, Try.ntmps6
    go_wp2_with fail
    refine (open_any l a cap y _ HL.out ht R0.out).mono ?_; rintro e w1 ⟨rfl, hb1⟩
    rw [HV2.out]
    have B1 : Hid (Below w.heap.size w w1) := hb1
    clear hb1 R0
    go_wp2_with fail
    refine (ringBegun_any _).mono ?_; rintro e w2 ⟨rfl, hb2⟩
    have B2 : Hid (Below w.heap.size w w2) := below_on B1.out (Nat.le_refl _) hb2
    clear hb2 B1
    go_wp2
    go_ret
    exact ⟨rfl, B2.out⟩
end Go.Proofs.Ytcjpbmfdgheolaa
