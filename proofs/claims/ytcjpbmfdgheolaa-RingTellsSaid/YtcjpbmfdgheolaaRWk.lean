/- The walks over rings that are only read: is a ring right, an epoch's key, are two rings one. -/
import Derived.Test.YtcjpbmfdgheolaaRRow
namespace Go.Proofs.Ytcjpbmfdgheolaa
open Go.RowKit

theorem Rg.drop_at {l : List Rg.Ep} {k : Nat} {e : Rg.Ep} (h : l[k]? = some e) : l.drop k = e :: l.drop (k + 1) := by
  obtain ⟨hk, he⟩ := List.getElem?_eq_some_iff.1 h
  rw [List.drop_eq_getElem_cons hk, he]
theorem Rg.chkAt_cons (last : Int) (e : Rg.Ep) (r : List Rg.Ep) : Rg.chkAt last (e :: r) = if e.1 < 1 ∨ 255 < e.1 then 3 else if e.1 ≤ last then 4 else Rg.chkAt e.1 r := rfl
set_option maxRecDepth 100000 in
set_option maxHeartbeats 1000000 in
theorem check_any (l : List Rg.Ep) (a : Option Addr) (cap : Nat) (w : World) (hl : l.length ≤ maxLen) (hr : Row3 w a l) :
    Calls Try.prog 13 #[.slice a l.length cap] w fun e w' => e = .returned (.int .i64 (Rg.chk l)) ∧ Below w.heap.size w w' := by
  unfold maxLen at hl
  by_cases h8 : 8 < l.length
  · have e : Rg.chk l = 2 := by unfold Rg.chk; rw [if_pos h8]
    rw [e]; clear e
    have h8' : (8 : Int) < (l.length : Int) := by omega
    go_enter Try.func13, Try.ntmps13
    go_wp2
    go_ret
    exact ⟨rfl, Below.refl _ _⟩
  · have e : Rg.chk l = Rg.chkAt 0 l := by unfold Rg.chk; rw [if_neg h8]
    rw [e]; clear e
    have h8' : (l.length : Int) ≤ 8 := by omega
    have HR : Hid (Row3 w a l) := hr
    clear hr
    go_enter Try.func13, Try.ntmps13
    go_wp2
    go_loopw [3, 11] (fun z i wr => ∃ (k : Nat) (last : Int), k ≤ l.length ∧ z = .int .i64 last ∧ i = .int .i64 k ∧ Rg.chkAt 0 l = Rg.chkAt last (l.drop k) ∧ Below w.heap.size w wr) (fun _ i _ => l.length - (intOf i).toNat)
    case atStart => exact ⟨0, 0, Nat.zero_le _, rfl, rfl, rfl, Below.refl _ _⟩
    case round =>
      obtain ⟨k, last, hk, rfl, rfl, hm, hb⟩ := hrel
      have HM : Hid (Rg.chkAt 0 l = Rg.chkAt last (l.drop k)) := hm
      have HB : Hid (Below w.heap.size w wr) := hb
      clear hm
      by_cases hlt : k < l.length
      · have hlt' : (k : Int) < (l.length : Int) := by omega
        obtain ⟨b, off, n, A, B, rfl, hbs, hx, c1, c2, c3⟩ := (HR.out.below hb).at hlt
        have HS : Hid (Rg.chkAt 0 l = if n < 1 ∨ 255 < n then 3 else if n ≤ last then 4 else Rg.chkAt n (l.drop (k + 1))) := by show _ = _; rw [HM.out, Rg.drop_at hx, Rg.chkAt_cons]
        clear hx hb HM
        have HB2 : Hid (Below w.heap.size w (wr.alloc (.cells #[.int .i64 n, .int .u64 (wd A), .int .u64 (wd B)] 40))) := below_on HB.out (Nat.le_refl _) (below_box wr _)
        by_cases h1 : n < 1
        · have HE : Hid (Rg.chkAt 0 l = 3) := by show _ = _; rw [HS.out, if_pos (.inl h1)]
          go_wp2
          go_ret
          exact ⟨ret_int HE.out.symm, HB2.out⟩
        · have h1' : decide (n < 1) = false := by simpa using h1
          by_cases h2 : 255 < n
          · have HE : Hid (Rg.chkAt 0 l = 3) := by show _ = _; rw [HS.out, if_pos (.inr h2)]
            go_wp2
            go_ret
            exact ⟨ret_int HE.out.symm, HB2.out⟩
          · by_cases h3 : n ≤ last
            · have HE : Hid (Rg.chkAt 0 l = 4) := by show _ = _; rw [HS.out, if_neg (by omega), if_pos h3]
              go_wp2
              go_ret
              exact ⟨ret_int HE.out.symm, HB2.out⟩
            · have HE : Hid (Rg.chkAt 0 l = Rg.chkAt n (l.drop (k + 1))) := by show _ = _; rw [HS.out, if_neg (by omega), if_neg h3]
              go_wp2
              go_roundw
              case rel => exact ⟨k + 1, n, by omega, rfl, by go_num, HE.out, HB2.out⟩
              case measure => simp [intOf]; omega
      · have HE : Hid (Rg.chkAt 0 l = 0) := by show _ = _; rw [HM.out, List.drop_eq_nil_of_le (by omega)]; rfl
        go_wp2
        go_ret
        exact ⟨ret_int HE.out.symm, HB.out⟩
set_option maxRecDepth 100000 in
set_option maxHeartbeats 1000000 in
theorem ringCheck_any (l : List Rg.Ep) (a : Option Addr) (cap : Nat) (w : World) (hl : l.length ≤ maxLen) (hr : Row3 w a l) :
    Calls Try.prog 14 #[.slice a l.length cap] w fun e w' => e = .returned (.int .i64 (Rg.chk l)) ∧ w' = w := by
  unfold maxLen at hl
  by_cases h8 : 8 < l.length
  · have e : Rg.chk l = 2 := by unfold Rg.chk; rw [if_pos h8]
    rw [e]; clear e
    have h8' : (8 : Int) < (l.length : Int) := by omega
    go_enter Try.func14, Try.ntmps14
    go_wp2
    go_ret
    exact ⟨rfl, rfl⟩
  · have e : Rg.chk l = Rg.chkAt 0 l := by unfold Rg.chk; rw [if_neg h8]
    rw [e]; clear e
    have h8' : (l.length : Int) ≤ 8 := by omega
    have HR : Hid (Row3 w a l) := hr
    clear hr
    go_enter Try.func14, Try.ntmps14
    go_wp2
    go_loop [3, 4] (fun z i => ∃ (k : Nat) (last : Int), k ≤ l.length ∧ z = .int .i64 last ∧ i = .int .i64 k ∧ Rg.chkAt 0 l = Rg.chkAt last (l.drop k)) (fun _ i => l.length - (intOf i).toNat)
    case atStart => exact ⟨0, 0, Nat.zero_le _, rfl, rfl, rfl⟩
    case round =>
      obtain ⟨k, last, hk, rfl, rfl, hm⟩ := hrel
      have HM : Hid (Rg.chkAt 0 l = Rg.chkAt last (l.drop k)) := hm
      clear hm
      by_cases hlt : k < l.length
      · have hlt' : (k : Int) < (l.length : Int) := by omega
        obtain ⟨b, off, n, A, B, rfl, hbs, hx, c1, c2, c3⟩ := HR.out.at hlt
        have HS : Hid (Rg.chkAt 0 l = if n < 1 ∨ 255 < n then 3 else if n ≤ last then 4 else Rg.chkAt n (l.drop (k + 1))) := by show _ = _; rw [HM.out, Rg.drop_at hx, Rg.chkAt_cons]
        clear hx HM
        by_cases h1 : n < 1
        · have HE : Hid (Rg.chkAt 0 l = 3) := by show _ = _; rw [HS.out, if_pos (.inl h1)]
          go_wp2
          go_ret
          exact ⟨ret_int HE.out.symm, rfl⟩
        · have h1' : decide (n < 1) = false := by simpa using h1
          by_cases h2 : 255 < n
          · have HE : Hid (Rg.chkAt 0 l = 3) := by show _ = _; rw [HS.out, if_pos (.inr h2)]
            go_wp2
            go_ret
            exact ⟨ret_int HE.out.symm, rfl⟩
          · by_cases h3 : n ≤ last
            · have HE : Hid (Rg.chkAt 0 l = 4) := by show _ = _; rw [HS.out, if_neg (by omega), if_pos h3]
              go_wp2
              go_ret
              exact ⟨ret_int HE.out.symm, rfl⟩
            · have HE : Hid (Rg.chkAt 0 l = Rg.chkAt n (l.drop (k + 1))) := by show _ = _; rw [HS.out, if_neg (by omega), if_neg h3]
              go_wp2
              go_round
              case rel => exact ⟨k + 1, n, by omega, rfl, by go_num, HE.out⟩
              case measure => simp [intOf]; omega
      · have HE : Hid (Rg.chkAt 0 l = 0) := by show _ = _; rw [HM.out, List.drop_eq_nil_of_le (by omega)]; rfl
        go_wp2
        go_ret
        exact ⟨ret_int HE.out.symm, rfl⟩
def keyVal (no : Int) (l : List Rg.Ep) : Value := match Rg.find no l with
  | none => .tuple #[.agg #[.int .u64 0, .int .u64 0], .bool false]
  | some p => .tuple #[.agg #[.int .u64 (wd p.2.1), .int .u64 (wd p.2.2)], .bool true]
set_option maxRecDepth 100000 in
set_option maxHeartbeats 1000000 in
theorem keyOf_any (l : List Rg.Ep) (a : Option Addr) (cap : Nat) (no : Int) (w : World) (hl : l.length ≤ maxLen) (hr : Row3 w a l) :
    Calls Try.prog 20 #[.slice a l.length cap, .int .i64 no] w fun e w' => e = .returned (keyVal no l) ∧ Below w.heap.size w w' := by
  unfold maxLen at hl
  have HR : Hid (Row3 w a l) := hr
  clear hr
  have HB : Hid (Below w.heap.size w (w.alloc (.cells #[.int .u64 0, .int .u64 0] 25))) := below_box w _
  have HRW : Hid (Row3 (w.alloc (.cells #[.int .u64 0, .int .u64 0] 25)) a l) := HR.out.below HB.out
  go_enter Try.func20, Try.ntmps20
  go_wp2
  go_loop [6] (fun i => ∃ (k : Nat), k ≤ l.length ∧ i = .int .i64 k ∧ (∀ j, j < k → ∀ e, l[j]? = some e → e.1 ≠ no)) (fun i => l.length - (intOf i).toNat)
  case atStart => exact ⟨0, Nat.zero_le _, rfl, fun j hj => by omega⟩
  case round =>
    obtain ⟨k, hk, rfl, hm⟩ := hrel
    have HM : Hid (∀ j, j < k → ∀ e, l[j]? = some e → e.1 ≠ no) := hm
    clear hm
    by_cases hlt : k < l.length
    · have hlt' : (k : Int) < (l.length : Int) := by omega
      obtain ⟨b, off, n, A, B, rfl, hbs, hx, c1, c2, c3⟩ := HRW.out.at hlt
      have HX : Hid (l[k]? = some (n, A, B)) := hx
      clear hx
      have hbl : b < (w.alloc (.cells #[.int .u64 0, .int .u64 0] 25)).heap.size := hbs
      by_cases h1 : n = no
      · subst h1
        have HE : Hid (keyVal n l = .tuple #[.agg #[.int .u64 (wd A), .int .u64 (wd B)], .bool true]) := by show _ = _; unfold keyVal; rw [Rg.find_is l n k (A, B) HX.out HM.out]
        go_wp2
        exact bodyPost_ret (v := .tuple #[.agg #[.int .u64 (wd A), .int .u64 (wd B)], .bool true]) (by simp [results, Try.results20, go_sem]) rfl ⟨congrArg Ending.returned HE.out.symm, below_box w _⟩
      · have h1' : (n == no) = false := by simpa using h1
        have HE : Hid (∀ j, j < k + 1 → ∀ e, l[j]? = some e → e.1 ≠ no) := by
          intro j hj e he
          by_cases c : j = k
          · subst c; rw [HX.out] at he; cases he; exact h1
          · exact HM.out j (by omega) e he
        go_wp2
        go_round
        case rel => exact ⟨k + 1, by omega, by go_num, HE.out⟩
        case measure => simp [intOf]; omega
    · have HE : Hid (keyVal no l = .tuple #[.agg #[.int .u64 0, .int .u64 0], .bool false]) := by
        show _ = _
        unfold keyVal
        rw [(Rg.find_none l no).2 fun e he => by
          obtain ⟨j, hj, he⟩ := List.getElem_of_mem he
          exact HM.out j (by omega) e (by rw [List.getElem?_eq_getElem hj, he])]
      go_wp2
      exact bodyPost_ret (v := .tuple #[.agg #[.int .u64 0, .int .u64 0], .bool false]) (by simp [results, Try.results20, go_sem]) rfl ⟨congrArg Ending.returned HE.out.symm, below_box w _⟩
end Go.Proofs.Ytcjpbmfdgheolaa
