/- The walks of package tag: the tag of a text; what must be in any case. -/
import Derived.Test.YtcjpbmfdgheolaaGRef2
import Derived.Test.YtcjpbmfdgheolaaGRef3
namespace Go.Proofs.Ytcjpbmfdgheolaa
open Go.RowKit

theorem take_v (v : Tg.V) (m : Tg.W) (w : World) : Calls Try.prog 39 #[v4 v, .int .u64 (wd m)] w fun e w' => e = .returned (v4 (Tg.take v m)) ∧ Below w.heap.size w w' := take_any v.1 v.2.1 v.2.2.1 v.2.2.2 m w
theorem finish_v (v : Tg.V) (w : World) : Calls Try.prog 40 #[v4 v] w fun e w' => e = .returned (.int .u64 (wd (Tg.fin v))) ∧ Below w.heap.size w w' := finish_any v.1 v.2.1 v.2.2.1 v.2.2.2 w
theorem takenOf_v (v : Tg.V) (m : Tg.W) (w : World) : Calls Try.prog 43 #[v4 v, .int .u64 (wd m)] w fun e w' => e = .returned (v4 (Tg.take v m)) ∧ Below w.heap.size w w' := takenOf_any v.1 v.2.1 v.2.2.1 v.2.2.2 m w
theorem finishOf_v (v : Tg.V) (w : World) : Calls Try.prog 44 #[v4 v] w fun e w' => e = .returned (.int .u64 (wd (Tg.fin v))) ∧ Below w.heap.size w w' := finishOf_any v.1 v.2.1 v.2.2.1 v.2.2.2 w
/-- what lies there while words are taken: four words in block b, the words themselves behind -/
structure Tk (w : World) (b : Nat) (a : Option Addr) (ws : List Tg.W) (v : Tg.V) (W : World) : Prop where
  own : Own4 W b v
  row : RowN W (b + 1) a ws
  ge : w.heap.size ≤ b
  below : Below w.heap.size w W
theorem Tk.on {w W W' : World} {b : Nat} {a : Option Addr} {ws : List Tg.W} {v : Tg.V} (h : Tk w b a ws v W) (hb : Below W.heap.size W W') : Tk w b a ws v W' :=
  ⟨h.own.below hb, h.row.below hb, h.ge, below_on h.below (Nat.le_refl _) hb⟩
theorem Tk.set {w W : World} {b : Nat} {a : Option Addr} {ws : List Tg.W} {v : Tg.V} (h : Tk w b a ws v W) (u : Tg.V) :
    Tk w b a ws u ((((W.setCell ⟨b, 0, none⟩ (.int .u64 (wd u.1))).setCell ⟨b, 1, none⟩ (.int .u64 (wd u.2.1))).setCell ⟨b, 2, none⟩ (.int .u64 (wd u.2.2.1))).setCell ⟨b, 3, none⟩ (.int .u64 (wd u.2.2.2))) :=
  ⟨h.own.set u, h.row.set4 (Nat.lt_succ_self b) _ _ _ _, h.ge, below_set4 h.below h.ge _ _ _ _⟩
theorem Tk.drew {w W : World} {b : Nat} {a : Option Addr} {ws : List Tg.W} {v : Tg.V} (h : Tk w b a ws v W) : Tk w b a ws v W.drew := h.on (Below.refl _ _).drew
set_option maxRecDepth 100000 in
set_option maxHeartbeats 2000000 in
theorem of_any (A B : Tg.W) (s : ByteArray) (w : World) (hs : s.size ≤ 140737488351232) :
    Calls Try.prog 32 #[.agg #[.int .u64 (wd A), .int .u64 (wd B)], .string s] w fun e w' => e = .returned (.int .u64 (wd (Tg.of A B s.data.toList))) ∧ Below w.heap.size w w' := by
  have B0 : Hid (Below w.heap.size w (w.alloc (.cells #[.int .u64 (wd A), .int .u64 (wd B)] 25))) := below_box w _
  have HL : Hid ((Tg.words s.data.toList).length = s.size / 8 + 1) := by show _ = _; rw [Tg.words_length, len_list]
  have HT : Hid (Tg.of A B s.data.toList = Tg.fin (Tg.takes (Tg.start A B) (Tg.words s.data.toList))) := rfl
  have hn0 : (Tg.words s.data.toList).length ≤ 140737488351232 := by rw [HL.out]; omega
  go_enter Try.func32, Try.ntmps32
  go_wp2_with fail
  refine (start_any _ _ _).mono ?_; rintro e w1 ⟨rfl, hb1⟩
  have B1 : Hid (Below w.heap.size w w1) := below_on B0.out (Nat.le_refl _) hb1
  clear hb1 B0
  have O1 : Hid (Own4 (w1.alloc (.cells #[.int .u64 (wd (Tg.start A B).1), .int .u64 (wd (Tg.start A B).2.1), .int .u64 (wd (Tg.start A B).2.2.1), .int .u64 (wd (Tg.start A B).2.2.2)] 62)) w1.heap.size (Tg.start A B)) := Own4.new w1 _ _ _ _
  have B2 : Hid (Below w.heap.size w (w1.alloc (.cells #[.int .u64 (wd (Tg.start A B).1), .int .u64 (wd (Tg.start A B).2.1), .int .u64 (wd (Tg.start A B).2.2.1), .int .u64 (wd (Tg.start A B).2.2.2)] 62))) := below_on B1.out (Nat.le_refl _) (below_box w1 _)
  have hge : w.heap.size ≤ w1.heap.size := B1.out.size
  have HT' : Hid (Tg.takes (Tg.start A B) ((Tg.words s.data.toList).take 0) = Tg.start A B) := rfl
  generalize Tg.start A B = V at *
  go_wp2_with fail
  refine (words_any s _ hs).mono ?_; rintro e w2 ⟨a, cap, rfl, hr, hb2⟩
  have T2 : Hid (Tk w w1.heap.size a (Tg.words s.data.toList) V w2) := ⟨O1.out.below hb2, by rw [World.size_alloc] at hr; exact hr, hge, below_on B2.out (Nat.le_refl _) hb2⟩
  clear hb2 hr O1 B2
  generalize Tg.words s.data.toList = ws at *
  generalize hN : ws.length = N at *
  have HN : Hid (ws.length = N) := hN
  clear hN
  generalize w1.heap.size = b at *
  go_wp2
  go_loopw [7, 13] (fun _ iv wr => ∃ k : Nat, k ≤ N ∧ iv = .int .i64 k ∧ Tk w b a ws (Tg.takes V (ws.take k)) wr) (fun _ iv _ => N - (intOf iv).toNat)
  case atStart => exact ⟨0, Nat.zero_le _, rfl, T2.out⟩
  case round =>
    obtain ⟨k, hk, rfl, T⟩ := hrel
    obtain ⟨c0, c1, c2, c3⟩ := T.own.cells
    obtain ⟨f0, f1, f2, f3⟩ := T.own.frozen
    have hlt0 := T.own.lt
    have H : Hid (Tk w b a ws (Tg.takes V (ws.take k)) wr) := T
    clear T
    by_cases hlt : k < N
    · have hkz : (k : Int) < (N : Int) := by omega
      have hk0 : (0 : Int) ≤ (k : Int) := by omega
      obtain ⟨b', off, x, ea, -, hx, cx⟩ := H.out.row.1.at (k := k) (by rw [HN.out]; exact hlt)
      have HX : Hid (Tg.takes V (ws.take (k + 1)) = Tg.take (Tg.takes V (ws.take k)) x) := Tg.takes_snoc V ws k x hx
      clear hx
      subst ea
      generalize Tg.takes V (ws.take k) = U at *
      go_wp2_with (go_at_call 39; refine (take_v _ _ _).mono ?_; rintro e w3 ⟨rfl, hb⟩; obtain ⟨hc, hf⟩ := bcell hb; have HW : Hid (Below wr.heap.size wr w3) := hb; clear hb)
      go_roundw
      case rel => exact ⟨k + 1, by omega, by go_num, by rw [HX.out]; exact (H.out.on HW.out).set _⟩
      case measure => simp [intOf] <;> omega
    · obtain rfl : k = N := by omega
      have HE : Hid (Tg.takes V (ws.take k) = Tg.takes V ws) := by show _ = _; rw [List.take_of_length_le (by rw [HN.out]; exact Nat.le_refl _)]
      generalize Tg.takes V (ws.take k) = U at *
      go_wp2_with (go_at_call 40; refine (finish_v _ _).mono ?_; rintro e w3 ⟨rfl, hb⟩; have HW : Hid (Below wr.heap.size wr w3) := hb; clear hb)
      go_ret
      exact ⟨ret_int (by rw [HE.out, HT.out]), below_on H.out.below (Nat.le_refl _) HW.out⟩
set_option maxRecDepth 100000 in
set_option maxHeartbeats 2000000 in
theorem tagOf_any (A B : Tg.W) (s : ByteArray) (w : World) (hs : s.size ≤ 140737488351232) :
    Calls Try.prog 36 #[.agg #[.int .u64 (wd A), .int .u64 (wd B)], .string s] w fun e w' => e = .returned (.int .u64 (wd (Tg.of A B s.data.toList))) ∧ Below w.heap.size w w' := by
  have B0 : Hid (Below w.heap.size w (w.alloc (.cells #[.int .u64 (wd A), .int .u64 (wd B)] 25))) := below_box w _
  have HL : Hid ((Tg.words s.data.toList).length = s.size / 8 + 1) := by show _ = _; rw [Tg.words_length, len_list]
  have HT : Hid (Tg.of A B s.data.toList = Tg.fin (Tg.takes (Tg.start A B) (Tg.words s.data.toList))) := rfl
  have hn0 : (Tg.words s.data.toList).length ≤ 140737488351232 := by rw [HL.out]; omega
  go_enter Try.func36, Try.ntmps36
  go_wp2_with fail
  refine (startOf_any _ _ _).mono ?_; rintro e w1 ⟨rfl, hb1⟩
  have B1 : Hid (Below w.heap.size w w1) := below_on B0.out (Nat.le_refl _) hb1
  clear hb1 B0
  have O1 : Hid (Own4 (w1.alloc (.cells #[.int .u64 (wd (Tg.start A B).1), .int .u64 (wd (Tg.start A B).2.1), .int .u64 (wd (Tg.start A B).2.2.1), .int .u64 (wd (Tg.start A B).2.2.2)] 62)) w1.heap.size (Tg.start A B)) := Own4.new w1 _ _ _ _
  have B2 : Hid (Below w.heap.size w (w1.alloc (.cells #[.int .u64 (wd (Tg.start A B).1), .int .u64 (wd (Tg.start A B).2.1), .int .u64 (wd (Tg.start A B).2.2.1), .int .u64 (wd (Tg.start A B).2.2.2)] 62))) := below_on B1.out (Nat.le_refl _) (below_box w1 _)
  have hge : w.heap.size ≤ w1.heap.size := B1.out.size
  have HT' : Hid (Tg.takes (Tg.start A B) ((Tg.words s.data.toList).take 0) = Tg.start A B) := rfl
  generalize Tg.start A B = V at *
  go_wp2_with fail
  refine (wordsOf_any s _ hs).mono ?_; rintro e w2 ⟨a, cap, rfl, hr, hb2⟩
  have T2 : Hid (Tk w w1.heap.size a (Tg.words s.data.toList) V w2) := ⟨O1.out.below hb2, by rw [World.size_alloc] at hr; exact hr, hge, below_on B2.out (Nat.le_refl _) hb2⟩
  clear hb2 hr O1 B2
  generalize Tg.words s.data.toList = ws at *
  generalize hN : ws.length = N at *
  have HN : Hid (ws.length = N) := hN
  clear hN
  generalize w1.heap.size = b at *
  go_wp2
  go_loopw [7] (fun iv wr => ∃ k : Nat, k ≤ N ∧ iv = .int .i64 k ∧ Tk w b a ws (Tg.takes V (ws.take k)) wr) (fun iv _ => N - (intOf iv).toNat)
  case atStart => exact ⟨0, Nat.zero_le _, rfl, T2.out⟩
  case round =>
    obtain ⟨k, hk, rfl, T⟩ := hrel
    obtain ⟨c0, c1, c2, c3⟩ := T.own.cells
    obtain ⟨f0, f1, f2, f3⟩ := T.own.frozen
    have hlt0 := T.own.lt
    have H : Hid (Tk w b a ws (Tg.takes V (ws.take k)) wr) := T
    clear T
    by_cases hlt : k < N
    · have hkz : (k : Int) < (N : Int) := by omega
      have hk0 : (0 : Int) ≤ (k : Int) := by omega
      obtain ⟨b', off, x, ea, -, hx, cx⟩ := H.out.row.1.at (k := k) (by rw [HN.out]; exact hlt)
      have HX : Hid (Tg.takes V (ws.take (k + 1)) = Tg.take (Tg.takes V (ws.take k)) x) := Tg.takes_snoc V ws k x hx
      clear hx
      subst ea
      generalize Tg.takes V (ws.take k) = U at *
      go_upto_region 6 with fail
      go_region_with ((go_at_call 43; refine (takenOf_v _ _ _).mono ?_; rintro e w3 ⟨rfl, hb⟩; have HW : Hid (Tk w b (some ⟨b', off, none⟩) ws U w3) := H.out.drew.on hb; clear hb; obtain ⟨d0, d1, d2, d3⟩ := HW.out.own.cells; obtain ⟨g0, g1, g2, g3⟩ := HW.out.own.frozen; have hlt3 := HW.out.own.lt))
      all_goals
        go_wp2_with fail
        go_roundw
        case rel => exact ⟨k + 1, by omega, by go_num, by rw [HX.out]; exact HW.out.set _⟩
        case measure => simp [intOf] <;> omega
    · obtain rfl : k = N := by omega
      have HE : Hid (Tg.takes V (ws.take k) = Tg.takes V ws) := by show _ = _; rw [List.take_of_length_le (by rw [HN.out]; exact Nat.le_refl _)]
      generalize Tg.takes V (ws.take k) = U at *
      go_wp2_with (go_at_call 44; refine (finishOf_v _ _).mono ?_; rintro e w3 ⟨rfl, hb⟩; have HW : Hid (Below wr.heap.size wr w3) := hb; clear hb)
      go_ret
      exact ⟨ret_int (by rw [HE.out, HT.out]), below_on H.out.below (Nat.le_refl _) HW.out⟩
theorem of_lit (x y n : Nat) (s : ByteArray) (w : World) (hx : x < 18446744073709551616) (hy : y < 18446744073709551616) (hs : s.size ≤ 140737488351232) (hn : (Tg.of (BitVec.ofNat 64 x) (BitVec.ofNat 64 y) s.data.toList).toNat = n) :
    Calls Try.prog 32 #[.agg #[.int .u64 (x : Int), .int .u64 (y : Int)], .string s] w fun e w' => e = .returned (.int .u64 (n : Int)) ∧ Below w.heap.size w w' := by
  have h := of_any (BitVec.ofNat 64 x) (BitVec.ofNat 64 y) s w hs
  rw [wd_of x hx, wd_of y hy] at h
  subst hn
  exact h
end Go.Proofs.Ytcjpbmfdgheolaa
