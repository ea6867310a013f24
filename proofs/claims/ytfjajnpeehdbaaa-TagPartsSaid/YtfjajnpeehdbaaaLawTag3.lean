/- The walk of TagParts: it answers true, whatever it is handed. -/
import Derived.Test.YtfjajnpeehdbaaaGOf
import Derived.Lib.QuietBelow
import Derived.BigQuiet
namespace Go.Proofs.Ytfjajnpeehdbaaa
open Go.RowKit Go.BigFrame Go.Sort

/-- what the law's world keeps: the key's box, and what lies there while words are taken -/
structure TP (w : World) (A B : Tg.W) (b : Nat) (a : Option Addr) (ws : List Tg.W) (v : Tg.V) (W : World) : Prop where
  tk : Tk w b a ws v W
  gt : w.heap.size < b
  k0 : W.cell? ⟨w.heap.size, 0, none⟩ = some (.int .u64 (wd A))
  k1 : W.cell? ⟨w.heap.size, 1, none⟩ = some (.int .u64 (wd B))
theorem TP.on {w W W' : World} {A B : Tg.W} {b : Nat} {a : Option Addr} {ws : List Tg.W} {v : Tg.V} (h : TP w A B b a ws v W) (hb : Below W.heap.size W W') : TP w A B b a ws v W' := by
  have hlt : w.heap.size < W.heap.size := Nat.lt_trans h.gt h.tk.own.lt
  exact ⟨h.tk.on hb, h.gt, (hb.cell (p := ⟨w.heap.size, 0, none⟩) hlt).trans h.k0, (hb.cell (p := ⟨w.heap.size, 1, none⟩) hlt).trans h.k1⟩
theorem cell_set4 {W : World} {b c o : Nat} (h : c ≠ b) (x0 x1 x2 x3 : Value) : ((((W.setCell ⟨b, 0, none⟩ x0).setCell ⟨b, 1, none⟩ x1).setCell ⟨b, 2, none⟩ x2).setCell ⟨b, 3, none⟩ x3).cell? ⟨c, o, none⟩ = W.cell? ⟨c, o, none⟩ := by
  have e : (((((W.setCell ⟨b, 0, none⟩ x0).setCell ⟨b, 1, none⟩ x1).setCell ⟨b, 2, none⟩ x2).setCell ⟨b, 3, none⟩ x3).heap)[c]? = W.heap[c]? := by
    rw [Below.heap_setCell _ _ _ _ h, Below.heap_setCell _ _ _ _ h, Below.heap_setCell _ _ _ _ h, Below.heap_setCell _ _ _ _ h]
  generalize ((((W.setCell ⟨b, 0, none⟩ x0).setCell ⟨b, 1, none⟩ x1).setCell ⟨b, 2, none⟩ x2).setCell ⟨b, 3, none⟩ x3) = W' at e ⊢
  exact World.cell?_of_block (w := W) (a := ⟨c, o, none⟩) e
theorem TP.set {w W : World} {A B : Tg.W} {b : Nat} {a : Option Addr} {ws : List Tg.W} {v : Tg.V} (h : TP w A B b a ws v W) (u : Tg.V) :
    TP w A B b a ws u ((((W.setCell ⟨b, 0, none⟩ (.int .u64 (wd u.1))).setCell ⟨b, 1, none⟩ (.int .u64 (wd u.2.1))).setCell ⟨b, 2, none⟩ (.int .u64 (wd u.2.2.1))).setCell ⟨b, 3, none⟩ (.int .u64 (wd u.2.2.2))) := by
  have hne : w.heap.size ≠ b := Nat.ne_of_lt h.gt
  exact ⟨h.tk.set u, h.gt, (cell_set4 hne _ _ _ _).trans h.k0, (cell_set4 hne _ _ _ _).trans h.k1⟩
theorem TP.drew {w W : World} {A B : Tg.W} {b : Nat} {a : Option Addr} {ws : List Tg.W} {v : Tg.V} (h : TP w A B b a ws v W) : TP w A B b a ws v W.drew := h.on (Below.refl _ _).drew
theorem finish_at (v : Tg.V) (x : Tg.W) (w : World) (h : Tg.fin v = x) : Calls Try.prog 18 #[v4 v] w fun e w' => e = .returned (.int .u64 (wd x)) ∧ Below w.heap.size w w' := by
  subst h; exact finish_v v w
set_option maxRecDepth 100000 in
set_option maxHeartbeats 4000000 in
theorem tagParts_any (A B : Tg.W) (s : ByteArray) (n : Int) (w : World) (hs : s.size ≤ 140737488351232) :
    Calls Try.prog 6 #[.agg #[.int .u64 (wd A), .int .u64 (wd B)], .string s, .int .i64 n] w fun e w' => e = .returned (.bool true) ∧ Below w.heap.size w w' := by
  have B0 : Hid (Below w.heap.size w (w.alloc (.cells #[.int .u64 (wd A), .int .u64 (wd B)] 25))) := below_box w _
  have HL : Hid ((Tg.words s.data.toList).length = s.size / 8 + 1) := by show _ = _; rw [Tg.words_length, len_list]
  have HT : Hid (Tg.of A B s.data.toList = Tg.fin (Tg.takes (Tg.start A B) (Tg.words s.data.toList))) := rfl
  have hn0 : (Tg.words s.data.toList).length ≤ 140737488351232 := by rw [HL.out]; omega
  go_enter Try.func6, Try.ntmps6
  go_wp2_with fail
  refine (gbegun_any _).mono ?_; rintro e w0 ⟨rfl, hb0⟩
  have hz0 : w.heap.size < w0.heap.size := by have := hb0.size; simp at this; omega
  have k0 : w0.cell? ⟨w.heap.size, 0, none⟩ = some (.int .u64 (wd A)) := (hb0.cell (p := ⟨w.heap.size, 0, none⟩) (by simp)).trans (by simp)
  have k1 : w0.cell? ⟨w.heap.size, 1, none⟩ = some (.int .u64 (wd B)) := (hb0.cell (p := ⟨w.heap.size, 1, none⟩) (by simp)).trans (by simp)
  have B1 : Hid (Below w.heap.size w w0) := below_on B0.out (Nat.le_refl _) hb0
  clear hb0 B0
  go_wp2_with fail
  refine (start_any _ _ _).mono ?_; rintro e w1 ⟨rfl, hb1⟩
  have B2 : Hid (Below w.heap.size w w1) := below_on B1.out (Nat.le_refl _) hb1
  have hz1 : w.heap.size < w1.heap.size := Nat.lt_of_lt_of_le hz0 hb1.size
  have j0 : Hid (w1.cell? ⟨w.heap.size, 0, none⟩ = some (.int .u64 (wd A))) := (hb1.cell (p := ⟨w.heap.size, 0, none⟩) hz0).trans k0
  have j1 : Hid (w1.cell? ⟨w.heap.size, 1, none⟩ = some (.int .u64 (wd B))) := (hb1.cell (p := ⟨w.heap.size, 1, none⟩) hz0).trans k1
  clear hb1 B1 k0 k1
  have O1 : Hid (Own4 (w1.alloc (.cells #[.int .u64 (wd (Tg.start A B).1), .int .u64 (wd (Tg.start A B).2.1), .int .u64 (wd (Tg.start A B).2.2.1), .int .u64 (wd (Tg.start A B).2.2.2)] 23)) w1.heap.size (Tg.start A B)) := Own4.new w1 _ _ _ _
  have B3 : Hid (Below w1.heap.size w1 (w1.alloc (.cells #[.int .u64 (wd (Tg.start A B).1), .int .u64 (wd (Tg.start A B).2.1), .int .u64 (wd (Tg.start A B).2.2.1), .int .u64 (wd (Tg.start A B).2.2.2)] 23))) := below_box w1 _
  generalize Tg.start A B = V at *
  go_wp2_with fail
  refine (words_any s _ hs).mono ?_; rintro e w2 ⟨a, cap, rfl, hr, hb2⟩
  have T2 : Hid (TP w A B w1.heap.size a (Tg.words s.data.toList) V w2) := by
    have hb3 : Below w1.heap.size w1 w2 := below_on B3.out (Nat.le_refl _) hb2
    exact ⟨⟨O1.out.below hb2, by rw [World.size_alloc] at hr; exact hr, Nat.le_of_lt hz1, below_on B2.out (Nat.le_refl _) hb3⟩, hz1, (hb3.cell (p := ⟨w.heap.size, 0, none⟩) hz1).trans j0.out, (hb3.cell (p := ⟨w.heap.size, 1, none⟩) hz1).trans j1.out⟩
  clear hb2 hr O1 B2 B3 j0 j1 hz0 hz1
  generalize Tg.words s.data.toList = ws at *
  generalize hN : ws.length = N at *
  have HN : Hid (ws.length = N) := hN
  clear hN
  generalize w1.heap.size = b at *
  go_wp2
  go_loopw [9] (fun iv wr => ∃ k : Nat, k ≤ N ∧ ((k : Int) ≤ n ∨ k = 0) ∧ iv = .int .i64 k ∧ TP w A B b a ws (Tg.takes V (ws.take k)) wr) (fun iv _ => N - (intOf iv).toNat)
  case atStart => exact ⟨0, Nat.zero_le _, .inr rfl, rfl, T2.out⟩
  case round =>
    obtain ⟨k, hk, hkn, rfl, T⟩ := hrel
    obtain ⟨c0, c1, c2, c3⟩ := T.tk.own.cells
    obtain ⟨f0, f1, f2, f3⟩ := T.tk.own.frozen
    have hlt0 := T.tk.own.lt
    have H : Hid (TP w A B b a ws (Tg.takes V (ws.take k)) wr) := T
    clear T
    by_cases hlt : k < N ∧ (k : Int) < n
    · obtain ⟨hlt, hkn2⟩ := hlt
      have hkz : (k : Int) < (N : Int) := by omega
      have hk0 : (0 : Int) ≤ (k : Int) := by omega
      obtain ⟨b', off, x, ea, -, hx, cx⟩ := H.out.tk.row.1.at (k := k) (by rw [HN.out]; exact hlt)
      have HX : Hid (Tg.takes V (ws.take (k + 1)) = Tg.take (Tg.takes V (ws.take k)) x) := Tg.takes_snoc V ws k x hx
      clear hx hkn
      subst ea
      generalize Tg.takes V (ws.take k) = U at *
      go_upto_region 8 with fail
      go_region_with ((go_at_call 16; refine (take_v _ _ _).mono ?_; rintro e w3 ⟨rfl, hb⟩; have HW : Hid (TP w A B b (some ⟨b', off, none⟩) ws U w3) := H.out.drew.on hb; clear hb; obtain ⟨d0, d1, d2, d3⟩ := HW.out.tk.own.cells; obtain ⟨g0, g1, g2, g3⟩ := HW.out.tk.own.frozen; have hlt3 := HW.out.tk.own.lt))
      all_goals
        go_wp2_with fail
        go_roundw
        case rel => exact ⟨k + 1, by omega, .inl (by omega), by go_num, by rw [HX.out]; exact HW.out.set _⟩
        case measure => simp [intOf] <;> omega
    · have HM : Hid (1 ≤ N) := by show _ ≤ _; have := HL.out; omega
      clear c0 c1 c2 c3 f0 f1 f2 f3
      by_cases hneg : n < 0
      · obtain rfl : k = 0 := by omega
        have hkz : ((0 : Nat) : Int) < (N : Int) := by have := HM.out; omega
        have hkz0 : (0 : Int) < (N : Int) := by have := HM.out; omega
        have HTP : Hid (TP w A B b a ws (Tg.takes V (ws.take 0)) wr) := H.out
        clear hlt hkn H
        go_wp2_with fail
        go_loopw [10] (fun iv wr => ∃ i : Nat, iv = .int .i64 i ∧ TP w A B b a ws (Tg.takes V (ws.take i)) wr) (fun iv _ => N - (intOf iv).toNat)
        case atStart => exact ⟨0, rfl, HTP.out⟩
        case round =>
          obtain ⟨i, rfl, T⟩ := hrel
          obtain ⟨c0, c1, c2, c3⟩ := T.tk.own.cells
          obtain ⟨f0, f1, f2, f3⟩ := T.tk.own.frozen
          have hlt0 := T.tk.own.lt
          have H : Hid (TP w A B b a ws (Tg.takes V (ws.take i)) wr) := T
          clear T HTP
          by_cases hi : i < N
          · have hiz : (i : Int) < (N : Int) := by omega
            have hi0 : (0 : Int) ≤ (i : Int) := by omega
            obtain ⟨b', off, x, ea, -, hx, cx⟩ := H.out.tk.row.1.at (k := i) (by rw [HN.out]; exact hi)
            have HX : Hid (Tg.takes V (ws.take (i + 1)) = Tg.take (Tg.takes V (ws.take i)) x) := Tg.takes_snoc V ws i x hx
            clear hx
            subst ea
            generalize Tg.takes V (ws.take i) = U at *
            go_upto_region 12 with fail
            go_region_with ((go_at_call 16; refine (take_v _ _ _).mono ?_; rintro e w3 ⟨rfl, hb⟩; have HW : Hid (TP w A B b (some ⟨b', off, none⟩) ws U w3) := H.out.drew.on hb; clear hb; obtain ⟨d0, d1, d2, d3⟩ := HW.out.tk.own.cells; obtain ⟨g0, g1, g2, g3⟩ := HW.out.tk.own.frozen; have hlt3 := HW.out.tk.own.lt))
            all_goals
              go_wp2_with fail
              go_roundw
              case rel => exact ⟨i + 1, by go_num, by rw [HX.out]; exact HW.out.set _⟩
              case measure => simp [intOf] <;> omega
          · have hiz : ¬ (i : Int) < (N : Int) := by omega
            have HE : Hid (Tg.takes V (ws.take i) = Tg.takes V ws) := by show _ = _; rw [List.take_of_length_le (by rw [HN.out]; omega)]
            have e0 := H.out.k0
            have e1 := H.out.k1
            have HQ : Hid (Tg.fin (Tg.takes V (ws.take i)) = Tg.of A B s.data.toList) := by show _ = _; rw [HE.out, HT.out]
            generalize Tg.takes V (ws.take i) = U at *
            go_upto_region 13 with fail
            have k0 := cell_regrown c0
            have k1 := cell_regrown c1
            have k2 := cell_regrown c2
            have k3 := cell_regrown c3
            have m0 := cell_regrown e0
            have m1 := cell_regrown e1
            clear c0 c1 c2 c3 e0 e1
            refine wp_region_quiet_below (by kernel_rfl) (by kernel_rfl) ?_
            repeat go_big_quiet_step (first
              | (go_at_call 18; exact Calls.regrown_of (finish_at U _ _ HQ.out))
              | (go_at_call 20; exact Calls.regrown_of (of_any A B s _ hs)))
            refine wpQuiet_nil ?_
            intro _ hw'
            obtain ⟨⟨dq, osq⟩, hw''⟩ := hw'
            subst hw''
            go_wp2
            go_ret
            exact ⟨rfl, below_on H.out.tk.below (Nat.le_refl _) (below_regrown _ dq osq)⟩
      · by_cases hzer : n = 0
        · obtain rfl : k = 0 := by omega
          subst hzer
          have hkz : ((0 : Nat) : Int) < (N : Int) := by have := HM.out; omega
          have hkz0 : (0 : Int) < (N : Int) := by have := HM.out; omega
          have HTP : Hid (TP w A B b a ws (Tg.takes V (ws.take 0)) wr) := H.out
          clear hlt hkn H
          go_wp2_with fail
          go_loopw [10] (fun iv wr => ∃ i : Nat, iv = .int .i64 i ∧ TP w A B b a ws (Tg.takes V (ws.take i)) wr) (fun iv _ => N - (intOf iv).toNat)
          case atStart => exact ⟨0, rfl, HTP.out⟩
          case round =>
            obtain ⟨i, rfl, T⟩ := hrel
            obtain ⟨c0, c1, c2, c3⟩ := T.tk.own.cells
            obtain ⟨f0, f1, f2, f3⟩ := T.tk.own.frozen
            have hlt0 := T.tk.own.lt
            have H : Hid (TP w A B b a ws (Tg.takes V (ws.take i)) wr) := T
            clear T HTP
            by_cases hi : i < N
            · have hiz : (i : Int) < (N : Int) := by omega
              have hi0 : (0 : Int) ≤ (i : Int) := by omega
              obtain ⟨b', off, x, ea, -, hx, cx⟩ := H.out.tk.row.1.at (k := i) (by rw [HN.out]; exact hi)
              have HX : Hid (Tg.takes V (ws.take (i + 1)) = Tg.take (Tg.takes V (ws.take i)) x) := Tg.takes_snoc V ws i x hx
              clear hx
              subst ea
              generalize Tg.takes V (ws.take i) = U at *
              go_upto_region 12 with fail
              go_region_with ((go_at_call 16; refine (take_v _ _ _).mono ?_; rintro e w3 ⟨rfl, hb⟩; have HW : Hid (TP w A B b (some ⟨b', off, none⟩) ws U w3) := H.out.drew.on hb; clear hb; obtain ⟨d0, d1, d2, d3⟩ := HW.out.tk.own.cells; obtain ⟨g0, g1, g2, g3⟩ := HW.out.tk.own.frozen; have hlt3 := HW.out.tk.own.lt))
              all_goals
                go_wp2_with fail
                go_roundw
                case rel => exact ⟨i + 1, by go_num, by rw [HX.out]; exact HW.out.set _⟩
                case measure => simp [intOf] <;> omega
            · have hiz : ¬ (i : Int) < (N : Int) := by omega
              have HE : Hid (Tg.takes V (ws.take i) = Tg.takes V ws) := by show _ = _; rw [List.take_of_length_le (by rw [HN.out]; omega)]
              have e0 := H.out.k0
              have e1 := H.out.k1
              have HQ : Hid (Tg.fin (Tg.takes V (ws.take i)) = Tg.of A B s.data.toList) := by show _ = _; rw [HE.out, HT.out]
              generalize Tg.takes V (ws.take i) = U at *
              go_upto_region 13 with fail
              have k0 := cell_regrown c0
              have k1 := cell_regrown c1
              have k2 := cell_regrown c2
              have k3 := cell_regrown c3
              have m0 := cell_regrown e0
              have m1 := cell_regrown e1
              clear c0 c1 c2 c3 e0 e1
              refine wp_region_quiet_below (by kernel_rfl) (by kernel_rfl) ?_
              repeat go_big_quiet_step (first
                | (go_at_call 18; exact Calls.regrown_of (finish_at U _ _ HQ.out))
                | (go_at_call 20; exact Calls.regrown_of (of_any A B s _ hs)))
              refine wpQuiet_nil ?_
              intro _ hw'
              obtain ⟨⟨dq, osq⟩, hw''⟩ := hw'
              subst hw''
              go_wp2
              go_ret
              exact ⟨rfl, below_on H.out.tk.below (Nat.le_refl _) (below_regrown _ dq osq)⟩
        · obtain ⟨j, rfl⟩ := Int.eq_ofNat_of_zero_le (show 0 ≤ n by omega)
          have hj0 : (0 : Int) < (j : Int) := by omega
          have HTP : Hid (TP w A B b a ws (Tg.takes V (ws.take j)) wr) := by
            have h1 := H.out
            by_cases hkN : k < N
            · rw [show k = j by omega] at h1; exact h1
            · rw [List.take_of_length_le (show ws.length ≤ k by rw [HN.out]; omega)] at h1
              rw [List.take_of_length_le (show ws.length ≤ j by rw [HN.out]; have := HM.out; omega)]
              exact h1
          clear H
          by_cases hkN : k < N
          · have hkz : (k : Int) < (N : Int) := by omega
            have hkn3 : ¬ (k : Int) < (j : Int) := by omega
            clear hlt hkn
            go_wp2_with fail
            go_loopw [10] (fun iv wr => ∃ i : Nat, iv = .int .i64 i ∧ TP w A B b a ws (Tg.takes V (ws.take i)) wr) (fun iv _ => N - (intOf iv).toNat)
            case atStart => exact ⟨j, rfl, HTP.out⟩
            case round =>
              obtain ⟨i, rfl, T⟩ := hrel
              obtain ⟨c0, c1, c2, c3⟩ := T.tk.own.cells
              obtain ⟨f0, f1, f2, f3⟩ := T.tk.own.frozen
              have hlt0 := T.tk.own.lt
              have H : Hid (TP w A B b a ws (Tg.takes V (ws.take i)) wr) := T
              clear T HTP
              by_cases hi : i < N
              · have hiz : (i : Int) < (N : Int) := by omega
                have hi0 : (0 : Int) ≤ (i : Int) := by omega
                obtain ⟨b', off, x, ea, -, hx, cx⟩ := H.out.tk.row.1.at (k := i) (by rw [HN.out]; exact hi)
                have HX : Hid (Tg.takes V (ws.take (i + 1)) = Tg.take (Tg.takes V (ws.take i)) x) := Tg.takes_snoc V ws i x hx
                clear hx
                subst ea
                generalize Tg.takes V (ws.take i) = U at *
                go_upto_region 12 with fail
                go_region_with ((go_at_call 16; refine (take_v _ _ _).mono ?_; rintro e w3 ⟨rfl, hb⟩; have HW : Hid (TP w A B b (some ⟨b', off, none⟩) ws U w3) := H.out.drew.on hb; clear hb; obtain ⟨d0, d1, d2, d3⟩ := HW.out.tk.own.cells; obtain ⟨g0, g1, g2, g3⟩ := HW.out.tk.own.frozen; have hlt3 := HW.out.tk.own.lt))
                all_goals
                  go_wp2_with fail
                  go_roundw
                  case rel => exact ⟨i + 1, by go_num, by rw [HX.out]; exact HW.out.set _⟩
                  case measure => simp [intOf] <;> omega
              · have hiz : ¬ (i : Int) < (N : Int) := by omega
                have HE : Hid (Tg.takes V (ws.take i) = Tg.takes V ws) := by show _ = _; rw [List.take_of_length_le (by rw [HN.out]; omega)]
                have e0 := H.out.k0
                have e1 := H.out.k1
                have HQ : Hid (Tg.fin (Tg.takes V (ws.take i)) = Tg.of A B s.data.toList) := by show _ = _; rw [HE.out, HT.out]
                generalize Tg.takes V (ws.take i) = U at *
                go_upto_region 13 with fail
                have k0 := cell_regrown c0
                have k1 := cell_regrown c1
                have k2 := cell_regrown c2
                have k3 := cell_regrown c3
                have m0 := cell_regrown e0
                have m1 := cell_regrown e1
                clear c0 c1 c2 c3 e0 e1
                refine wp_region_quiet_below (by kernel_rfl) (by kernel_rfl) ?_
                repeat go_big_quiet_step (first
                  | (go_at_call 18; exact Calls.regrown_of (finish_at U _ _ HQ.out))
                  | (go_at_call 20; exact Calls.regrown_of (of_any A B s _ hs)))
                refine wpQuiet_nil ?_
                intro _ hw'
                obtain ⟨⟨dq, osq⟩, hw''⟩ := hw'
                subst hw''
                go_wp2
                go_ret
                exact ⟨rfl, below_on H.out.tk.below (Nat.le_refl _) (below_regrown _ dq osq)⟩
          · have hkz : ¬ (k : Int) < (N : Int) := by omega
            clear hlt hkn
            go_wp2_with fail
            go_loopw [10] (fun iv wr => ∃ i : Nat, iv = .int .i64 i ∧ TP w A B b a ws (Tg.takes V (ws.take i)) wr) (fun iv _ => N - (intOf iv).toNat)
            case atStart => exact ⟨j, rfl, HTP.out⟩
            case round =>
              obtain ⟨i, rfl, T⟩ := hrel
              obtain ⟨c0, c1, c2, c3⟩ := T.tk.own.cells
              obtain ⟨f0, f1, f2, f3⟩ := T.tk.own.frozen
              have hlt0 := T.tk.own.lt
              have H : Hid (TP w A B b a ws (Tg.takes V (ws.take i)) wr) := T
              clear T HTP
              by_cases hi : i < N
              · have hiz : (i : Int) < (N : Int) := by omega
                have hi0 : (0 : Int) ≤ (i : Int) := by omega
                obtain ⟨b', off, x, ea, -, hx, cx⟩ := H.out.tk.row.1.at (k := i) (by rw [HN.out]; exact hi)
                have HX : Hid (Tg.takes V (ws.take (i + 1)) = Tg.take (Tg.takes V (ws.take i)) x) := Tg.takes_snoc V ws i x hx
                clear hx
                subst ea
                generalize Tg.takes V (ws.take i) = U at *
                go_upto_region 12 with fail
                go_region_with ((go_at_call 16; refine (take_v _ _ _).mono ?_; rintro e w3 ⟨rfl, hb⟩; have HW : Hid (TP w A B b (some ⟨b', off, none⟩) ws U w3) := H.out.drew.on hb; clear hb; obtain ⟨d0, d1, d2, d3⟩ := HW.out.tk.own.cells; obtain ⟨g0, g1, g2, g3⟩ := HW.out.tk.own.frozen; have hlt3 := HW.out.tk.own.lt))
                all_goals
                  go_wp2_with fail
                  go_roundw
                  case rel => exact ⟨i + 1, by go_num, by rw [HX.out]; exact HW.out.set _⟩
                  case measure => simp [intOf] <;> omega
              · have hiz : ¬ (i : Int) < (N : Int) := by omega
                have HE : Hid (Tg.takes V (ws.take i) = Tg.takes V ws) := by show _ = _; rw [List.take_of_length_le (by rw [HN.out]; omega)]
                have e0 := H.out.k0
                have e1 := H.out.k1
                have HQ : Hid (Tg.fin (Tg.takes V (ws.take i)) = Tg.of A B s.data.toList) := by show _ = _; rw [HE.out, HT.out]
                generalize Tg.takes V (ws.take i) = U at *
                go_upto_region 13 with fail
                have k0 := cell_regrown c0
                have k1 := cell_regrown c1
                have k2 := cell_regrown c2
                have k3 := cell_regrown c3
                have m0 := cell_regrown e0
                have m1 := cell_regrown e1
                clear c0 c1 c2 c3 e0 e1
                refine wp_region_quiet_below (by kernel_rfl) (by kernel_rfl) ?_
                repeat go_big_quiet_step (first
                  | (go_at_call 18; exact Calls.regrown_of (finish_at U _ _ HQ.out))
                  | (go_at_call 20; exact Calls.regrown_of (of_any A B s _ hs)))
                refine wpQuiet_nil ?_
                intro _ hw'
                obtain ⟨⟨dq, osq⟩, hw''⟩ := hw'
                subst hw''
                go_wp2
                go_ret
                exact ⟨rfl, below_on H.out.tk.below (Nat.le_refl _) (below_regrown _ dq osq)⟩
end Go.Proofs.Ytfjajnpeehdbaaa
