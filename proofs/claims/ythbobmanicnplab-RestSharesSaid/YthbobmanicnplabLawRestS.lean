/- The walk of RestShares: it answers true, whatever it is handed. -/
import Derived.Test.YthbobmanicnplabHBegun
import Derived.Test.YthbobmanicnplabAppAll
namespace Go.Proofs.Ythbobmanicnplab
open Go.RowKit Go.BigFrame Go.Sort

theorem Row1.news {w : World} {a : Option Addr} {l : List Int} (h : Row1 w a l) : ∀ ad, a = some ad → ∀ j u, (l.map (Value.int .i64))[j]? = some u → w.cell? (ad.add j) = some u := by
  rintro ad rfl j u hj
  have hjl : j < l.length := by
    rcases Nat.lt_or_ge j l.length with c | c
    · exact c
    · rw [List.getElem?_eq_none (by simpa using c)] at hj; cases hj
  rcases h with rfl | ⟨b, off, e, hlt, hc⟩
  · simp at hjl
  · cases e
    have := hc j hjl
    have e2 : (⟨b, off, none⟩ : Addr).add j = ⟨b, off + j, none⟩ := by cases j with
      | zero => rfl
      | succ j => simp [Addr.add]
    rw [e2, this]
    simp [List.getElem?_eq_getElem hjl] at hj
    subst hj
    simp [List.getD, List.getElem?_eq_getElem hjl]
theorem ints_one (l : List Int) : ∀ u ∈ l.map (Value.int .i64), u.oneCell' = true := by
  intro u hu
  simp only [List.mem_map] at hu
  obtain ⟨x, _, rfl⟩ := hu
  rfl
theorem OwnI.join {w wr w1 : World} {B : Nat} {v v' : Value} {xs ys : List Int} (hB : B ≤ wr.heap.size) (hown : OwnI wr B v xs) (hnx : Below B w wr)
    (hown' : w1.ownsRow B 3 1 v' (xs.length + ys.length) (xs.map (Value.int .i64) ++ ys.map (Value.int .i64))) (hgrow : wr.grownBy w1 v.ownBlock) :
    OwnI w1 B v' (xs ++ ys) ∧ Below B w w1 :=
  ⟨by unfold OwnI; rw [List.map_append, List.length_append]; exact hown', hnx.grown hgrow hB (fun j hj => (World.ownsRow.lt hown j hj).1)⟩
theorem OwnI.some {w : World} {B : Nat} {v : Value} {xs : List Int} {x : Int} (h : OwnI w B v (xs ++ [x])) : ∃ g cap, v = .slice (some ⟨g, 0, none⟩) (xs.length + 1) cap ∧ B ≤ g ∧ g < w.heap.size ∧ xs.length + 1 ≤ cap := by
  have e : (xs ++ [x]).length = xs.length + 1 := by simp
  have hlt := World.ownsRow.lt h
  unfold OwnI at h
  rw [e] at h
  rcases h.2 with ⟨_, h2⟩ | ⟨g, cap, cur, h1, h2, _, h3, _⟩
  · omega
  · exact ⟨g, cap, h1, h2, by subst h1; exact (hlt g rfl).2, h3⟩
theorem OwnI.at {w : World} {B n c : Nat} {a : Option Addr} {xs : List Int} (h : OwnI w B (.slice a n c) xs) : Row1 w a xs := by
  obtain ⟨a', c', e, r⟩ := h.row
  obtain ⟨rfl, _, _⟩ := Value.slice.inj e
  exact r
theorem Row1.front {w : World} {a : Option Addr} {l : List Int} {x : Int} (h : Row1 w a (l ++ [x])) : Row1 w a l := by
  rcases h with h | ⟨b, off, rfl, hlt, hc⟩
  · simp at h
  · refine .inr ⟨b, off, rfl, hlt, fun i hi => ?_⟩
    have := hc i (by simp; omega)
    rw [List.getD_eq_getElem?_getD, List.getElem?_append_left hi, ← List.getD_eq_getElem?_getD] at this
    exact this
theorem make_int_row (W : World) (n : Nat) (h : n * 8 ≤ 140737488351232) : ∃ wn, (Instr.makeSlice 22 (.int .i64 0) (.int .i64 ((n : Int) + 1))).run Try.prog W = .ok (.slice (some ⟨W.heap.size, 0, none⟩) 0 (n + 1)) wn ∧
    OwnI wn W.heap.size (.slice (some ⟨W.heap.size, 0, none⟩) 0 (n + 1)) [] ∧ Below W.heap.size W wn := by
  obtain ⟨i0, hi, hz0, hz1, hz2⟩ := info_parts infoInt
  obtain ⟨wm, hmk, own0, grow0⟩ := run_make_own (P := Try.prog) W W.heap.size 22 3 i0 _ 1 Try.underlying22 hi hz0 hz1 .i64 .i64 (n + 1) (by rw [hz2]; omega) (by unfold maxLen; omega) (Nat.le_refl _)
  exact ⟨wm, hmk, own0, (Below.refl _ W).grown grow0 (Nat.le_refl _) (fun j hj => by cases hj)⟩
/-- a slice that may be written, its block from B on -/
def FreeI (W : World) (B : Nat) (a : Option Addr) (n : Nat) : Prop := n = 0 ∨ ∃ g, a = some ⟨g, 0, none⟩ ∧ B ≤ g ∧ ∃ F, RowI W g n F
theorem OutI.free {w w' : World} {v : Value} {xs : List Int} (h : OutI w w' v xs) (hl : xs.length ≤ 32) : ∃ a n c, v = .slice a n c ∧ n ≤ 32 ∧ FreeI w' w.heap.size a n := by
  rcases h with ⟨rfl, rfl⟩ | ⟨g, rfl, hg, hr⟩
  · exact ⟨none, 0, 0, rfl, by omega, .inl rfl⟩
  · exact ⟨_, _, _, rfl, hl, .inr ⟨g, rfl, hg, _, hr⟩⟩
theorem FreeI.on {W W' : World} {B B' : Nat} {a : Option Addr} {n : Nat} (h : FreeI W B a n) (hb : Below W.heap.size W W') (hB : B' ≤ B) : FreeI W' B' a n := by
  rcases h with h | ⟨g, h1, h2, F, h3⟩
  · exact .inl h
  · exact .inr ⟨g, h1, Nat.le_trans hB h2, F, h3.below hb⟩
theorem FreeI.set {W : World} {B : Nat} {a : Option Addr} {n : Nat} (h : FreeI W B a n) (b k : Nat) (x : Int) : FreeI (W.setCell ⟨b, k, none⟩ (.int .i64 x)) B a n := by
  rcases h with h | ⟨g, h1, h2, F, h3⟩
  · exact .inl h
  · by_cases e : g = b
    · subst e; exact .inr ⟨g, h1, h2, _, h3.set k x⟩
    · exact .inr ⟨g, h1, h2, F, h3.setOther e k _⟩
theorem FreeI.cell {W : World} {B : Nat} {a : Option Addr} {n : Nat} (h : FreeI W B a n) {k : Nat} (hk : k < n) : ∃ g u, a = some ⟨g, 0, none⟩ ∧ B ≤ g ∧ W.cell? ⟨g, k, none⟩ = some (.int .i64 u) ∧ W.frozen? ⟨g, k, none⟩ = false := by
  rcases h with h | ⟨g, h1, h2, F, h3⟩
  · omega
  · exact ⟨g, F k, h1, h2, h3.cell hk, h3.frozen k⟩
theorem pHam_free (T : Int) (l : List Int) (a : Option Addr) (cap : Nat) (w : World) (hl : l.length ≤ maxLen) (hr : Row1 w a l) :
    Calls Try.prog 4 #[.int .i64 T, .slice a l.length cap] w fun e w' => ∃ a' n' c' q, e = .returned (.tuple #[.slice a' n' c', .int .i64 q]) ∧ n' ≤ 32 ∧ FreeI w' w.heap.size a' n' ∧ Below w.heap.size w w' := by
  refine (pHamilton T l a cap w hl hr).mono ?_
  rintro e w' ⟨v, rfl, ho, hb⟩
  obtain ⟨a', n', c', rfl, h1, h2⟩ := ho.free (by unfold Shr.ham; split; (· rename_i h; have := (Shr.ok_of T l h).len; simp; omega); (· simp))
  exact ⟨a', n', c', _, rfl, h1, h2, hb⟩
theorem pJeff_free (T : Int) (l : List Int) (a : Option Addr) (cap : Nat) (w : World) (hl : l.length ≤ maxLen) (hr : Row1 w a l) :
    Calls Try.prog 5 #[.int .i64 T, .slice a l.length cap] w fun e w' => ∃ a' n' c' q, e = .returned (.tuple #[.slice a' n' c', .int .i64 q]) ∧ n' ≤ 32 ∧ FreeI w' w.heap.size a' n' ∧ Below w.heap.size w w' := by
  refine (pJefferson T l a cap w hl hr).mono ?_
  rintro e w' ⟨v, rfl, ho, hb⟩
  obtain ⟨a', n', c', rfl, h1, h2⟩ := ho.free (by unfold Shr.jeff; split; (· rename_i h; have := (Shr.ok_of T l h).len; simp; omega); (· simp))
  exact ⟨a', n', c', _, rfl, h1, h2, hb⟩
set_option maxRecDepth 100000 in
set_option maxHeartbeats 2000000 in
theorem restShares_any (T : Int) (l : List Int) (a : Option Addr) (cap : Nat) (w : World) (hz : l.length * 8 ≤ 140737488351232) (hna : a = none → cap = 0 ∧ l = []) (hr : Row1 w a l) :
    Calls Try.prog 3 #[.int .i64 T, .slice a l.length cap] w fun e w' => e = .returned (.bool true) ∧ Below w.heap.size w w' := by
  obtain ⟨i0, hi, hz0, hz1, hz2⟩ := info_parts infoInt
  have HI : Hid (Try.prog.info? 3 = some i0 ∧ i0.zero = some (.int .i64 0) ∧ i0.size = 1 ∧ i0.bytes = 8) := ⟨hi, hz0, hz1, hz2⟩
  clear hi hz0 hz1 hz2
  obtain ⟨wm, hmk, own0, Bm⟩ := make_int_row w l.length hz
  have NA : Hid (a = none → cap = 0 ∧ l = []) := hna
  have rm := hr.below Bm
  have HR : Hid (Row1 w a l) := hr
  clear hna hr
  go_enter Try.func3, Try.ntmps3
  go_wp2_with (first
    | (at_builtin; refine wpList_append_all _ rfl (.tmp 15) (.tmp 16) 22 rfl w.heap.size 3 i0 _ 1 8 Try.underlying22 HI.out.1 HI.out.2.1 HI.out.2.2.1 HI.out.2.2.2 rfl (by decide) _ _ _ rfl own0 a l.length cap (l.map (Value.int .i64)) rfl (fun e => ⟨by rw [(NA.out e).2]; rfl, (NA.out e).1⟩) (by simp) rm.news (ints_one l) (by unfold maxLen; simp; omega) (by simp; omega) Bm.size ?_; intro v1 w1 own1 grow1; have R1 := OwnI.join (ys := l) Bm.size own0 Bm own1 grow1; rw [List.nil_append] at R1; clear own1 grow1 own0 hmk)
    | (at_builtin; refine wpList_append_own _ rfl (.tmp 17) (.tmp 18) 22 rfl w.heap.size 3 i0 _ 1 8 Try.underlying22 HI.out.1 HI.out.2.1 HI.out.2.2.1 HI.out.2.2.2 rfl (by decide) _ _ _ rfl (World.ownsRow.alloc R1.1 _) ⟨w1.heap.size, 0, none⟩ 1 1 [.int .i64 77] rfl rfl (cell1_new _ _ _) (one1 _) (by unfold maxLen; omega) (by omega) (by simp; have := R1.2.size; omega) ?_; intro v2 w2 own2 grow2 nil2; clear nil2; have R2 := OwnI.keep R1.2.size R1.1 R1.2 own2 grow2; obtain ⟨g2, k2, rfl, hg2, hgl2, hk2⟩ := OwnI.some R2.1; have hk2' : (l.length : Int) ≤ (k2 : Int) := (by omega); clear own2 grow2 R1))
  have ml : l.length ≤ maxLen := by unfold maxLen; omega
  have rs := OwnI.at R2.1
  have B2 := R2.2
  have HRS : Hid (Row1 w2 (some ⟨g2, 0, none⟩) (l ++ [77])) := rs
  have HB2 : Hid (Below w.heap.size w w2) := B2
  have kz : (l.length : Int) + 1 ≤ (k2 : Int) := by omega
  clear R2 rm Bm rs B2
  refine (pHam_free T l _ _ _ ml HRS.out.front).mono ?_; rintro e w3 ⟨a3, n3, c3, q3, rfl, h3, f3, b3⟩
  go_wp2_with fail
  refine (pJeff_free T l _ _ _ ml (HRS.out.below b3).front).mono ?_; rintro e w4 ⟨a4, n4, c4, q4, rfl, h4, f4, b4⟩
  replace f3 := f3.on b4 (Nat.le_refl _)
  replace f4 := f4.on (Below.refl _ _) b3.size
  have B4 := below_on b3 (Nat.le_refl _) b4
  clear b3 b4
  go_wp2_with fail
  refine (hbegun_any _).mono ?_; rintro e w5 ⟨rfl, b5⟩
  replace f3 := f3.on b5 (Nat.le_refl _)
  replace f4 := f4.on b5 (Nat.le_refl _)
  have B5 := below_on B4 (Nat.le_refl _) b5
  clear b5 B4
  go_wp2
  go_loopw [10] (fun iv wr => ∃ i : Nat, i ≤ n3 ∧ iv = .int .i64 i ∧ FreeI wr w2.heap.size a3 n3 ∧ FreeI wr w2.heap.size a4 n4 ∧ Below w2.heap.size w2 wr) (fun iv _ => n3 - (intOf iv).toNat)
  case atStart => exact ⟨0, Nat.zero_le _, rfl, f3, f4, B5⟩
  case round =>
    clear f3 f4 B5
    obtain ⟨i, hi, rfl, f3, f4, Bw⟩ := hrel
    by_cases hlt : i < n3
    · obtain ⟨g, u, rfl, hg, cg, fg⟩ := f3.cell hlt
      have iz : (i : Int) < (n3 : Int) := by omega
      have H3 : Hid (FreeI wr w2.heap.size (some ⟨g, 0, none⟩) n3) := f3
      have H4 : Hid (FreeI wr w2.heap.size a4 n4) := f4
      have HBw : Hid (Below w2.heap.size w2 wr) := Bw
      clear f3 f4 Bw
      go_wp2
      go_roundw
      case rel => exact ⟨i + 1, by omega, by go_num, H3.out.set g i (-5), H4.out.set g i (-5), below_set HBw.out hg i _⟩
      case measure => simp [intOf]; omega
    · obtain rfl : i = n3 := by omega
      go_wp2
      go_loopw [11] (fun iv wr2 => ∃ j : Nat, j ≤ n4 ∧ iv = .int .i64 j ∧ FreeI wr2 w2.heap.size a4 n4 ∧ Below w2.heap.size w2 wr2) (fun iv _ => n4 - (intOf iv).toNat)
      case atStart => exact ⟨0, Nat.zero_le _, rfl, f4, Bw⟩
      case round =>
        clear f4 f3 Bw
        obtain ⟨j, hj, rfl, f4, Bw⟩ := hrel
        by_cases hlt2 : j < n4
        · obtain ⟨g, u, rfl, hg, cg, fg⟩ := f4.cell hlt2
          have jz : (j : Int) < (n4 : Int) := by omega
          have H4 : Hid (FreeI wr w2.heap.size (some ⟨g, 0, none⟩) n4) := f4
          have HBw : Hid (Below w2.heap.size w2 wr) := Bw
          clear f4 Bw
          go_wp2
          go_roundw
          case rel => exact ⟨j + 1, by omega, by go_num, H4.out.set g j (-6), below_set HBw.out hg j _⟩
          case measure => simp [intOf]; omega
        · obtain rfl : j = n4 := by omega
          have rs := HRS.out.below Bw
          have rl := HR.out.below (below_on HB2.out (Nat.le_refl _) Bw)
          have Bz := below_on HB2.out (Nat.le_refl _) Bw
          go_wp2_with fail
          refine (hSame l _ _ _ _ _ ml rs.front rl).mono ?_; rintro e w6 ⟨rfl, b6⟩
          have rs6 := rs.below b6
          have B6 := below_on Bz (Nat.le_refl _) b6
          obtain ⟨b', o', x, e', -, hx, c77⟩ := rs6.at (k := l.length) (by simp)
          obtain ⟨rfl, rfl⟩ : g2 = b' ∧ 0 = o' := by simpa using e'
          obtain rfl : x = 77 := by simpa using hx.symm
          rw [Nat.zero_add] at c77
          clear e' hx rs rs6 rl Bz b6 f4 Bw
          go_wp2
          go_ret
          exact ⟨rfl, B6⟩
end Go.Proofs.Ythbobmanicnplab
