/- What package term and the reference answer, in one word each, whatever they are handed; and the world of a law. -/
import Derived.Test.YthojffiajlpneaaDoorTBegun
namespace Go.Proofs.YthojffiajlpneaaDoor
open Go.RowKit Go.BigFrame

namespace Trm
/-- what Nth answers: a day, or why not -/
def NthIs (s u n k x c : Int) : Prop :=
  (bad u n s k 1000 = c ∧ c ≠ 0 ∧ x = 0) ∨ (∃ y m d, Cal.vld y m d ∧ Cal.num y m d = s ∧ 1 ≤ u ∧ u ≤ 4 ∧ 1 ≤ n ∧ n ≤ 120 ∧ 0 ≤ k ∧ k ≤ 1000 ∧ day y m d u n k = x ∧ over x = c)
def FindIs (s u n N x c : Int) : Prop :=
  (fbad u n s N = c ∧ c ≠ 0 ∧ x = 0) ∨ (∃ (y m d : Int) (K : Nat), Cal.vld y m d ∧ Cal.num y m d = s ∧ 1 ≤ u ∧ u ≤ 4 ∧ 1 ≤ n ∧ n ≤ 120 ∧ s ≤ N ∧ N ≤ 3652059 ∧ K ≤ 1001 ∧ (∀ t, t < K → ends y m d u n N t = false) ∧ (∀ t, K ≤ t → t < 1001 → ends y m d u n N t = true) ∧ ((K ≤ 1000 ∧ x = K ∧ c = 0) ∨ (1000 < K ∧ x = 0 ∧ c = 2)))
def FullIs (s u n k : Int) (l : List Spn.Sp) (c : Int) : Prop :=
  (bad u n s k 64 = c ∧ c ≠ 0 ∧ l = []) ∨ (∃ (y m d : Int) (M : Nat), Cal.vld y m d ∧ Cal.num y m d = s ∧ 1 ≤ u ∧ u ≤ 4 ∧ 1 ≤ n ∧ n ≤ 120 ∧ k = M ∧ M ≤ 64 ∧ over (day y m d u n M) = c ∧ full y m d u n M = l)
theorem nth_ex (s u n k : Int) : ∃ x c, NthIs s u n k x c := by
  by_cases h : bad u n s k 1000 = 0
  · obtain ⟨h1, h2, h3, h4, h5⟩ := bad_zero _ _ _ _ _ h
    obtain ⟨a, b, c, d⟩ := chk_zero _ _ h1
    obtain ⟨y, m, dd, hv, hn⟩ := Cal.ex_date s h2 h3
    exact ⟨_, _, .inr ⟨y, m, dd, hv, hn, a, b, c, d, h4, h5, rfl, rfl⟩⟩
  · exact ⟨0, _, .inl ⟨rfl, h, rfl⟩⟩
theorem find_is_ex (s u n N : Int) : ∃ x c, FindIs s u n N x c := by
  by_cases h : fbad u n s N = 0
  · obtain ⟨h1, h2, h3, h4⟩ := fbad_zero _ _ _ _ h
    obtain ⟨a, b, c, d⟩ := chk_zero _ _ h1
    obtain ⟨y, m, dd, hv, hn⟩ := Cal.ex_date s h2 (by omega)
    obtain ⟨K, k1, k2, k3⟩ := find_ex y m dd u n N hv c 1001
    by_cases hK : K ≤ 1000
    · exact ⟨K, 0, .inr ⟨y, m, dd, K, hv, hn, a, b, c, d, h3, h4, k1, k2, k3, .inl ⟨hK, rfl, rfl⟩⟩⟩
    · exact ⟨0, 2, .inr ⟨y, m, dd, K, hv, hn, a, b, c, d, h3, h4, k1, k2, k3, .inr ⟨by omega, rfl, rfl⟩⟩⟩
  · exact ⟨0, _, .inl ⟨rfl, h, rfl⟩⟩
theorem full_is_ex (s u n k : Int) : ∃ l c, FullIs s u n k l c ∧ l.length ≤ 64 := by
  by_cases h : bad u n s k 64 = 0
  · obtain ⟨h1, h2, h3, h4, h5⟩ := bad_zero _ _ _ _ _ h
    obtain ⟨a, b, c, d⟩ := chk_zero _ _ h1
    obtain ⟨y, m, dd, hv, hn⟩ := Cal.ex_date s h2 h3
    have := full_len y m dd u n k.toNat
    exact ⟨_, _, .inr ⟨y, m, dd, k.toNat, hv, hn, a, b, c, d, by omega, by omega, rfl, rfl⟩, by omega⟩
  · exact ⟨[], _, .inl ⟨rfl, h, rfl⟩, by decide⟩
end Trm
theorem nth_is (s u n k x c : Int) (w : World) (hw : Laid w) (h : Trm.NthIs s u n k x c) :
    Calls Tryd.prog 8 #[.int .i64 s, .agg #[.int .i64 u, .int .i64 n], .int .i64 k] w fun e w' => e = .returned (.tuple #[.int .i64 x, .int .i64 c]) ∧ Below w.heap.size w w' := by
  rcases h with ⟨h1, h2, rfl⟩ | ⟨y, m, d, h1, h2, h3, h4, h5, h6, h7, h8, h9, h10⟩
  · exact nth_bad s u n k c w h1 h2
  · exact nth_ok s y m d u n k x c w hw h1 h2 h3 h4 h5 h6 h7 h8 h9 h10
theorem find_is (s u n N x c : Int) (w : World) (hw : Laid w) (h : Trm.FindIs s u n N x c) :
    Calls Tryd.prog 9 #[.int .i64 s, .agg #[.int .i64 u, .int .i64 n], .int .i64 N] w fun e w' => e = .returned (.tuple #[.int .i64 x, .int .i64 c]) ∧ Below w.heap.size w w' := by
  rcases h with ⟨h1, h2, rfl⟩ | ⟨y, m, d, K, h1, h2, h3, h4, h5, h6, h7, h8, h9, h10, h11, h12⟩
  · exact find_bad s u n N c w h1 h2
  · exact find_ok s y m d u n N x c K w hw h1 h2 h3 h4 h5 h6 h7 h8 h9 h10 h11 h12
theorem full_is (s u n k : Int) (l : List Spn.Sp) (c : Int) (w : World) (hw : Laid w) (h : Trm.FullIs s u n k l c) :
    Calls Tryd.prog 10 #[.int .i64 s, .agg #[.int .i64 u, .int .i64 n], .int .i64 k] w fun e w' => ∃ a cap, e = .returned (.tuple #[.slice a l.length cap, .int .i64 c]) ∧ Row2 w' a l ∧ Below w.heap.size w w' := by
  rcases h with ⟨h1, h2, rfl⟩ | ⟨y, m, d, M, h1, h2, h3, h4, h5, h6, rfl, h8, h9, h10⟩
  · exact (full_bad s u n k c w h1 h2).mono fun _ _ g => ⟨none, 0, g.1, .inl rfl, g.2⟩
  · exact full_at s y m d u n M c l w hw h1 h2 h3 h4 h5 h6 h8 h9 h10
theorem refNth_is (s u n k x c : Int) (w : World) (h : Trm.NthIs s u n k x c) :
    Calls Tryd.prog 11 #[.int .i64 s, .agg #[.int .i64 u, .int .i64 n], .int .i64 k] w fun e w' => e = .returned (.tuple #[.int .i64 x, .int .i64 c]) ∧ Below w.heap.size w w' := by
  rcases h with ⟨h1, h2, rfl⟩ | ⟨y, m, d, h1, h2, h3, h4, h5, h6, h7, h8, h9, h10⟩
  · exact refNth_bad s u n k c w h1 h2
  · exact refNth_ok s y m d u n k x c w h1 h2 h3 h4 h5 h6 h7 h8 h9 h10
theorem refFind_is (s u n N x c : Int) (w : World) (h : Trm.FindIs s u n N x c) :
    Calls Tryd.prog 12 #[.int .i64 s, .agg #[.int .i64 u, .int .i64 n], .int .i64 N] w fun e w' => e = .returned (.tuple #[.int .i64 x, .int .i64 c]) ∧ Below w.heap.size w w' := by
  rcases h with ⟨h1, h2, rfl⟩ | ⟨y, m, d, K, h1, h2, h3, h4, h5, h6, h7, h8, h9, h10, h11, h12⟩
  · exact refFind_bad s u n N c w h1 h2
  · exact refFind_ok s y m d u n N x c K w h1 h2 h3 h4 h5 h6 h7 h8 h9 h10 h11 h12
theorem refFull_is (s u n k : Int) (l : List Spn.Sp) (c : Int) (w : World) (h : Trm.FullIs s u n k l c) :
    Calls Tryd.prog 13 #[.int .i64 s, .agg #[.int .i64 u, .int .i64 n], .int .i64 k] w fun e w' => ∃ a cap, e = .returned (.tuple #[.slice a l.length cap, .int .i64 c]) ∧ Row2 w' a l ∧ Below w.heap.size w w' := by
  rcases h with ⟨h1, h2, rfl⟩ | ⟨y, m, d, M, h1, h2, h3, h4, h5, h6, rfl, h8, h9, h10⟩
  · exact (refFull_bad s u n k c w h1 h2).mono fun _ _ g => ⟨none, 0, g.1, .inl rfl, g.2⟩
  · subst h9 h10
    refine (refFull_ok s y m d u n M w h1 h2 h3 h4 h5 h6 h8).mono ?_
    rintro e w' ⟨v, rfl, own, b⟩
    obtain ⟨a, cap, rfl, -, row⟩ := OwnS.row own
    exact ⟨a, cap, rfl, row, b⟩
/-- the world of a law that is handed a term: its box, the table, what lay there -/
structure TL (w : World) (u n : Int) (W : World) : Prop where
  below : Below (w.alloc (.cells #[.int .i64 u, .int .i64 n] 23)).heap.size (w.alloc (.cells #[.int .i64 u, .int .i64 n] 23)) W
  laid : Laid w
theorem TL.new {w : World} {u n : Int} (hw : Laid w) : TL w u n (w.alloc (.cells #[.int .i64 u, .int .i64 n] 23)) := ⟨Below.refl _ _, hw⟩
theorem TL.on {w W W' : World} {u n : Int} (h : TL w u n W) (hb : Below W.heap.size W W') : TL w u n W' := ⟨below_next h.below (Nat.le_refl _) hb, h.laid⟩
theorem TL.lay {w W : World} {u n : Int} (h : TL w u n W) : Laid W := (h.laid.alloc _).below h.below
theorem TL.fin {w W : World} {u n : Int} (h : TL w u n W) : Below w.heap.size w W := below_next (below_box _ _) (Nat.le_refl _) h.below
theorem TL.cells {w W : World} {u n : Int} (h : TL w u n W) : W.cell? ⟨w.heap.size, 0, none⟩ = some (.int .i64 u) ∧ W.cell? ⟨w.heap.size, 1, none⟩ = some (.int .i64 n) := by
  obtain ⟨a, b⟩ := has2_new w u n 23
  exact ⟨by rw [(bcell h.below).1 _ _ (by simp)]; exact a, by rw [(bcell h.below).1 _ _ (by simp)]; exact b⟩
end Go.Proofs.YthojffiajlpneaaDoor
