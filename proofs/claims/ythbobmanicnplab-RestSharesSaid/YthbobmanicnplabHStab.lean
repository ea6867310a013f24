/- The walks of the library's stable sort (slices.SortStableFunc) at rows of at most 39. -/
import Derived.Test.YthbobmanicnplabHSym2
namespace Go.Proofs.Ythbobmanicnplab
open Go.RowKit Go.BigFrame Go.Sort
variable {lt : Int → Int → Prop}

theorem sym_any (g : Nat) (cb : Array Value) (B : Nat) (w0 : World) (N : Int) (C : CmpOk g cb B w0 N lt) (o : Srt.Ord lt) (b n cap : Nat) (hn : n ≤ 64) (hBb : B ≤ b) :
    ∀ (d a m z : Nat), z - a ≤ d → a < m → m < z → z ≤ n → SymIs g cb B w0 N lt b n cap a m z := by
  intro d
  induction d with
  | zero => intro a m z h h1 h2; omega
  | succ d ih =>
    intro a m z hd h1 h2 hz F w hinv hr s1 s2 hl rng
    by_cases c1 : m = a + 1
    · subst c1
      exact sym_left g cb B w0 N C o b n cap a (a + 1) z F w hn rfl (by omega) hz hBb hinv hr s2 hl rng
    by_cases c2 : z = m + 1
    · subst c2
      exact sym_right g cb B w0 N C o b n cap a m (m + 1) F w hn (by omega) rfl hz hBb hinv hr s1 hl rng
    have ih' : ∀ a' m' z', a ≤ a' → a' < m' → m' < z' → z' ≤ z → z' - a' < z - a → SymIs g cb B w0 N lt b n cap a' m' z' := fun a' m' z' h1 h2 h3 h4 h5 => ih a' m' z' (by omega) h2 h3 (by omega)
    by_cases c3 : (a + z) / 2 < m
    · exact sym_gen g cb B w0 N C o b n cap a m z ((a + z) / 2) ((a + z) / 2 + m) ((a + z) / 2 + m - 1) ((a + z) / 2 + m - z) ((a + z) / 2) F w hn (by omega) (by omega) hz hBb (by omega) (by omega) (by omega) (.inl ⟨by omega, by omega, rfl⟩)
        ⟨h1, h2, rfl, by omega, .inl ⟨c3, by omega, rfl⟩⟩ hinv hr s1 s2 hl rng ih'
    · exact sym_gen g cb B w0 N C o b n cap a m z ((a + z) / 2) ((a + z) / 2 + m) ((a + z) / 2 + m - 1) a m F w hn (by omega) (by omega) hz hBb (by omega) (by omega) (by omega) (.inr ⟨by omega, rfl, rfl⟩)
        ⟨h1, h2, rfl, by omega, .inr ⟨by omega, rfl, rfl⟩⟩ hinv hr s1 s2 hl rng ih'
set_option maxHeartbeats 4000000 in
set_option maxRecDepth 100000 in
theorem stable_any (g : Nat) (cb : Array Value) (B : Nat) (w0 : World) (N : Int) (C : CmpOk g cb B w0 N lt) (o : Srt.Ord lt) (b n cap : Nat) (F : Nat → Int) (w : World) (hn : n ≤ 39) (hBb : B ≤ b)
    (hinv : Below B w0 w) (hr : RowI w b n F) (asc : ∀ i j, i < j → j < n → F i < F j) (rng : ∀ i, i < n → 0 ≤ F i ∧ F i < N) :
    Calls Try.prog 17 #[.slice (some ⟨b, 0, none⟩) n cap, .int .i64 n, .func (.func g) #[] cb] w fun e w' => e = .returned (.tuple #[]) ∧ ∃ G, RowI w' b n G ∧ Srt.Sorted lt G 0 n ∧ Srt.Same G F 0 n ∧ w.grownBy w' (some b) := by
  have hn64 : n ≤ 64 := by omega
  by_cases h20 : n < 20
  · have HI1 := insert_any g cb B w0 N C o b n cap 0 n F w hn64 (Nat.zero_le _) (Nat.le_refl _) hBb hinv hr (fun i j _ h2 h3 => asc i j h2 h3) rng
    clear C hinv hr asc rng
    go_enter Try.func17, Try.ntmps17
    go_wp2
    go_loop [7, 8] (fun av bv => av = .int .i64 0 ∧ bv = .int .i64 20) (fun _ _ => 0)
    case atStart => exact ⟨rfl, rfl⟩
    case round =>
      obtain ⟨rfl, rfl⟩ := hrel
      go_wp2_with fail
      refine HI1.mono ?_
      rintro e w1 ⟨rfl, G, R, M, K⟩
      go_wp2
      go_loopw [6] (fun v wr => v = .int .i64 20 ∧ RowI wr b n G ∧ w.grownBy wr (some b)) (fun _ _ => 0)
      case atStart => exact ⟨rfl, R, K⟩
      case round =>
        clear R K
        obtain ⟨rfl, R, K⟩ := hrel
        go_wp2
        go_end0
        exact ⟨rfl, G, R, M.1, M.2.1, K⟩
  · have HI1 := insert_any g cb B w0 N C o b n cap 0 20 F w hn64 (Nat.zero_le _) (by omega) hBb hinv hr (fun i j _ h2 h3 => asc i j h2 (by omega)) rng
    have HC : Hid (CmpOk g cb B w0 N lt) := C
    have HI : Hid (Below B w0 w ∧ B ≤ w0.heap.size) := ⟨hinv, C.hB⟩
    have HA : Hid (∀ i j, i < j → j < n → F i < F j) := asc
    have HN : Hid (∀ i, i < n → 0 ≤ F i ∧ F i < N) := rng
    have hnz : (20 : Int) ≤ (n : Int) := by omega
    have hnz2 : (n : Int) < 40 := by omega
    clear C hinv hr asc rng
    go_enter Try.func17, Try.ntmps17
    go_wp2
    go_loopw [7, 8] (fun av bv wr => (av = .int .i64 0 ∧ bv = .int .i64 20 ∧ wr = w) ∨ (av = .int .i64 20 ∧ bv = .int .i64 40 ∧ ∃ G, RowI wr b n G ∧ Hid (Srt.Merged lt G F 0 20) ∧ w.grownBy wr (some b))) (fun _ bv _ => 40 - (intOf bv).toNat)
    case atStart => exact .inl ⟨rfl, rfl, rfl⟩
    case round =>
      rcases hrel with ⟨rfl, rfl, rfl⟩ | ⟨rfl, rfl, G, R, HM, K⟩
      · go_wp2_with fail
        refine HI1.mono ?_
        rintro e w1 ⟨rfl, G, R, M, K⟩
        go_wp2
        go_roundw
        case rel => exact .inr ⟨rfl, rfl, G, R, M, K⟩
        case measure => simp [intOf]
      · clear HI1
        have I1 := below_grown HI.out.1 (Nat.le_trans HI.out.2 HI.out.1.size) hBb K
        have asc2 : ∀ i j, 20 ≤ i → i < j → j < n → G i < G j := fun i j h1 h2 h3 => by
          rw [HM.out.2.2 i (.inr h1), HM.out.2.2 j (.inr (by omega))]; exact HA.out i j h2 h3
        have rng2 := Srt.rng_of HM.out.2.1 HM.out.2.2 (show 20 ≤ n by omega) HN.out
        have HI2 := insert_any g cb B w0 N HC.out o b n cap 20 n G _ hn64 (by omega) (Nat.le_refl _) hBb I1 R asc2 rng2
        clear asc2 R
        go_wp2_with fail
        refine HI2.mono ?_
        rintro e w2 ⟨rfl, G2, R2, M2, K2'⟩
        have K2 := K.trans K2'
        have I2 := below_grown HI.out.1 (Nat.le_trans HI.out.2 HI.out.1.size) hBb K2
        have hlr : Srt.Lr G2 0 20 n := fun i j h1 h2 h3 h4 => by
          rw [M2.2.2 i (.inl h2)]
          obtain ⟨i', a1, a2, a3⟩ := HM.out.2.1.1 i h1 h2
          obtain ⟨j', b1, b2, b3⟩ := M2.2.1.1 j h3 h4
          rw [a3, b3, HM.out.2.2 j' (.inr b1)]
          exact HA.out i' j' (by omega) b2
        have hs1 : Srt.Sorted lt G2 0 20 := HM.out.1.eq (fun k _ h2 => M2.2.2 k (.inl h2))
        have rng3 := Srt.rng_of M2.2.1 M2.2.2 (Nat.le_refl _) rng2
        have same2 : Srt.Same G2 F 0 n := (M2.2.1.wide M2.2.2 (Nat.zero_le _) (Nat.le_refl _)).trans (HM.out.2.1.wide HM.out.2.2 (Nat.le_refl _) (by omega))
        have HG : Hid (Srt.Sorted lt G2 0 20 ∧ Srt.Sorted lt G2 20 n ∧ Srt.Lr G2 0 20 n ∧ (∀ i, i < n → 0 ≤ G2 i ∧ G2 i < N) ∧ Srt.Same G2 F 0 n) := ⟨hs1, M2.1, hlr, rng3, same2⟩
        clear HI2 K2' hlr hs1 rng3 same2 rng2 HM I1 M2 K
        go_wp2
        go_loopw [6] (fun v wr => (v = .int .i64 20 ∧ wr = w2) ∨ (v = .int .i64 40 ∧ ∃ H, RowI wr b n H ∧ Hid (Srt.Sorted lt H 0 n ∧ Srt.Same H F 0 n) ∧ w.grownBy wr (some b))) (fun v _ => 40 - (intOf v).toNat)
        case atStart => exact .inl ⟨rfl, rfl⟩
        case round =>
          rcases hrel with ⟨rfl, rfl⟩ | ⟨rfl, H, R, HH, K⟩
          · by_cases h21 : 20 < n
            · have h21z : (20 : Int) < (n : Int) := by omega
              have HX := sym_any g cb B w0 N HC.out o b n cap hn64 hBb n 0 20 n (by omega) (by omega) h21 (Nat.le_refl _) G2 _ I2 R2 HG.out.1 HG.out.2.1 HG.out.2.2.1 HG.out.2.2.2.1
              go_wp2
              go_loop [7, 8] (fun av bv => av = .int .i64 0 ∧ bv = .int .i64 40) (fun _ _ => 0)
              case atStart => exact ⟨rfl, rfl⟩
              case round =>
                obtain ⟨rfl, rfl⟩ := hrel
                go_wp2_with fail
                refine HX.mono ?_
                rintro e w3 ⟨rfl, H, R, M, K'⟩
                go_wp2
                go_roundw
                case rel => exact .inr ⟨rfl, H, R, ⟨M.1, M.2.1.trans HG.out.2.2.2.2⟩, K2.trans K'⟩
                case measure => simp [intOf]
            · have hn20 : (n : Int) ≤ 20 := by omega
              have hns : n = 20 := by omega
              have HF : Hid (Srt.Sorted lt G2 0 n ∧ Srt.Same G2 F 0 n) := ⟨by rw [hns]; exact HG.out.1, HG.out.2.2.2.2⟩
              clear hns
              go_wp2
              go_end0
              exact ⟨rfl, G2, R2, HF.out.1, HF.out.2, K2⟩
          · go_wp2
            go_end0
            exact ⟨rfl, H, R, HH.out.1, HH.out.2, K⟩
theorem sortStable_any (g : Nat) (cb : Array Value) (B : Nat) (w0 : World) (N : Int) (C : CmpOk g cb B w0 N lt) (o : Srt.Ord lt) (b n cap : Nat) (F : Nat → Int) (w : World) (hn : n ≤ 39) (hBb : B ≤ b)
    (hinv : Below B w0 w) (hr : RowI w b n F) (asc : ∀ i j, i < j → j < n → F i < F j) (rng : ∀ i, i < n → 0 ≤ F i ∧ F i < N) :
    Calls Try.prog 11 #[.slice (some ⟨b, 0, none⟩) n cap, .func (.func g) #[] cb] w fun e w' => e = .returned (.tuple #[]) ∧ ∃ G, RowI w' b n G ∧ Srt.Sorted lt G 0 n ∧ Srt.Same G F 0 n ∧ w.grownBy w' (some b) := by
  have HS := stable_any g cb B w0 N C o b n cap F w hn hBb hinv hr asc rng
  clear C hinv hr asc rng
  go_enter Try.func11, Try.ntmps11
  go_wp2_with fail
  refine HS.mono ?_
  rintro e w1 ⟨rfl, h⟩
  go_wp2
  go_end0
  exact ⟨rfl, h⟩
end Go.Proofs.Ythbobmanicnplab
