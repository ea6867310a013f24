/- The walks of package spell: numbers of so many bits put together anew. -/
import Derived.Test.YthfdaaccopgbeaaSRow
namespace Go.Proofs.Ythfdaaccopgbeaa
open Go.RowKit

theorem infoF : (Try.prog.info? 34).map (fun i => (i.zero, i.size, i.bytes)) = some (some (.int .u8 0), 1, 1) := by kernel_rfl
theorem infoB : (Try.prog.info? 5).map (fun i => (i.zero, i.size, i.bytes)) = some (some (.int .u8 0), 1, 1) := by kernel_rfl

set_option maxRecDepth 100000 in
set_option maxHeartbeats 4000000 in
theorem reg85_any (l : List Nat) (N : Nat) (hN : l.length = N) (ad : Option Addr) (cap : Nat) (w : World) (hl : ∀ n ∈ l, n < 256) (hlen : N ≤ 200) (hr : RowB w ad l) :
    Calls Try.prog 14 #[.slice ad N cap, .int .i64 8, .int .i64 5] w fun e w' => ∃ v fs x m, e = .returned (.tuple #[v, .int .u64 ((x : Nat) : Int), .int .i64 ((m : Nat) : Int)]) ∧ Sp.Grp 8 5 l fs x m ∧ m < 5 ∧ OwnB w' 34 w.heap.size v fs ∧ Below w.heap.size w w' := by
  obtain ⟨i0, hi, hz0, hz1, hz2⟩ := info_parts infoF
  have HI : Hid (Try.prog.info? 34 = some i0 ∧ i0.zero = some (.int .u8 0) ∧ i0.size = 1 ∧ i0.bytes = 1) := ⟨hi, hz0, hz1, hz2⟩
  have HL : Hid (∀ n ∈ l, n < 256) := hl
  have HR : Hid (RowB w ad l) := hr
  have HN : Hid (l.length = N) := hN
  clear hi hz0 hz1 hz2 hl hr hN
  go_enter Try.func14, Try.ntmps14
  go_wp2
  go_loopw [6, 7, 8, 10, 13] (fun ov xv mv _ iv wr => ∃ k x m fs, k ≤ N ∧ m < 5 ∧ x < 65536 ∧ xv = .int .u64 ((x : Nat) : Int) ∧ mv = .int .i64 ((m : Nat) : Int) ∧ iv = .int .i64 ((k : Nat) : Int) ∧ Hid (Sp.Grp 8 5 (l.take k) fs x m) ∧ OwnB wr 34 w.heap.size ov fs ∧ Below w.heap.size w wr) (fun _ _ _ _ iv _ => N - (intOf iv).toNat)
  case atStart => exact ⟨0, 0, 0, [], Nat.zero_le _, by decide, by decide, rfl, rfl, rfl, Sp.Grp.nil _ _, OwnB.nil _ _ _, Below.refl _ _⟩
  case round =>
    obtain ⟨k, x, m, fs, hk, hm, hx, rfl, rfl, rfl, HG, hown, hnx⟩ := hrel
    have HO : Hid (OwnB wr 34 w.heap.size u6 fs) := hown
    have HX : Hid (Below w.heap.size w wr) := hnx
    clear hown hnx
    by_cases hlt : k < N
    · obtain ⟨ba, off, n, had, hba, hn, hc⟩ := HR.out.at (k := k) (by rw [HN.out]; exact hlt)
      have hcw : wr.cell? ⟨ba, off + k, none⟩ = some (.int .u8 ((n : Nat) : Int)) := (HX.out.cell (p := ⟨ba, off + k, none⟩) hba).trans hc
      have hnl : n < 256 := HL.out n (List.mem_of_getElem? hn)
      have HT : Hid (l.take (k + 1) = l.take k ++ [n]) := by show _ = _; rw [List.take_add_one, hn]; rfl
      have hxm : x < 2 ^ 4 := Nat.lt_of_lt_of_le HG.out.lt (Nat.pow_le_pow_right (by decide) (by omega))
      have HG2 := HG.out.more n hnl
      rw [← HT.out] at HG2
      obtain ⟨Y, hY⟩ : ∃ Y, x * 2 ^ 8 + n = Y := ⟨_, rfl⟩
      have h1 := sh_up x 8 _ (x : Int) 8 rfl rfl (by decide) rfl (show x * 2 ^ 8 < 18446744073709551616 by omega)
      have h2 := or_is x 8 n Y hnl hY (by omega)
      generalize ((x * 2 ^ 8 : Nat) : Int) = U at h1 h2
      rw [hY] at HG2
      have HG3 : Hid (Sp.Grp 8 5 (l.take (k + 1)) fs Y (m + 8)) := HG2
      have hYl : Y < 65536 := by omega
      have hltz : (k : Int) < (N : Int) := by omega
      have hmz : (m : Int) < 5 := by omega
      have hNz : (N : Int) ≤ 200 := by omega
      subst had
      clear HG2 hn hc HG hY HT
      go_wp2
      go_loopw [6, 7, 8] (fun ov xv mv wi => ∃ X M gs, M < 13 ∧ X < 65536 ∧ xv = .int .u64 ((X : Nat) : Int) ∧ mv = .int .i64 ((M : Nat) : Int) ∧ Hid (Sp.Grp 8 5 (l.take (k + 1)) gs X M) ∧ OwnB wi 34 w.heap.size ov gs ∧ Below w.heap.size w wi) (fun _ _ mv _ => (intOf mv).toNat)
      case atStart => exact ⟨Y, m + 8, fs, by omega, hYl, rfl, by go_num, HG3.out, HO.out, HX.out⟩
      case round =>
        obtain ⟨X, M, gs, hM, hX, rfl, rfl, HA, hown, hnx⟩ := hrel
        have HO2 : Hid (OwnB wr 34 w.heap.size u6 gs) := hown
        have HX2 : Hid (Below w.heap.size w wr) := hnx
        have hsz : w.heap.size ≤ wr.heap.size := hnx.size
        have hgl : gs.length ≤ 400 := by
          have e1 := HA.out.len
          have e2 : (l.take (k + 1)).length ≤ 200 := by rw [List.length_take, HN.out]; omega
          omega
        clear hown hnx h1 h2
        by_cases hge : 5 ≤ M
        · obtain ⟨K, rfl⟩ : ∃ K, M = K + 5 := ⟨M - 5, by omega⟩
          have HB : Sp.Grp 8 5 (l.take (k + 1)) (gs ++ [X / 2 ^ K]) (X % 2 ^ K) K := Sp.Grp.take (by have e := HA.out; rw [Nat.add_comm K] at e; exact e)
          obtain ⟨D, hD⟩ : ∃ D, X / 2 ^ K = D := ⟨_, rfl⟩
          obtain ⟨Z, hZ⟩ : ∃ Z, X % 2 ^ K = Z := ⟨_, rfl⟩
          obtain ⟨Q, hQ⟩ : ∃ Q, 2 ^ K = Q + 1 := ⟨2 ^ K - 1, by have := Nat.pow_pos (n := K) (show 0 < 2 by decide); omega⟩
          have hKl : K ≤ 13 := by omega
          have hQl : Q < 65536 := by have := Nat.pow_le_pow_right (n := 2) (by decide) hKl; omega
          have hZl : Z < 65536 := by rw [← hZ]; exact Nat.lt_of_le_of_lt (Nat.mod_le _ _) hX
          rw [hD, hZ] at HB
          have hDl : D < 32 := HB.all D (by simp)
          have r2 : Op.shift .shl .u64 1 .i64 (K : Int) = pure (.int .u64 ((Q : Int) + 1)) := sh_up 1 K (Q + 1) 1 (K : Int) rfl rfl (by omega) (by rw [Nat.one_mul, hQ]) (by omega)
          have r3 := and_is X K Q Z hQ hZ (by omega) (by omega)
          rw [show (((K + 5 : Nat)) : Int) = (K : Int) + 5 from rfl]
          have hgez : (5 : Int) ≤ (K : Int) + 5 := by omega
          have HB2 : Hid (Sp.Grp 8 5 (l.take (k + 1)) (gs ++ [D]) Z K) := HB
          have hDz : (D : Int) < 32 := by omega
          have hQz : (Q : Int) < 65536 := by omega
          have hMz : (K : Int) < 8 := by omega
          have q2 : (D : Int) % 256 = (D : Int) := by omega
          have q3 : (2 : Int) ^ K = (Q : Int) + 1 := by have e : ((2 ^ K : Nat) : Int) = ((Q + 1 : Nat) : Int) := by rw [hQ]
                                                        rw [Int.natCast_pow] at e; exact e
          have q1 : (X : Int) / ((Q : Int) + 1) = (D : Int) := by rw [← hD, hQ, Int.natCast_ediv]; rfl
          have q4 : ((Q : Int) + 1) % 18446744073709551616 = (Q : Int) + 1 := by omega
          clear hD hZ hQ HB HA
          go_wp2_with (at_builtin; refine wpList_append_own _ rfl (.tmp 32) (.tmp 37) 30 rfl w.heap.size 34 i0 (.int .u8 0) 1 1 Try.underlying30 HI.out.1 HI.out.2.1 HI.out.2.2.1 HI.out.2.2.2 rfl (by decide) _ _ _ rfl (World.ownsRow.alloc HO2.out _) ⟨wr.heap.size, 0, none⟩ 1 1 [.int .u8 (D : Int)] rfl rfl (cellB_new _ _ _) (oneB _) (by unfold maxLen; omega) (by omega) (by first | omega | (simp; omega)) ?_; intro v1 w1 own1 grow1 _)
          have HR2 : Hid (OwnB w1 34 w.heap.size v1 (gs ++ [D]) ∧ Below w.heap.size w w1) := OwnB.keep hsz HO2.out HX2.out own1 grow1
          clear own1 grow1
          go_wp2
          go_roundw
          case rel => exact ⟨Z, K, gs ++ [D], by omega, hZl, rfl, rfl, HB2.out, HR2.out.1, HR2.out.2⟩
          case measure => simp [intOf] <;> omega
        · have hgez : ¬ (5 : Int) ≤ (M : Int) := by omega
          go_wp2
          go_roundw
          case rel => exact ⟨k + 1, X, M, gs, by omega, by omega, hX, rfl, rfl, by go_num, HA.out, HO2.out, HX2.out⟩
          case measure => simp [intOf] <;> omega
    · have hltz : ¬ (k : Int) < (N : Int) := by omega
      have HE : Hid (l.take k = l) := by show _ = _; apply List.take_of_length_le; rw [HN.out]; omega
      go_wp2
      go_ret3
      exact ⟨_, fs, x, m, rfl, by rw [HE.out] at HG; exact HG.out, hm, HO.out, HX.out⟩

set_option maxRecDepth 100000 in
set_option maxHeartbeats 4000000 in
theorem reg58_any (l : List Nat) (N : Nat) (hN : l.length = N) (ad : Option Addr) (cap : Nat) (w : World) (hl : ∀ n ∈ l, n < 32) (hlen : N ≤ 200) (hr : RowB w ad l) :
    Calls Try.prog 20 #[.slice ad N cap, .int .i64 5, .int .i64 8] w fun e w' => ∃ v fs x m, e = .returned (.tuple #[v, .int .u64 ((x : Nat) : Int), .int .i64 ((m : Nat) : Int)]) ∧ Sp.Grp 5 8 l fs x m ∧ m < 8 ∧ OwnB w' 5 w.heap.size v fs ∧ Below w.heap.size w w' := by
  obtain ⟨i0, hi, hz0, hz1, hz2⟩ := info_parts infoB
  have HI : Hid (Try.prog.info? 5 = some i0 ∧ i0.zero = some (.int .u8 0) ∧ i0.size = 1 ∧ i0.bytes = 1) := ⟨hi, hz0, hz1, hz2⟩
  have HL : Hid (∀ n ∈ l, n < 32) := hl
  have HR : Hid (RowB w ad l) := hr
  have HN : Hid (l.length = N) := hN
  clear hi hz0 hz1 hz2 hl hr hN
  go_enter Try.func20, Try.ntmps20
  go_wp2
  go_loopw [6, 7, 8, 10, 13] (fun ov xv mv _ iv wr => ∃ k x m fs, k ≤ N ∧ m < 8 ∧ x < 65536 ∧ xv = .int .u64 ((x : Nat) : Int) ∧ mv = .int .i64 ((m : Nat) : Int) ∧ iv = .int .i64 ((k : Nat) : Int) ∧ Hid (Sp.Grp 5 8 (l.take k) fs x m) ∧ OwnB wr 5 w.heap.size ov fs ∧ Below w.heap.size w wr) (fun _ _ _ _ iv _ => N - (intOf iv).toNat)
  case atStart => exact ⟨0, 0, 0, [], Nat.zero_le _, by decide, by decide, rfl, rfl, rfl, Sp.Grp.nil _ _, OwnB.nil _ _ _, Below.refl _ _⟩
  case round =>
    obtain ⟨k, x, m, fs, hk, hm, hx, rfl, rfl, rfl, HG, hown, hnx⟩ := hrel
    have HO : Hid (OwnB wr 5 w.heap.size u6 fs) := hown
    have HX : Hid (Below w.heap.size w wr) := hnx
    clear hown hnx
    by_cases hlt : k < N
    · obtain ⟨ba, off, n, had, hba, hn, hc⟩ := HR.out.at (k := k) (by rw [HN.out]; exact hlt)
      have hcw : wr.cell? ⟨ba, off + k, none⟩ = some (.int .u8 ((n : Nat) : Int)) := (HX.out.cell (p := ⟨ba, off + k, none⟩) hba).trans hc
      have hnl : n < 32 := HL.out n (List.mem_of_getElem? hn)
      have HT : Hid (l.take (k + 1) = l.take k ++ [n]) := by show _ = _; rw [List.take_add_one, hn]; rfl
      have hxm : x < 2 ^ 7 := Nat.lt_of_lt_of_le HG.out.lt (Nat.pow_le_pow_right (by decide) (by omega))
      have HG2 := HG.out.more n hnl
      rw [← HT.out] at HG2
      obtain ⟨Y, hY⟩ : ∃ Y, x * 2 ^ 5 + n = Y := ⟨_, rfl⟩
      have h1 := sh_up x 5 _ (x : Int) 5 rfl rfl (by decide) rfl (show x * 2 ^ 5 < 18446744073709551616 by omega)
      have h2 := or_is x 5 n Y hnl hY (by omega)
      generalize ((x * 2 ^ 5 : Nat) : Int) = U at h1 h2
      rw [hY] at HG2
      have HG3 : Hid (Sp.Grp 5 8 (l.take (k + 1)) fs Y (m + 5)) := HG2
      have hYl : Y < 65536 := by omega
      have hltz : (k : Int) < (N : Int) := by omega
      have hmz : (m : Int) < 8 := by omega
      have hNz : (N : Int) ≤ 200 := by omega
      subst had
      clear HG2 hn hc HG hY HT
      go_wp2
      go_loopw [6, 7, 8] (fun ov xv mv wi => ∃ X M gs, M < 13 ∧ X < 65536 ∧ xv = .int .u64 ((X : Nat) : Int) ∧ mv = .int .i64 ((M : Nat) : Int) ∧ Hid (Sp.Grp 5 8 (l.take (k + 1)) gs X M) ∧ OwnB wi 5 w.heap.size ov gs ∧ Below w.heap.size w wi) (fun _ _ mv _ => (intOf mv).toNat)
      case atStart => exact ⟨Y, m + 5, fs, by omega, hYl, rfl, by go_num, HG3.out, HO.out, HX.out⟩
      case round =>
        obtain ⟨X, M, gs, hM, hX, rfl, rfl, HA, hown, hnx⟩ := hrel
        have HO2 : Hid (OwnB wr 5 w.heap.size u6 gs) := hown
        have HX2 : Hid (Below w.heap.size w wr) := hnx
        have hsz : w.heap.size ≤ wr.heap.size := hnx.size
        have hgl : gs.length ≤ 400 := by
          have e1 := HA.out.len
          have e2 : (l.take (k + 1)).length ≤ 200 := by rw [List.length_take, HN.out]; omega
          omega
        clear hown hnx h1 h2
        by_cases hge : 8 ≤ M
        · obtain ⟨K, rfl⟩ : ∃ K, M = K + 8 := ⟨M - 8, by omega⟩
          have HB : Sp.Grp 5 8 (l.take (k + 1)) (gs ++ [X / 2 ^ K]) (X % 2 ^ K) K := Sp.Grp.take (by have e := HA.out; rw [Nat.add_comm K] at e; exact e)
          obtain ⟨D, hD⟩ : ∃ D, X / 2 ^ K = D := ⟨_, rfl⟩
          obtain ⟨Z, hZ⟩ : ∃ Z, X % 2 ^ K = Z := ⟨_, rfl⟩
          obtain ⟨Q, hQ⟩ : ∃ Q, 2 ^ K = Q + 1 := ⟨2 ^ K - 1, by have := Nat.pow_pos (n := K) (show 0 < 2 by decide); omega⟩
          have hKl : K ≤ 13 := by omega
          have hQl : Q < 65536 := by have := Nat.pow_le_pow_right (n := 2) (by decide) hKl; omega
          have hZl : Z < 65536 := by rw [← hZ]; exact Nat.lt_of_le_of_lt (Nat.mod_le _ _) hX
          rw [hD, hZ] at HB
          have hDl : D < 256 := HB.all D (by simp)
          have r2 : Op.shift .shl .u64 1 .i64 (K : Int) = pure (.int .u64 ((Q : Int) + 1)) := sh_up 1 K (Q + 1) 1 (K : Int) rfl rfl (by omega) (by rw [Nat.one_mul, hQ]) (by omega)
          have r3 := and_is X K Q Z hQ hZ (by omega) (by omega)
          rw [show (((K + 8 : Nat)) : Int) = (K : Int) + 8 from rfl]
          have hgez : (8 : Int) ≤ (K : Int) + 8 := by omega
          have HB2 : Hid (Sp.Grp 5 8 (l.take (k + 1)) (gs ++ [D]) Z K) := HB
          have hDz : (D : Int) < 256 := by omega
          have hQz : (Q : Int) < 65536 := by omega
          have hMz : (K : Int) < 5 := by omega
          have q2 : (D : Int) % 256 = (D : Int) := by omega
          have q3 : (2 : Int) ^ K = (Q : Int) + 1 := by have e : ((2 ^ K : Nat) : Int) = ((Q + 1 : Nat) : Int) := by rw [hQ]
                                                        rw [Int.natCast_pow] at e; exact e
          have q1 : (X : Int) / ((Q : Int) + 1) = (D : Int) := by rw [← hD, hQ, Int.natCast_ediv]; rfl
          have q4 : ((Q : Int) + 1) % 18446744073709551616 = (Q : Int) + 1 := by omega
          clear hD hZ hQ HB HA
          go_wp2_with (at_builtin; refine wpList_append_own _ rfl (.tmp 32) (.tmp 37) 35 rfl w.heap.size 5 i0 (.int .u8 0) 1 1 Try.underlying35 HI.out.1 HI.out.2.1 HI.out.2.2.1 HI.out.2.2.2 rfl (by decide) _ _ _ rfl (World.ownsRow.alloc HO2.out _) ⟨wr.heap.size, 0, none⟩ 1 1 [.int .u8 (D : Int)] rfl rfl (cellB_new _ _ _) (oneB _) (by unfold maxLen; omega) (by omega) (by first | omega | (simp; omega)) ?_; intro v1 w1 own1 grow1 _)
          have HR2 : Hid (OwnB w1 5 w.heap.size v1 (gs ++ [D]) ∧ Below w.heap.size w w1) := OwnB.keep hsz HO2.out HX2.out own1 grow1
          clear own1 grow1
          go_wp2
          go_roundw
          case rel => exact ⟨Z, K, gs ++ [D], by omega, hZl, rfl, rfl, HB2.out, HR2.out.1, HR2.out.2⟩
          case measure => simp [intOf] <;> omega
        · have hgez : ¬ (8 : Int) ≤ (M : Int) := by omega
          go_wp2
          go_roundw
          case rel => exact ⟨k + 1, X, M, gs, by omega, by omega, hX, rfl, rfl, by go_num, HA.out, HO2.out, HX2.out⟩
          case measure => simp [intOf] <;> omega
    · have hltz : ¬ (k : Int) < (N : Int) := by omega
      have HE : Hid (l.take k = l) := by show _ = _; apply List.take_of_length_le; rw [HN.out]; omega
      go_wp2
      go_ret3
      exact ⟨_, fs, x, m, rfl, by rw [HE.out] at HG; exact HG.out, hm, HO.out, HX.out⟩
end Go.Proofs.Ythfdaaccopgbeaa
