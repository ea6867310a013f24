/- The walk of rings of keys: an epoch less. -/
import Derived.Test.YtcjpbmfdgheolaaRDr
namespace Go.Proofs.Ytcjpbmfdgheolaa
open Go.RowKit

theorem elem_ep : Try.prog.elem 22 = 40 := by kernel_rfl
theorem from_ep (b off n cap k : Nat) (h : k + 1 ≤ n) (hc : n ≤ cap) : ∃ o2 : Nat, (n = k + 1 ∨ o2 = off + (k + 1) * 3) ∧ ∀ wx, (Instr.slice 22 (.slice (some ⟨b, off, none⟩) n cap) (some (.int .i64 ((k : Int) + 1))) none none).run Try.prog wx = .ok (.slice (some ⟨b, o2, none⟩) (n - (k + 1)) (cap - (k + 1))) wx := by
  have ht : Try.prog.underlying 22 = some (.slice (Try.prog.elem 22)) := by kernel_rfl
  by_cases e : cap = k + 1
  · refine ⟨off, .inl (by omega), fun wx => ?_⟩
    rw [run_slice_l wx _ _ n cap ht .i64 _ (by omega) (by omega), elem_ep, Try.sizeOf40]
    simp [sliced, e, Result.andThen, show ((k : Int) + 1).toNat = k + 1 by omega]
  · refine ⟨off + (k + 1) * 3, .inr rfl, fun wx => ?_⟩
    rw [run_slice_l wx _ _ n cap ht .i64 _ (by omega) (by omega), elem_ep, Try.sizeOf40]
    simp [sliced, e, Result.andThen, show ((k : Int) + 1).toNat = k + 1 by omega, Addr.add]
theorem upto_ep (b off n cap k : Nat) (h : k ≤ cap) (wx : World) : (Instr.slice 22 (.slice (some ⟨b, off, none⟩) n cap) none (some (.int .i64 (k : Int))) none).run Try.prog wx = .ok (.slice (some ⟨b, off, none⟩) k cap) wx := by
  have ht : Try.prog.underlying 22 = some (.slice (Try.prog.elem 22)) := by kernel_rfl
  rw [run_slice_h wx _ _ n cap ht .i64 _ (by omega) (by omega), elem_ep, Try.sizeOf40]
  simp [sliced, Result.andThen, Addr.add]
/-- what a drop answers -/
def drpPost (w : World) (l : List Rg.Ep) (no : Int) (e : Ending) (w' : World) : Prop := ∃ v, e = .returned (.tuple #[v, .int .i64 (Rg.drp l no).2]) ∧ OwnE w' w.heap.size v (Rg.drp l no).1 ∧ Below w.heap.size w w'
theorem drpPost.bad {w w' : World} {l : List Rg.Ep} {no c : Int} (h : Rg.drp l no = ([], c)) (hb : Below w.heap.size w w') : drpPost w l no (.returned (.tuple #[.slice none 0 0, .int .i64 c])) w' := ⟨_, by rw [h], by rw [h]; exact OwnE.nil _ _, hb⟩
theorem drpPost.good {w w' : World} {l l' : List Rg.Ep} {no : Int} {v : Value} (h : Rg.drp l no = (l', 0)) (ho : OwnE w' w.heap.size v l') (hb : Below w.heap.size w w') : drpPost w l no (.returned (.tuple #[v, .int .i64 0])) w' := ⟨v, by rw [h], by rw [h]; exact ho, hb⟩
theorem drp_take {w : World} {b off k : Nat} {l : List Rg.Ep} (h : Row3 w (some ⟨b, off, none⟩) l) (hk : k ≤ l.length) : Row3 w (some ⟨b, off, none⟩) (l.take k) := by
  have := h.part 0 k (by omega)
  simpa using this
theorem drp_drop {w : World} {b off o2 k : Nat} {l : List Rg.Ep} (h : Row3 w (some ⟨b, off, none⟩) l) (ho : l.length = k + 1 ∨ o2 = off + (k + 1) * 3) : Row3 w (some ⟨b, o2, none⟩) (l.drop (k + 1)) := by
  by_cases c : l.length ≤ k + 1
  · exact .inl (List.drop_eq_nil_of_le c)
  · obtain rfl : o2 = off + (k + 1) * 3 := by omega
    have := h.part (k + 1) (l.length - (k + 1)) (by omega)
    rw [List.take_of_length_le (by simp)] at this
    exact this
theorem drp_end {w w2 W w4 : World} {v : Value} {l : List Rg.Ep} (h1 : Below w.heap.size w w2) (h2 : Below w2.heap.size w2 W) (hO : OwnE w4 W.heap.size v l) (hb : Below W.heap.size W w4) : OwnE w4 w.heap.size v l ∧ Below w.heap.size w w4 := by
  have hW := below_on h1 (Nat.le_refl _) h2
  exact ⟨hO.weak hW.size, below_on hW (Nat.le_refl _) hb⟩
set_option maxRecDepth 100000 in
set_option maxHeartbeats 2000000 in
theorem drop_any (l : List Rg.Ep) (a : Option Addr) (cap : Nat) (no : Int) (w : World) (hl : l.length ≤ maxLen) (hcap : l.length ≤ cap) (hr : Row3 w a l) :
    Calls Try.prog 9 #[.slice a l.length cap, .int .i64 no] w (drpPost w l no) := by
  have HR : Hid (Row3 w a l) := hr
  have hck := check_any l a cap w hl hr
  have hpl := fun W (hb : Below w.heap.size w W) => place_any l a cap no W hl (hr.below hb)
  clear hr
  by_cases hc : Rg.chk l = 0
  · have HCZ : Hid (Rg.chk l = 0) := hc
    have h8 : l.length ≤ 8 := ((Rg.chk_iff l).1 hc).1
    rw [hc] at hck
    clear hc hl
    cases hf : Rg.find no l with
    | none =>
      have HE : Hid (Rg.drp l no = ([], 5)) := by show _ = _; unfold Rg.drp; rw [if_neg (by rw [HCZ.out]; omega), hf]
      have hpl' := fun W hb => Rg.plc_none hf ▸ hpl W hb
      clear hpl
      go_enter Try.func9, Try.ntmps9
      go_wp2_with fail
      refine hck.mono ?_; rintro e w1 ⟨rfl, hb1⟩
      have HB1 : Hid (Below w.heap.size w w1) := hb1
      clear hb1 hck
      go_wp2_with fail
      refine (hpl' _ HB1.out).mono ?_; rintro e w2 ⟨rfl, hb2⟩
      have HB2 : Hid (Below w.heap.size w w2) := below_on HB1.out (Nat.le_refl _) hb2
      clear hb2 hpl'
      go_wp2
      go_ret2
      exact drpPost.bad HE.out HB2.out
    | some p =>
      obtain ⟨k, K⟩ := p
      obtain ⟨hk, hx, -⟩ := Rg.find_some l no k K hf
      have HE : Hid (Rg.drp l no = (l.take k ++ l.drop (k + 1), 0)) := by show _ = _; unfold Rg.drp; rw [if_neg (by rw [HCZ.out]; omega), hf]
      have hpl' := fun W hb => Rg.plc_some hf ▸ hpl W hb
      obtain ⟨b, off, -, -, -, rfl, hbs, -, -, -, -⟩ := HR.out.at hk
      obtain ⟨n, hLn⟩ : ∃ n, l.length = n := ⟨_, rfl⟩
      have HLn : Hid (l.length = n) := hLn
      rw [hLn] at hck h8 hk hcap hpl' ⊢
      clear hpl hf hx hLn
      have u1 := upto_ep b off n cap k (by omega)
      obtain ⟨o2, ho2, u2⟩ := from_ep b off n cap k (by omega) hcap
      have HO2 : Hid (n = k + 1 ∨ o2 = off + (k + 1) * 3) := ho2
      have hk0 : (0 : Int) ≤ (k : Int) := by omega
      have hwk : IntKind.i64.wrap ((k : Int) + 1) = (k : Int) + 1 := by rw [IntKind.wrap_i64]; omega
      clear ho2
      go_enter Try.func9, Try.ntmps9
      go_wp2_with fail
      refine hck.mono ?_; rintro e w1 ⟨rfl, hb1⟩
      have HB1 : Hid (Below w.heap.size w w1) := hb1
      clear hb1 hck
      go_wp2_with fail
      refine (hpl' _ HB1.out).mono ?_; rintro e w2 ⟨rfl, hb2⟩
      have HB2 : Hid (Below w.heap.size w w2) := below_on HB1.out (Nat.le_refl _) hb2
      clear hb2 hpl'
      go_wp2
      have HR2 : Hid (Row3 w2 (some ⟨b, off, none⟩) l) := HR.out.below HB2.out
      have HT : Hid (Row3 w2 (some ⟨b, off, none⟩) (l.take k)) := drp_take HR2.out (by rw [HLn.out]; omega)
      have HD : Hid (Row3 w2 (some ⟨b, o2, none⟩) (l.drop (k + 1))) := drp_drop HR2.out (by rw [HLn.out]; exact HO2.out)
      go_region_held3 (fun w' => True) (trivial)
        ((go_at_call 23; refine (concat_any (l.take k) (l.drop (k + 1)) (some ⟨b, off, none⟩) (some ⟨b, o2, none⟩) k (n - (k + 1)) cap (cap - (k + 1)) w2.heap.size _ (by rw [List.length_take, HLn.out]; omega) (by rw [List.length_drop, HLn.out]) (by omega) (by omega) (HT.out.below (by first | exact below_box w2 _ | exact (below_box w2 _).drew)) (HD.out.below (by first | exact below_box w2 _ | exact (below_box w2 _).drew)) (by simp) (by simp) (by simp) (by simp) (by simp)).mono ?_; rintro e w4 ⟨v, rfl, hO, hb4⟩))
      all_goals
        have HQ : Hid (OwnE w4 w.heap.size v (l.take k ++ l.drop (k + 1)) ∧ Below w.heap.size w w4) := drp_end HB2.out (by first | exact below_box w2 _ | exact (below_box w2 _).drew) hO hb4
        clear hO hb4
        go_wp2
        go_ret2
        exact drpPost.good HE.out HQ.out.1 HQ.out.2
  · have HE : Hid (Rg.drp l no = ([], Rg.chk l)) := by show _ = _; unfold Rg.drp; rw [if_pos hc]
    clear hpl
    generalize Rg.chk l = C at *
    have hc' : (C != 0) = true := by simpa using hc
    go_enter Try.func9, Try.ntmps9
    go_wp2_with fail
    refine hck.mono ?_; rintro e w1 ⟨rfl, hb1⟩
    have HB1 : Hid (Below w.heap.size w w1) := hb1
    clear hb1 hck
    go_wp2
    go_ret2
    exact drpPost.bad HE.out HB1.out
end Go.Proofs.Ytcjpbmfdgheolaa
