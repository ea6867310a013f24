/- Four words, a key and a word that came in, opened: what they read as. -/
import Derived.Test.YtcjpbmfdgheolaaGTk
import Derived.ProofKit
import Derived.OpenShut
import Derived.Deep.Slices
import Derived.Lib.SmallJoins
import Derived.SizedLaws
namespace Go.Proofs.Ytcjpbmfdgheolaa
open Go.ChangeShapes Go.WideShapes Go.ChangeAt Go.RowKit Go.Joins Go.Deep

theorem cellsV : Try.prog.cellsOf 62 = 4 := by kernel_rfl
theorem cellsK : Try.prog.cellsOf 25 = 2 := by kernel_rfl
theorem cellsU : Try.prog.cellsOf 23 = 1 := by kernel_rfl
theorem wf_u64 {x : Int} (h : (Lit.int .u64 x).wf = true) : ∃ y : Tg.W, x = wd y := by
  have hb : 0 ≤ x ∧ x < 18446744073709551616 := by
    simp [Lit.wf, IntKind.min, IntKind.max, IntKind.bits, IntKind.signed] at h
    omega
  exact ⟨BitVec.ofNat 64 x.toNat, by rw [wd_of _ (by omega)]; omega⟩
theorem array4 {α : Type} {cs : Array α} (h : cs.size = 4) : ∃ c0 c1 c2 c3, cs = #[c0, c1, c2, c3] := by
  obtain ⟨l⟩ := cs
  match l, h with
  | [c0, c1, c2, c3], _ => exact ⟨c0, c1, c2, c3, rfl⟩
theorem array2 {α : Type} {cs : Array α} (h : cs.size = 2) : ∃ c0 c1, cs = #[c0, c1] := by
  obtain ⟨l⟩ := cs
  match l, h with
  | [c0, c1], _ => exact ⟨c0, c1, rfl⟩
theorem open_v4 {H : Type} {enc : TypeId × Value → H} {W : World} {B0 : Nat} {spare : Nat → Bool} {held : Bool} {v : Value} {d : DataW H} {p : List MemPlace} {r : Reach} {b0 : Nat}
    (hv : Value.okWide Try.prog W r b0 62 v) (h : DataW.Trod enc Try.prog W B0 spare held 62 v d p) : ∃ u : Tg.V, v = v4 u := by
  simp only [Value.okWide, Try.underlying62] at hv
  obtain ⟨cs, rfl, hsz, _⟩ := hv
  obtain ⟨c0, c1, c2, c3, rfl⟩ := array4 (hsz.trans cellsV)
  obtain ⟨fuel, hf⟩ := h
  obtain ⟨xs, m, _, _, _, hxl, hxe⟩ := DataW.trod_array Try.underlying62 hf
  rw [cellsU] at hxe
  have one : ∀ i (hi : i < 4), ∃ y : Tg.W, (([c0, c1, c2, c3] : List Value).drop i).take 1 = [Value.int .u64 (wd y)] := by
    intro i hi
    have e := hxe i hi
    rw [Nat.mul_one, List.getElem?_eq_getElem (by omega)] at e
    obtain ⟨x, hx, _, hw⟩ := DataW.trod_int Try.underlying23 e
    obtain ⟨y, rfl⟩ := wf_u64 hw
    exact ⟨y, hx⟩
  obtain ⟨y0, e0⟩ := one 0 (by decide)
  obtain ⟨y1, e1⟩ := one 1 (by decide)
  obtain ⟨y2, e2⟩ := one 2 (by decide)
  obtain ⟨y3, e3⟩ := one 3 (by decide)
  simp at e0 e1 e2 e3
  subst e0 e1 e2 e3
  exact ⟨(y0, y1, y2, y3), rfl⟩
theorem open_key {H : Type} {enc : TypeId × Value → H} {W : World} {B0 : Nat} {spare : Nat → Bool} {held : Bool} {v : Value} {d : DataW H} {p : List MemPlace} {r : Reach} {b0 : Nat}
    (hv : Value.okWide Try.prog W r b0 25 v) (h : DataW.Trod enc Try.prog W B0 spare held 25 v d p) : ∃ A B : Tg.W, v = .agg #[.int .u64 (wd A), .int .u64 (wd B)] := by
  obtain ⟨cs, rfl, hsz⟩ := okWide_struct Try.underlying25 hv
  obtain ⟨c0, c1, rfl⟩ := array2 (hsz.trans cellsK)
  obtain ⟨fuel, hf⟩ := h
  obtain ⟨y0, y1, n, hx, _, h0, h1⟩ := trod_struct2 Try.underlying25 hf
  simp only [Value.cells] at h0 h1
  rw [cellsU] at h0 h1
  obtain ⟨x0, e0, _, w0⟩ := DataW.trod_int Try.underlying23 h0
  obtain ⟨x1, e1, _, w1⟩ := DataW.trod_int Try.underlying23 h1
  simp at e0 e1
  subst e0 e1
  obtain ⟨A, rfl⟩ := wf_u64 w0
  obtain ⟨B, rfl⟩ := wf_u64 w1
  exact ⟨A, B, rfl⟩
theorem str_sized {H : Type} {ts : List TypeId} {ds : List (DataW H)} {s : ByteArray} {j : Nat} (hs : (DataW.weightsEach Try.prog ts ds).all (· ≤ reachBytes) = true) (ht : ts[j]? = some 9) (hd : ds[j]? = some (.lit (.string s.data.toList))) : s.size ≤ 140737488351232 := by
  have := sized_string hs ht hd
  unfold reachBytes at this
  have e : s.data.toList.length = s.size := by rw [Array.length_toList]; rfl
  omega
end Go.Proofs.Ytcjpbmfdgheolaa
