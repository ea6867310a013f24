/- Write, Read and Fair answer just what the document says, errors too: whatever the two texts, as long as they hold together at most 1048576 letters. -/
import Derived.Test.YthfdaaccopgbeaaLawSpell3
import Derived.Test.YthfdaaccopgbeaaRows
import Derived.WalkKit
import Derived.ProofKit
import Derived.OpenShut
import Derived.ChangeOld
import Derived.Below
import Derived.ChangeMaps5
import Derived.JoinedCond
namespace Go.Proofs.Ythfdaaccopgbeaa
open Go.ChangeShapes Go.WideShapes Go.ChangeAt Go.RowKit Go.ChangeMaps

namespace FrameSpellTells
theorem own : ownKnob Try.prog.godebug = none := by kernel_rfl
theorem laidOut : laidOutB Try.prog = true := by kernel_rfl
theorem bulk_at {H : Type} {l : List (DataW H)} {j : Nat} {s : ByteArray} (hk : Rows.uptoSmall H l = true) (hd : l[j]? = some (.lit (.string s.data.toList))) : s.size ≤ 1048576 := by
  have h : Rows.uptoBulkAll l ≤ 1048576 := of_decide_eq_true hk
  have key : ∀ (l : List (DataW H)) (j : Nat), l[j]? = some (.lit (.string s.data.toList)) → s.data.toList.length ≤ Rows.uptoBulkAll l := by
    intro l
    induction l with
    | nil => intro j hj; simp at hj
    | cons d l ih =>
      intro j hj
      simp only [Rows.uptoBulkAll]
      cases j with
      | zero =>
        simp at hj
        subst hj
        simp only [Rows.uptoBulk]
        omega
      | succ j =>
        have := ih j (by simpa using hj)
        omega
  have h2 := key l j hd
  have e : s.data.toList.length = s.size := by rw [Array.length_toList]; rfl
  omega
set_option maxRecDepth 100000 in
theorem lifted (os : Os) (started : os.Started) (H : Type) (enc : TypeId × Value → H) (F : Stop.Interp) :
    ReturnsInHanded {} Try.checked os 3 .any ((Rows.OpenSpec.upto Rows.spellTellsSpec).pre6 enc Try.prog Try.f3 Rows.spellTellsUptoRow.domain false) (((Rows.OpenSpec.upto Rows.spellTellsSpec).at F).post enc Try.prog Try.f3 false true false false) := by
  refine returnsInHanded_of_cond (C := Try.checked) (s := Rows.OpenSpec.upto Rows.spellTellsSpec) (k := Rows.uptoSmall) rfl own started (by kernel_rfl) Try.func3
    (OpenSpec.witness (enc := enc) (C := Try.checked) (s := Rows.OpenSpec.upto Rows.spellTellsSpec) (k := Rows.uptoSmall) rfl false ⟨#[], #[.string .empty, .string .empty], []⟩ 8 (by kernel_rfl) (by kernel_rfl) (by kernel_rfl)
      (x := ([.lit (.string []), .lit (.string [])], [], [])) (by kernel_rfl) rfl (by kernel_rfl)) ?_
  intro W base args ds gs before hval0 hW _ hk _
  have hval : ∀ (j : Nat) t v, Try.f3.params[j]? = some t → args[j]? = some v → Value.okWide Try.prog W .any base t v := hval0
  have hW' := hW
  obtain ⟨p, q, hA0, hV, rfl, hfz, hnd⟩ := hW
  have hA : DataW.TrodAll enc Try.prog W 0 (fun _ => true) true Try.f3.params.toList args.toList ds p := hA0
  rw [Try.params3] at hA hval
  obtain ⟨v0, vs0, d0, ds0, p0, q0, hargs, rfl, rfl, h0, r0⟩ := trodAll_cons hA
  obtain ⟨v1, vs1, d1, ds1, p1, q1, rfl, rfl, rfl, h1, r1⟩ := trodAll_cons r0
  obtain ⟨rfl, rfl, rfl⟩ := trodAll_nil r1
  obtain rfl : args = #[v0, v1] := by cases args; simp_all
  obtain ⟨rfl, rfl⟩ := trodVars_none hV
  obtain ⟨x0, rfl, rfl, rfl, hx0⟩ := open_string Try.underlying9 (hval 0 9 v0 rfl rfl) h0
  have hz0 : x0.size ≤ 1048576 := bulk_at (j := 0) hk rfl
  obtain ⟨x1, rfl, rfl, rfl, hx1⟩ := open_string Try.underlying9 (hval 1 9 v1 rfl rfl) h1
  have hz1 : x1.size ≤ 1048576 := bulk_at (j := 1) hk rfl
  clear hA0 hval0
  refine (spellTells_any x0 x1 W hz0 hz1).mono fun e W' ⟨he, bel⟩ => ?_
  subst he
  exact ⟨_, rfl, _, _, _, [], _, [], hW', trodAll_mk1 (shut_bool Try.underlying4 _), (trodAll_cons_mk (shut_string Try.underlying9 hx0) (trodAll_cons_mk (shut_string Try.underlying9 hx1) trodAll_mk0)), rfl, bel.frame _, fun h => by cases h⟩
end FrameSpellTells
theorem spellTells_holds : Rows.SpellTellsUptoSaid :=
  OpenClaim.holds_of_cond 3 Try.f3 rfl rfl rfl rfl rfl rfl rfl ⟨rfl, rfl, rfl, rfl, rfl⟩ rfl rfl rfl rfl rfl (by kernel_rfl) Try.func3 (by kernel_rfl)
    (of_decide_eq_true (by kernel_rfl)) (by unfold Func.isWrapper; first | (rw [if_pos (by decide +kernel)]; kernel_rfl) | (rw [if_neg (by decide +kernel)]; exact ⟨rfl, rfl⟩))
    (fun os started H enc _ F => FrameSpellTells.lifted os started H enc F)
#print axioms spellTells_holds
end Go.Proofs.Ythfdaaccopgbeaa
