/- Mended fares: what they are, plainly. -/
import Derived.Test.YtcaibonnkfhkmaaFFa
import Derived.Test.YtcaibonnkfhkmaaFNd
namespace Go.Proofs.Ytcaibonnkfhkmaa
open Go.RowKit

namespace Fr
theorem getD_is {l : List Int} {k : Nat} {x : Int} (h : l[k]? = some x) : l.getD k 0 = x := by rw [List.getD_eq_getElem?_getD, h]; rfl
theorem chk_sq {f : List (List Int)} (h : chk f = 0) : ∀ a, a < f.length → (f.getD a []).length = f.length - a := (chk_zero h).2.2.1
theorem fb_mend {f : List (List Int)} (h : chk f = 0) : fb (pr (mend f)) (mend f).length = true := by
  have hm := chk_mend h
  rw [fb_iff (chk_zero hm).2.2.2, mend_length]
  have hF := fair_cv (chk_zero h).2.2.2
  intro a b hab hb
  obtain ⟨h1, h2⟩ := hF a b hab hb
  refine ⟨fun x y hx hy hyn => ?_, fun m hm1 hm2 => ?_⟩
  · rw [pr_mend f a b hab hb, pr_mend f x y (by omega) hyn]; exact h1 x y hx hy hyn
  · rw [pr_mend f a b hab hb, pr_mend f a m hm1 (by omega), pr_mend f (m + 1) b (by omega) hb]; exact h2 m hm1 hm2
/-- fair fares are left as they are, and those that are left are fair -/
theorem mend_fair {f : List (List Int)} (h : chk f = 0) : mend f = f ↔ fb (pr f) f.length = true := by
  rw [fb_iff (chk_zero h).2.2.2]
  constructor
  · intro e
    exact fair_of_cv (chk_zero h).2.2.2 fun a b hab hb => by rw [← pr_mend f a b hab hb, e]
  · intro hF
    refine ext (mend_length f) (by have := chk_sq (chk_mend h); exact this) (chk_sq h) fun a b hab hb => ?_
    rw [mend_length] at hb
    rw [pr_mend f a b hab hb]
    exact fair_cv_eq (chk_zero h).2.2.2 hF hab hb
theorem mend_mend {f : List (List Int)} (h : chk f = 0) : mend (mend f) = mend f := (mend_fair (chk_mend h)).2 (fb_mend h)
/-- of as many zones, none is dearer, told by the prices -/
theorem nod_of {f g : List (List Int)} (hf : chk f = 0) (_ : chk g = 0) (hl : f.length = g.length) (h : ∀ a b, a ≤ b → b < f.length → pr f a b ≤ pr g a b) : Nod f g := by
  refine ⟨hl, fun i hi k x y hx hy => ?_⟩
  have l1 := chk_sq hf i hi
  have hk : k < (f.getD i []).length := (List.getElem?_eq_some_iff.1 hx).1
  have := h i (i + k) (by omega) (by omega)
  unfold pr at this
  rw [show i + k - i = k by omega, getD_is hx, getD_is hy] at this
  exact this
theorem nod_pr {f g : List (List Int)} (hf : chk f = 0) (hg : chk g = 0) (h : Nod f g) : ∀ a b, a ≤ b → b < f.length → pr f a b ≤ pr g a b := by
  intro a b hab hb
  have l1 := chk_sq hf a (by omega)
  have l2 := chk_sq hg a (by have := h.1; omega)
  have h1 : (f.getD a [])[b - a]? = some (pr f a b) := by
    rw [List.getElem?_eq_getElem (by omega)]
    exact congrArg some (getD_is (List.getElem?_eq_getElem _)).symm
  have h2 : (g.getD a [])[b - a]? = some (pr g a b) := by
    rw [List.getElem?_eq_getElem (by have := h.1; omega)]
    exact congrArg some (getD_is (List.getElem?_eq_getElem _)).symm
  exact h.2 a (by omega) _ _ _ h1 h2
theorem nod_mend {f : List (List Int)} (h : chk f = 0) : Nod (mend f) f :=
  nod_of (chk_mend h) h (mend_length f) fun a b hab hb => by
    rw [mend_length] at hb
    rw [pr_mend f a b hab hb]
    exact cv_in (chk_zero h).2.2.2 hab hb (Nat.le_refl a) (Nat.le_refl b) hb
/-- what is nowhere dearer is mended nowhere dearer -/
theorem nod_mono {f g : List (List Int)} (hf : chk f = 0) (hg : chk g = 0) (h : Nod g f) : Nod (mend g) (mend f) :=
  nod_of (chk_mend hg) (chk_mend hf) (by rw [mend_length, mend_length]; exact h.1) fun a b hab hb => by
    rw [mend_length] at hb
    have hl := h.1
    rw [pr_mend g a b hab hb, pr_mend f a b hab (by omega)]
    have := nod_pr hg hf h
    have hm := cv_mono (n := g.length) (chk_zero hg).2.2.2 (by rw [hl]; exact (chk_zero hf).2.2.2) this hb _ a (Nat.le_refl _)
    rwa [hl] at hm ⊢
end Fr
end Go.Proofs.Ytcaibonnkfhkmaa
