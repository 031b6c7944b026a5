/-
  The statement RegionCombines, proved: the combinations are those of the definitions, for all lists of at most 12 rectangles. Conditions: none.
-/
import Derived.Test.YtnbeopkpkagjmaaGreatLF
import Derived.Test.YtnbeopkpkagjmaaGreatWCo
namespace Go.Proofs.YtnbeopkpkagjmaaGreat
set_option maxRecDepth 100000
set_option linter.unusedVariables false
set_option linter.unusedSimpArgs false
open Go.ChangeShapes Go.WideShapes Go.ChangeAt Go.RowKit Go.Joins

set_option maxRecDepth 100000 in
theorem rgCombines_lifted (os : Os) (started : os.Started) (H : Type) (enc : TypeId × Value → H) :
    ReturnsInHanded {} Tryz.checked os 5 .any (fun w args => (Rows.regionCombinesSpec.pre enc Tryz.prog Tryz.f5 [] false w args ∧ True) ∧ sizedMet enc Tryz.prog Tryz.f5 (OpenSpec.ofChange Rows.regionCombinesSpec) false w args)
      (Rows.regionCombinesSpec.post enc Tryz.prog Tryz.f5 false true false false) := by
  refine law_lift (C := Tryz.checked) (X := fun _ => True) rfl own started (by kernel_rfl) Tryz.func5 laidOut (by kernel_rfl) rfl Tryz.underlying4 ?_ (fun _ _ _ h => h)
    (ChangeSpec.witness_shaped (enc := enc) (C := Tryz.checked) (os := os) (X := fun _ _ => True) false (World.doorLaid Tryz.prog 4000 os) #[.slice none 0 0, .slice none 0 0] 8 rfl (World.shaped_of_RefB (by kernel_rfl) (by kernel_rfl)) (by kernel_rfl) (by kernel_rfl) (by kernel_rfl) trivial) ?_
  · intro ds hd
    match ds, hd with
    | [d1, d2], _ => rfl
  · intro W base args ds ps hS hval hA _
    rw [Tryz.params5] at hA hval
    obtain ⟨v0, v1, d0, d1, p0, p1, rfl, rfl, rfl, h0, h1⟩ := trodAll_two hA
    obtain ⟨l0, hl0⟩ := open_rcs (hval 0 22 v0 rfl rfl) h0
    obtain ⟨l1, hl1⟩ := open_rcs (hval 1 22 v1 rfl rfl) h1
    exact law_combines v0 v1 l0 l1 W 0 0 hl0 hl1

theorem rgCombines_holds : Rows.RegionCombinesSaid :=
  OpenClaim.holds_of_wide 5 Tryz.f5 rfl rfl rfl rfl rfl rfl rfl ⟨rfl, rfl, rfl, rfl, rfl⟩ rfl rfl rfl rfl rfl (by kernel_rfl) Tryz.func5 (by kernel_rfl)
    (of_decide_eq_true (by kernel_rfl)) (by unfold Func.isWrapper; first | (rw [if_pos (by decide +kernel)]; kernel_rfl) | (rw [if_neg (by decide +kernel)]; exact ⟨rfl, rfl⟩))
    (fun os started H enc _ => by have h := rgCombines_lifted os started H enc; simp only [and_true] at h; exact h)
end Go.Proofs.YtnbeopkpkagjmaaGreat
