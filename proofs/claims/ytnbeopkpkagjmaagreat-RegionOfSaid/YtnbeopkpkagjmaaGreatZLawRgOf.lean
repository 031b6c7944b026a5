/-
  The statement RegionOf, proved: Of is the region of the points, for all lists of at most 12 rectangles. Conditions: none.
-/
import Derived.Test.YtnbeopkpkagjmaaGreatLF
import Derived.Test.YtnbeopkpkagjmaaGreatWOf
namespace Go.Proofs.YtnbeopkpkagjmaaGreat
set_option maxRecDepth 100000
set_option linter.unusedVariables false
set_option linter.unusedSimpArgs false
open Go.ChangeShapes Go.WideShapes Go.ChangeAt Go.RowKit Go.Joins

set_option maxRecDepth 100000 in
theorem rgOf_lifted (os : Os) (started : os.Started) (H : Type) (enc : TypeId × Value → H) :
    ReturnsInHanded {} Tryz.checked os 4 .any (fun w args => (Rows.regionOfSpec.pre enc Tryz.prog Tryz.f4 [] false w args ∧ True) ∧ sizedMet enc Tryz.prog Tryz.f4 (OpenSpec.ofChange Rows.regionOfSpec) false w args)
      (Rows.regionOfSpec.post enc Tryz.prog Tryz.f4 false true false false) := by
  refine law_lift (C := Tryz.checked) (X := fun _ => True) rfl own started (by kernel_rfl) Tryz.func4 laidOut (by kernel_rfl) rfl Tryz.underlying4 ?_ (fun _ _ _ h => h)
    (ChangeSpec.witness_shaped (enc := enc) (C := Tryz.checked) (os := os) (X := fun _ _ => True) false (World.doorLaid Tryz.prog 4000 os) #[.slice none 0 0] 8 rfl (World.shaped_of_RefB (by kernel_rfl) (by kernel_rfl)) (by kernel_rfl) (by kernel_rfl) (by kernel_rfl) trivial) ?_
  · intro ds hd
    match ds, hd with
    | [d1], _ => rfl
  · intro W base args ds ps hS hval hA _
    rw [Tryz.params4] at hA hval
    obtain ⟨v0, d0, rfl, rfl, h0⟩ := trodAll_one hA
    obtain ⟨l0, hl0⟩ := open_rcs (hval 0 22 v0 rfl rfl) h0
    exact law_of v0 l0 W 0 hl0

theorem rgOf_holds : Rows.RegionOfSaid :=
  OpenClaim.holds_of_wide 4 Tryz.f4 rfl rfl rfl rfl rfl rfl rfl ⟨rfl, rfl, rfl, rfl, rfl⟩ rfl rfl rfl rfl rfl (by kernel_rfl) Tryz.func4 (by kernel_rfl)
    (of_decide_eq_true (by kernel_rfl)) (by unfold Func.isWrapper; first | (rw [if_pos (by decide +kernel)]; kernel_rfl) | (rw [if_neg (by decide +kernel)]; exact ⟨rfl, rfl⟩))
    (fun os started H enc _ => by have h := rgOf_lifted os started H enc; simp only [and_true] at h; exact h)
end Go.Proofs.YtnbeopkpkagjmaaGreat
