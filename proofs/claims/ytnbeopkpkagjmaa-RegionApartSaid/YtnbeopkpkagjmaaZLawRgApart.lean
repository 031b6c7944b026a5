/-
  The statement RegionApart, proved: the rectangles of a region are valid and do not overlap, and two rectangles overlap exactly if their intersection is not empty. Conditions: none.
-/
import Derived.Test.YtnbeopkpkagjmaaLH
import Derived.Test.YtnbeopkpkagjmaaWAp
namespace Go.Proofs.Ytnbeopkpkagjmaa
set_option maxRecDepth 100000
set_option linter.unusedVariables false
set_option linter.unusedSimpArgs false
open Go.ChangeShapes Go.WideShapes Go.ChangeAt Go.RowKit Go.Joins

set_option maxRecDepth 100000 in
theorem rgApart_lifted (os : Os) (started : os.Started) (H : Type) (enc : TypeId × Value → H) :
    ReturnsInHanded {} Try.checked os 6 .any (fun w args => (Rows.regionApartSpec.pre enc Try.prog Try.f6 [] false w args ∧ True) ∧ sizedMet enc Try.prog Try.f6 (OpenSpec.ofChange Rows.regionApartSpec) false w args)
      (Rows.regionApartSpec.post enc Try.prog Try.f6 false true false false) := by
  refine law_lift (C := Try.checked) (X := fun _ => True) rfl own started (by kernel_rfl) Try.func6 laidOut (by kernel_rfl) rfl Try.underlying4 ?_ (fun _ _ _ h => h)
    (ChangeSpec.witness_shaped (enc := enc) (C := Try.checked) (os := os) (X := fun _ _ => True) false (World.doorLaid Try.prog 4000 os) #[.slice none 0 0, .agg #[.int .i64 0, .int .i64 0, .int .i64 0, .int .i64 0], .agg #[.int .i64 0, .int .i64 0, .int .i64 0, .int .i64 0]] 8 rfl (World.shaped_of_RefB (by kernel_rfl) (by kernel_rfl)) (by kernel_rfl) (by kernel_rfl) (by kernel_rfl) trivial) ?_
  · intro ds hd
    match ds, hd with
    | [d1, d2, d3], _ => rfl
  · intro W base args ds ps hS hval hA _
    rw [Try.params6] at hA hval
    obtain ⟨v0, v1, v2, d0, d1, d2, p0, p1, p2, rfl, rfl, rfl, h0, h1, h2⟩ := trodAll_three hA
    obtain ⟨l0, hl0⟩ := open_rcs (hval 0 22 v0 rfl rfl) h0
    obtain ⟨q1, rfl⟩ := open_rect (hval 1 40 v1 rfl rfl) h1
    obtain ⟨q2, rfl⟩ := open_rect (hval 2 40 v2 rfl rfl) h2
    exact law_apart v0 l0 q1 q2 W 0 hl0

theorem rgApart_holds : Rows.RegionApartSaid :=
  OpenClaim.holds_of_wide 6 Try.f6 rfl rfl rfl rfl rfl rfl rfl ⟨rfl, rfl, rfl, rfl, rfl⟩ rfl rfl rfl rfl rfl (by kernel_rfl) Try.func6 (by kernel_rfl)
    (of_decide_eq_true (by kernel_rfl)) (by unfold Func.isWrapper; first | (rw [if_pos (by decide +kernel)]; kernel_rfl) | (rw [if_neg (by decide +kernel)]; exact ⟨rfl, rfl⟩))
    (fun os started H enc _ => by have h := rgApart_lifted os started H enc; simp only [and_true] at h; exact h)
end Go.Proofs.Ytnbeopkpkagjmaa
