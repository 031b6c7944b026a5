/-
  The statement StepsPoints, proved: the value of a combination at any instant is the combination of the values, and the results are valid. Conditions: none.
-/
import Derived.Test.YtbdioabeopnfeaaFraT
import Derived.Test.YtbdioabeopnfeaaWTP
namespace Go.Proofs.Ytbdioabeopnfeaa
open Go.ChangeShapes Go.WideShapes Go.ChangeAt Go.RowKit Go.Joins

set_option maxRecDepth 100000 in
theorem stPoints_lifted (os : Os) (started : os.Started) (H : Type) (enc : TypeId × Value → H) :
    ReturnsInHanded {} Try.checked os 7 .any (fun w args => (Rows.stepsPointsSpec.pre enc Try.prog Try.f7 [] false w args ∧ True) ∧ sizedMet enc Try.prog Try.f7 (OpenSpec.ofChange Rows.stepsPointsSpec) false w args)
      (Rows.stepsPointsSpec.post enc Try.prog Try.f7 false true false false) := by
  refine law_lift (C := Try.checked) (X := fun _ => True) rfl own started (by kernel_rfl) Try.func7 laidOut (by kernel_rfl) rfl Try.underlying4 ?_ (fun _ _ _ h => h)
    (ChangeSpec.witness_shaped (enc := enc) (C := Try.checked) (os := os) (X := fun _ _ => True) false (World.doorLaid Try.prog 4000 os) #[.slice none 0 0, .slice none 0 0, .int .i64 0] 8 rfl (World.shaped_of_RefB (by kernel_rfl) (by kernel_rfl)) (by kernel_rfl) (by kernel_rfl) (by kernel_rfl) trivial) ?_
  · intro ds hd
    match ds, hd with
    | [d1, d2, d3], _ => rfl
  · intro W base args ds ps hS hval hA _
    rw [Try.params7] at hA hval
    obtain ⟨v0, v1, v2, d0, d1, d2, p0, p1, p2, rfl, rfl, rfl, h0, h1, h2⟩ := trodAll_three hA
    obtain ⟨l0, hl0⟩ := open_stps (hval 0 22 v0 rfl rfl) h0
    obtain ⟨l1, hl1⟩ := open_stps (hval 1 22 v1 rfl rfl) h1
    obtain ⟨t, rfl, rfl, rfl, wt⟩ := open_int Try.underlying3 (hval 2 3 v2 rfl rfl) h2
    exact law_points v0 v1 l0 l1 t W 0 0 hl0 hl1

theorem stPoints_holds : Rows.StepsPointsSaid :=
  OpenClaim.holds_of_wide 7 Try.f7 rfl rfl rfl rfl rfl rfl rfl ⟨rfl, rfl, rfl, rfl, rfl⟩ rfl rfl rfl rfl rfl (by kernel_rfl) Try.func7 (by kernel_rfl)
    (of_decide_eq_true (by kernel_rfl)) (by unfold Func.isWrapper; first | (rw [if_pos (by decide +kernel)]; kernel_rfl) | (rw [if_neg (by decide +kernel)]; exact ⟨rfl, rfl⟩))
    (fun os started H enc _ => by have h := stPoints_lifted os started H enc; simp only [and_true] at h; exact h)
end Go.Proofs.Ytbdioabeopnfeaa
