/-
  The statement StepsRebuilt, proved: a step function is the sum of its levels. Conditions: none.
-/
import Derived.Test.YtbdioabeopnfeaaFraT
import Derived.Test.YtbdioabeopnfeaaWTR
namespace Go.Proofs.Ytbdioabeopnfeaa
open Go.ChangeShapes Go.WideShapes Go.ChangeAt Go.RowKit Go.Joins

set_option maxRecDepth 100000 in
theorem stRebuilt_lifted (os : Os) (started : os.Started) (H : Type) (enc : TypeId × Value → H) :
    ReturnsInHanded {} Try.checked os 9 .any (fun w args => (Rows.stepsRebuiltSpec.pre enc Try.prog Try.f9 [] false w args ∧ True) ∧ sizedMet enc Try.prog Try.f9 (OpenSpec.ofChange Rows.stepsRebuiltSpec) false w args)
      (Rows.stepsRebuiltSpec.post enc Try.prog Try.f9 false true false false) := by
  refine law_lift (C := Try.checked) (X := fun _ => True) rfl own started (by kernel_rfl) Try.func9 laidOut (by kernel_rfl) rfl Try.underlying4 ?_ (fun _ _ _ h => h)
    (ChangeSpec.witness_shaped (enc := enc) (C := Try.checked) (os := os) (X := fun _ _ => True) false (World.doorLaid Try.prog 4000 os) #[.slice none 0 0] 8 rfl (World.shaped_of_RefB (by kernel_rfl) (by kernel_rfl)) (by kernel_rfl) (by kernel_rfl) (by kernel_rfl) trivial) ?_
  · intro ds hd
    match ds, hd with
    | [d1], _ => rfl
  · intro W base args ds ps hS hval hA _
    rw [Try.params9] at hA hval
    obtain ⟨v0, d0, rfl, rfl, h0⟩ := trodAll_one hA
    obtain ⟨l0, hl0⟩ := open_stps (hval 0 22 v0 rfl rfl) h0
    exact law_rebuilt v0 l0 W 0 hl0

theorem stRebuilt_holds : Rows.StepsRebuiltSaid :=
  OpenClaim.holds_of_wide 9 Try.f9 rfl rfl rfl rfl rfl rfl rfl ⟨rfl, rfl, rfl, rfl, rfl⟩ rfl rfl rfl rfl rfl (by kernel_rfl) Try.func9 (by kernel_rfl)
    (of_decide_eq_true (by kernel_rfl)) (by unfold Func.isWrapper; first | (rw [if_pos (by decide +kernel)]; kernel_rfl) | (rw [if_neg (by decide +kernel)]; exact ⟨rfl, rfl⟩))
    (fun os started H enc _ => by have h := stRebuilt_lifted os started H enc; simp only [and_true] at h; exact h)
end Go.Proofs.Ytbdioabeopnfeaa
