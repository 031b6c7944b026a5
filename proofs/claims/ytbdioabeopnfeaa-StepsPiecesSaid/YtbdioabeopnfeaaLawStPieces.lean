/-
  The statement StepsPieces, proved: Of does not depend on the order of the pieces, and it is additive. Conditions: none.
-/
import Derived.Test.YtbdioabeopnfeaaFraT
import Derived.Test.YtbdioabeopnfeaaWTQ
namespace Go.Proofs.Ytbdioabeopnfeaa
open Go.ChangeShapes Go.WideShapes Go.ChangeAt Go.RowKit Go.Joins

set_option maxRecDepth 100000 in
theorem stPieces_lifted (os : Os) (started : os.Started) (H : Type) (enc : TypeId × Value → H) :
    ReturnsInHanded {} Try.checked os 8 .any (fun w args => (Rows.stepsPiecesSpec.pre enc Try.prog Try.f8 [] false w args ∧ True) ∧ sizedMet enc Try.prog Try.f8 (OpenSpec.ofChange Rows.stepsPiecesSpec) false w args)
      (Rows.stepsPiecesSpec.post enc Try.prog Try.f8 false true false false) := by
  refine law_lift (C := Try.checked) (X := fun _ => True) rfl own started (by kernel_rfl) Try.func8 laidOut (by kernel_rfl) rfl Try.underlying4 ?_ (fun _ _ _ h => h)
    (ChangeSpec.witness_shaped (enc := enc) (C := Try.checked) (os := os) (X := fun _ _ => True) false (World.doorLaid Try.prog 4000 os) #[.slice none 0 0, .slice none 0 0] 8 rfl (World.shaped_of_RefB (by kernel_rfl) (by kernel_rfl)) (by kernel_rfl) (by kernel_rfl) (by kernel_rfl) trivial) ?_
  · intro ds hd
    match ds, hd with
    | [d1, d2], _ => rfl
  · intro W base args ds ps hS hval hA _
    rw [Try.params8] at hA hval
    obtain ⟨v0, v1, d0, d1, p0, p1, rfl, rfl, rfl, h0, h1⟩ := trodAll_two hA
    obtain ⟨l0, hl0⟩ := open_pcs (hval 0 27 v0 rfl rfl) h0
    obtain ⟨l1, hl1⟩ := open_pcs (hval 1 27 v1 rfl rfl) h1
    exact law_pieces v0 v1 l0 l1 W 0 0 hl0 hl1

theorem stPieces_holds : Rows.StepsPiecesSaid :=
  OpenClaim.holds_of_wide 8 Try.f8 rfl rfl rfl rfl rfl rfl rfl ⟨rfl, rfl, rfl, rfl, rfl⟩ rfl rfl rfl rfl rfl (by kernel_rfl) Try.func8 (by kernel_rfl)
    (of_decide_eq_true (by kernel_rfl)) (by unfold Func.isWrapper; first | (rw [if_pos (by decide +kernel)]; kernel_rfl) | (rw [if_neg (by decide +kernel)]; exact ⟨rfl, rfl⟩))
    (fun os started H enc _ => by have h := stPieces_lifted os started H enc; simp only [and_true] at h; exact h)
end Go.Proofs.Ytbdioabeopnfeaa
