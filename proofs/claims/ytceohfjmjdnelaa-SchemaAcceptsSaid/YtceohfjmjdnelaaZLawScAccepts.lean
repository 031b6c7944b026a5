/-
  The statement SchemaAccepts, proved: rows are accepted as defined, for any definition and row. Conditions: none.
-/
import Derived.Test.YtceohfjmjdnelaaMS
namespace Go.Proofs.Ytceohfjmjdnelaa
set_option maxRecDepth 100000
open Go.ChangeShapes Go.WideShapes Go.ChangeAt Go.RowKit Go.Joins

set_option maxRecDepth 1000000 in
theorem schemaAccepts_lifted (os : Os) (started : os.Started) (H : Type) (enc : TypeId × Value → H) :
    ReturnsInHanded {} Try.checked os 5 .any (fun w args => (Rows.schemaAcceptsSpec.pre enc Try.prog Try.f5 [] false w args ∧ True) ∧ sizedMet enc Try.prog Try.f5 (OpenSpec.ofChange Rows.schemaAcceptsSpec) false w args)
      (Rows.schemaAcceptsSpec.post enc Try.prog Try.f5 false true false false) := by
  refine law_liftZ (C := Try.checked) (X := fun _ => True) rfl own started (by kernel_rfl) Try.func5 laidOut (by kernel_rfl) rfl Try.underlying4 ?_ (fun _ _ _ h => h)
    (ChangeSpec.witness_shaped (enc := enc) (C := Try.checked) (os := os) (X := fun _ _ => True) false (World.doorLaid Try.prog 4000 os) #[.agg #[.string ByteArray.empty, .slice none 0 0, .slice none 0 0, .slice none 0 0, .slice none 0 0], .slice none 0 0] 8 rfl (World.shaped_of_RefB (by kernel_rfl) (by kernel_rfl)) (by kernel_rfl) (by kernel_rfl) (by kernel_rfl) trivial) ?_
  · intro ds hd
    match ds, hd with
    | [d1, d2], _ => rfl
  · intro W base args ds ps hS hval hA _ _
    obtain ⟨m, hm⟩ := maxLen_cell hS
    rw [Try.params5] at hA hval
    obtain ⟨v0, v1, d0, d1, p0, p1, rfl, rfl, rfl, h0, h1⟩ := trodAll_two hA
    obtain ⟨n0, c0, k0, f0, x0, l0, rfl, hl0⟩ := open_tab (hval 0 27 v0 rfl rfl) h0
    obtain ⟨l1, hl1, _⟩ := open_valsU (hval 1 33 v1 rfl rfl) h1
    exact law_accepts n0 c0 k0 f0 x0 v1 l0 l1 m W hm hl0 hl1

theorem schemaAccepts_holds : Rows.SchemaAcceptsSaid :=
  OpenClaim.holds_of_wide 5 Try.f5 rfl rfl rfl rfl rfl rfl rfl ⟨rfl, rfl, rfl, rfl, rfl⟩ rfl rfl rfl rfl rfl (by kernel_rfl) Try.func5 (by kernel_rfl)
    (of_decide_eq_true (by kernel_rfl)) (by unfold Func.isWrapper; first | (rw [if_pos (by decide +kernel)]; kernel_rfl) | (rw [if_neg (by decide +kernel)]; exact ⟨rfl, rfl⟩))
    (fun os started H enc _ => by have h := schemaAccepts_lifted os started H enc; simp only [and_true] at h; exact h)
end Go.Proofs.Ytceohfjmjdnelaa
