/-
  The statement CodecInts, proved: the encoding of any integer, and what is read from any bytes at any offset, for every slice of bytes and all numbers. Conditions: none.
-/
import Derived.Test.YtnkaiihjpemliaaFraO
import Derived.Test.YtnkaiihjpemliaaCoEq
namespace Go.Proofs.Ytnkaiihjpemliaa
open Go.ChangeShapes Go.WideShapes Go.ChangeAt Go.RowKit Go.Joins

set_option maxRecDepth 100000 in
theorem coInts_lifted (os : Os) (started : os.Started) (H : Type) (enc : TypeId × Value → H) :
    ReturnsInHanded {} Try.checked os 3 .any (fun w args => (Rows.codecIntsSpec.pre enc Try.prog Try.f3 [] false w args ∧ True) ∧ sizedMet enc Try.prog Try.f3 (OpenSpec.ofChange Rows.codecIntsSpec) false w args)
      (Rows.codecIntsSpec.post enc Try.prog Try.f3 false true false false) := by
  refine law_liftZ (C := Try.checked) (X := fun _ => True) rfl own started (by kernel_rfl) Try.func3 laidOut (by kernel_rfl) rfl Try.underlying4 ?_ (fun _ _ _ h => h)
    (ChangeSpec.witness_shaped (enc := enc) (C := Try.checked) (os := os) (X := fun _ _ => True) false (World.doorLaid Try.prog 4000 os) #[.slice none 0 0, .int .i64 0, .int .i64 0] 8 rfl (World.shaped_of_RefB (by kernel_rfl) (by kernel_rfl)) (by kernel_rfl) (by kernel_rfl) (by kernel_rfl) trivial) ?_
  · intro ds hd
    match ds, hd with
    | [d1, d2, d3], _ => rfl
  · intro W base args ds ps hS hval hA _ hz
    rw [Try.params3] at hA hval
    obtain ⟨v0, v1, v2, d0, d1, d2, p0, p1, p2, rfl, rfl, rfl, h0, h1, h2⟩ := trodAll_three hA
    obtain ⟨l0, hl0, hn0, hd0⟩ := open_bytesD (hval 0 22 v0 rfl rfl) h0
    have hz0 : l0.length ≤ 140737488351232 := by
      rcases hd0 with rfl | ⟨es, sp, rfl, he⟩
      · simp
      · exact bytes_bound (sized_slice hz (j := 0) rfl rfl Try.underlying22) he rfl
    obtain ⟨i1, rfl, rfl, rfl, wt1⟩ := open_int Try.underlying3 (hval 1 3 v1 rfl rfl) h1
    have wf1 := i64_wf wt1
    obtain ⟨i2, rfl, rfl, rfl, wt2⟩ := open_int Try.underlying3 (hval 2 3 v2 rfl rfl) h2
    have wf2 := i64_wf wt2
    exact law_ints v0 l0 i1 i2 W 0 hl0 hn0 wf1 (by omega)

theorem coInts_holds : Rows.CodecIntsSaid :=
  OpenClaim.holds_of_wide 3 Try.f3 rfl rfl rfl rfl rfl rfl rfl ⟨rfl, rfl, rfl, rfl, rfl⟩ rfl rfl rfl rfl rfl (by kernel_rfl) Try.func3 (by kernel_rfl)
    (of_decide_eq_true (by kernel_rfl)) (by unfold Func.isWrapper; first | (rw [if_pos (by decide +kernel)]; kernel_rfl) | (rw [if_neg (by decide +kernel)]; exact ⟨rfl, rfl⟩))
    (fun os started H enc _ => by have h := coInts_lifted os started H enc; simp only [and_true] at h; exact h)
end Go.Proofs.Ytnkaiihjpemliaa
