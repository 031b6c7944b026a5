/-
  The statement CodecPeriods, proved: the encoding of any period, and which period is read from any bytes, for every slice of bytes and all numbers. Conditions: none.
-/
import Derived.Test.YtomiegfblhhhpaaFraQ
import Derived.Test.YtomiegfblhhhpaaCoQb
namespace Go.Proofs.Ytomiegfblhhhpaa
open Go.ChangeShapes Go.WideShapes Go.ChangeAt Go.RowKit Go.Joins

set_option maxRecDepth 100000 in
theorem coPeriods_lifted (os : Os) (started : os.Started) (H : Type) (enc : TypeId × Value → H) :
    ReturnsInHanded {} Try.checked os 7 .any (fun w args => (Rows.codecPeriodsSpec.pre enc Try.prog Try.f7 [] false w args ∧ True) ∧ sizedMet enc Try.prog Try.f7 (OpenSpec.ofChange Rows.codecPeriodsSpec) false w args)
      (Rows.codecPeriodsSpec.post enc Try.prog Try.f7 false true false false) := by
  refine law_liftZ (C := Try.checked) (X := fun _ => True) rfl own started (by kernel_rfl) Try.func7 laidOut (by kernel_rfl) rfl Try.underlying4 ?_ (fun _ _ _ h => h)
    (ChangeSpec.witness_shaped (enc := enc) (C := Try.checked) (os := os) (X := fun _ _ => True) false (World.doorLaid Try.prog 4000 os) #[.slice none 0 0, .agg #[.int .i64 0, .int .i64 0], .int .i64 0] 8 rfl (World.shaped_of_RefB (by kernel_rfl) (by kernel_rfl)) (by kernel_rfl) (by kernel_rfl) (by kernel_rfl) trivial) ?_
  · intro ds hd
    match ds, hd with
    | [d1, d2, d3], _ => rfl
  · intro W base args ds ps hS hval hA _ hz
    rw [Try.params7] at hA hval
    obtain ⟨v0, v1, v2, d0, d1, d2, p0, p1, p2, rfl, rfl, rfl, h0, h1, h2⟩ := trodAll_three hA
    obtain ⟨l0, hl0, hn0, hd0⟩ := open_bytesD (hval 0 22 v0 rfl rfl) h0
    have hz0 : l0.length ≤ 140737488351232 := by
      rcases hd0 with rfl | ⟨es, sp, rfl, he⟩
      · simp
      · exact bytes_bound (sized_slice hz (j := 0) rfl rfl Try.underlying22) he rfl
    obtain ⟨a1, b1, rfl, wa1, wb1⟩ := open_perI (hval 1 49 v1 rfl rfl) h1
    obtain ⟨i2, rfl, rfl, rfl, wt2⟩ := open_int Try.underlying3 (hval 2 3 v2 rfl rfl) h2
    have wf2 := i64_wf wt2
    exact law_periods v0 l0 a1 b1 i2 W 0 hl0 hn0 wa1 wb1 (by omega)

theorem coPeriods_holds : Rows.CodecPeriodsSaid :=
  OpenClaim.holds_of_wide 7 Try.f7 rfl rfl rfl rfl rfl rfl rfl ⟨rfl, rfl, rfl, rfl, rfl⟩ rfl rfl rfl rfl rfl (by kernel_rfl) Try.func7 (by kernel_rfl)
    (of_decide_eq_true (by kernel_rfl)) (by unfold Func.isWrapper; first | (rw [if_pos (by decide +kernel)]; kernel_rfl) | (rw [if_neg (by decide +kernel)]; exact ⟨rfl, rfl⟩))
    (fun os started H enc _ => by have h := coPeriods_lifted os started H enc; simp only [and_true] at h; exact h)
end Go.Proofs.Ytomiegfblhhhpaa
