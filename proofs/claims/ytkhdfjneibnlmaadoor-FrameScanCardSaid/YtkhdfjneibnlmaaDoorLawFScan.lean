/-
  The statement FrameScan, proved: which frames are found in any bytes. Conditions: the card's own (the listed package-level variables read as the program's text lays them, which the card ties).
-/
import Derived.Test.YtkhdfjneibnlmaaDoorFraF
import Derived.Test.YtkhdfjneibnlmaaDoorWFScan
import Derived.Test.YtkhdfjneibnlmaaDoorCards
import Derived.Test.YtkhdfjneibnlmaaDoorTie
import Derived.SevenTiedAt
namespace Go.Proofs.YtkhdfjneibnlmaaDoor
open Go.ChangeShapes Go.WideShapes Go.ChangeAt Go.RowKit Go.Joins

set_option maxRecDepth 1000000 in
theorem frameScan_lifted (os : Os) (started : os.Started) (H : Type) (enc : TypeId × Value → H) :
    ReturnsInHanded {} Tryd.checked os 6 .any (fun w args => (Rows.frameScanSpec.pre enc Tryd.prog Tryd.f6 [] false w args ∧ laidMetH Tryd.prog laid1 w) ∧ sizedMet enc Tryd.prog Tryd.f6 (OpenSpec.ofChange Rows.frameScanSpec) false w args)
      (Rows.frameScanSpec.post enc Tryd.prog Tryd.f6 false true false false) := by
  refine law_lift (C := Tryd.checked) (X := fun w => laidMetH Tryd.prog laid1 w) rfl own started (by kernel_rfl) Tryd.func6 laidOut (by kernel_rfl) rfl Tryd.underlying4 ?_ (fun _ _ hh h => h.of_heap hh)
    (ChangeSpec.witness_shaped (enc := enc) (C := Tryd.checked) (os := os) (X := fun w _ => laidMetH Tryd.prog laid1 w) false (World.laidAll Tryd.prog os laid1) #[.slice none 0 0] 8 (World.laidAll_os _ _ _) (start_shaped os) (by kernel_rfl) (by kernel_rfl) (by kernel_rfl) (start_met os _)) ?_
  · intro ds hd
    match ds, hd with
    | [d1], _ => rfl
  · intro W base args ds ps hS hval hA hL
    have henv := env_of hS hL
    rw [Tryd.params6] at hA hval
    obtain ⟨v0, d0, rfl, rfl, h0⟩ := trodAll_one hA
    obtain ⟨l0, hl0, hn0⟩ := open_bytes (hval 0 22 v0 rfl rfl) h0
    exact law_scan v0 l0 W 0 henv hl0

theorem frameScan_said : Rows.FrameScanSaid :=
  OpenClaim.holds_of_wide 6 Tryd.f6 rfl rfl rfl rfl rfl rfl rfl ⟨rfl, rfl, rfl, rfl, rfl⟩ rfl rfl rfl rfl rfl (by kernel_rfl) Tryd.func6 (by kernel_rfl)
    (of_decide_eq_true (by kernel_rfl)) (by unfold Func.isWrapper; first | (rw [if_pos (by decide +kernel)]; kernel_rfl) | (rw [if_neg (by decide +kernel)]; exact ⟨rfl, rfl⟩))
    (fun os started H enc _ => frameScan_lifted os started H enc)

theorem frameScan_holds : Rows.FrameScanCardSaid :=
  Claim7.holds_tied_plain_at .later [] [.data] true _ false
    frameScan_said (fun _ h => by cases h) (by kernel_rfl) (fun _ h => by cases h) frameScan_row_tie rfl ⟨rfl, rfl⟩ (by kernel_rfl) rfl
    (fun f fn hf hfn => by
      obtain rfl : f = 6 := Option.some.inj ((show Tryd.prog.funcNamed "bitemporal/bitemporallaw10.FrameScan" = some 6 by kernel_rfl).symm.trans hf) |>.symm
      obtain rfl : fn = Tryd.f6 := (Option.some.inj (Tryd.func6.symm.trans hfn)).symm
      exact ⟨by kernel_rfl, fun j t ht => by
        have hall : (Tryd.f6.params.toList.all fun u => !Tryd.prog.wantsStandIn u) = true := by kernel_rfl
        have hm : t ∈ Tryd.f6.params.toList := by simpa using Array.mem_of_getElem? ht
        exact (show Tryd.prog.wantsStandIn t = false by simpa using List.all_eq_true.1 hall t hm)⟩)
    (by kernel_rfl)
end Go.Proofs.YtkhdfjneibnlmaaDoor
