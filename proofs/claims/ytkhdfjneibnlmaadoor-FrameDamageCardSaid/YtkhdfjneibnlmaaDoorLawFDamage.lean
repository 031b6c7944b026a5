/-
  The statement FrameDamage, proved: inverting any bit after the first four bytes of a frame is detected. Conditions: the card's own (the listed package-level variables read as the program's text lays them, which the card ties).
-/
import Derived.Test.YtkhdfjneibnlmaaDoorFraF
import Derived.Test.YtkhdfjneibnlmaaDoorWFDamage
import Derived.Test.YtkhdfjneibnlmaaDoorBulk
import Derived.Test.YtkhdfjneibnlmaaDoorCards
import Derived.Test.YtkhdfjneibnlmaaDoorTie
import Derived.SevenTiedAt
namespace Go.Proofs.YtkhdfjneibnlmaaDoor
open Go.ChangeShapes Go.WideShapes Go.ChangeAt Go.RowKit Go.Joins

set_option maxRecDepth 1000000 in
theorem frameDamage_lifted (os : Os) (started : os.Started) (H : Type) (enc : TypeId × Value → H) :
    ReturnsInHanded {} Tryd.checked os 8 .any (fun w args => (Rows.frameDamageSpec.pre enc Tryd.prog Tryd.f8 [] false w args ∧ laidMetH Tryd.prog laid1 w) ∧ sizedMet enc Tryd.prog Tryd.f8 (OpenSpec.ofChange Rows.frameDamageSpec) false w args)
      (Rows.frameDamageSpec.post enc Tryd.prog Tryd.f8 false true false false) := by
  refine law_liftZ (C := Tryd.checked) (X := fun w => laidMetH Tryd.prog laid1 w) rfl own started (by kernel_rfl) Tryd.func8 laidOut (by kernel_rfl) rfl Tryd.underlying4 ?_ (fun _ _ hh h => h.of_heap hh)
    (ChangeSpec.witness_shaped (enc := enc) (C := Tryd.checked) (os := os) (X := fun w _ => laidMetH Tryd.prog laid1 w) false (World.laidAll Tryd.prog os laid1) #[.slice none 0 0, .slice none 0 0, .int .u16 0, .int .u8 0] 8 (World.laidAll_os _ _ _) (start_shaped os) (by kernel_rfl) (by kernel_rfl) (by kernel_rfl) (start_met os _)) ?_
  · intro ds hd
    match ds, hd with
    | [d1, d2, d3, d4], _ => rfl
  · intro W base args ds ps hS hval hA hL hz
    have henv := env_of hS hL
    rw [Tryd.params8] at hA hval
    obtain ⟨v0, v1, v2, v3, d0, d1, d2, d3, p0, p1, p2, p3, rfl, rfl, rfl, h0, h1, h2, h3⟩ := trodAll_four hA
    obtain ⟨l0, hl0, hn0, hd0⟩ := open_bytesD (hval 0 22 v0 rfl rfl) h0
    have hz0 : l0.length ≤ 1099511627776000 := by
      rcases hd0 with rfl | ⟨es, sp, rfl, he⟩
      · simp
      · have h := sized_slice hz (j := 0) rfl rfl Tryd.underlying22
        rw [show Tryd.checked.prog.bytesOf 5 = 1 by kernel_rfl] at h
        have h2 := reachBytes_lt
        omega
    obtain ⟨l1, hl1, hn1, hd1⟩ := open_bytesD (hval 1 22 v1 rfl rfl) h1
    have hz1 : l1.length ≤ 1099511627776000 := by
      rcases hd1 with rfl | ⟨es, sp, rfl, he⟩
      · simp
      · have h := sized_slice hz (j := 1) rfl rfl Tryd.underlying22
        rw [show Tryd.checked.prog.bytesOf 5 = 1 by kernel_rfl] at h
        have h2 := reachBytes_lt
        omega
    obtain ⟨i2, rfl, rfl, rfl, hi2⟩ := open_int Tryd.underlying45 (hval 2 45 v2 rfl rfl) h2
    simp only [Lit.wf, Bool.and_eq_true, decide_eq_true_eq] at hi2
    rw [show IntKind.u16.min = 0 by rfl, show IntKind.u16.max = 65535 by rfl] at hi2
    obtain ⟨j2, rfl⟩ := Int.eq_ofNat_of_zero_le hi2.1
    obtain ⟨i3, rfl, rfl, rfl, hi3⟩ := open_int Tryd.underlying5 (hval 3 5 v3 rfl rfl) h3
    simp only [Lit.wf, Bool.and_eq_true, decide_eq_true_eq] at hi3
    rw [show IntKind.u8.min = 0 by rfl, show IntKind.u8.max = 255 by rfl] at hi3
    obtain ⟨j3, rfl⟩ := Int.eq_ofNat_of_zero_le hi3.1
    exact law_damage v0 v1 l0 l1 j2 j3 W 0 0 henv hl0 hl1 hn1 hz0 hz1 (by omega) (by omega)

theorem frameDamage_said : Rows.FrameDamageSaid :=
  OpenClaim.holds_of_wide 8 Tryd.f8 rfl rfl rfl rfl rfl rfl rfl ⟨rfl, rfl, rfl, rfl, rfl⟩ rfl rfl rfl rfl rfl (by kernel_rfl) Tryd.func8 (by kernel_rfl)
    (of_decide_eq_true (by kernel_rfl)) (by unfold Func.isWrapper; first | (rw [if_pos (by decide +kernel)]; kernel_rfl) | (rw [if_neg (by decide +kernel)]; exact ⟨rfl, rfl⟩))
    (fun os started H enc _ => frameDamage_lifted os started H enc)

theorem frameDamage_holds : Rows.FrameDamageCardSaid :=
  Claim7.holds_tied_plain_at .later [] [.data] true _ false
    frameDamage_said (fun _ h => by cases h) (by kernel_rfl) (fun _ h => by cases h) frameDamage_row_tie rfl ⟨rfl, rfl⟩ (by kernel_rfl) rfl
    (fun f fn hf hfn => by
      obtain rfl : f = 8 := Option.some.inj ((show Tryd.prog.funcNamed "bitemporal/bitemporallaw10.FrameDamage" = some 8 by kernel_rfl).symm.trans hf) |>.symm
      obtain rfl : fn = Tryd.f8 := (Option.some.inj (Tryd.func8.symm.trans hfn)).symm
      exact ⟨by kernel_rfl, fun j t ht => by
        have hall : (Tryd.f8.params.toList.all fun u => !Tryd.prog.wantsStandIn u) = true := by kernel_rfl
        have hm : t ∈ Tryd.f8.params.toList := by simpa using Array.mem_of_getElem? ht
        exact (show Tryd.prog.wantsStandIn t = false by simpa using List.all_eq_true.1 hall t hm)⟩)
    (by kernel_rfl)
end Go.Proofs.YtkhdfjneibnlmaaDoor
