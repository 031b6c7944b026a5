import Derived.Test.YteihjneeiojgaaaGreatMT
import Derived.Test.YteihjneeiojgaaaGreatPC
import Derived.Test.YteihjneeiojgaaaGreatSEoA
import Derived.WalkKit
import Derived.WalkSpells
import Derived.WalkLawsBesides
import Derived.Deep.QuietTactic
import Derived.BigQuiet
import Derived.Handy
import Derived.Lib.Hide
/-
  The reference's Ints and Kinds; Key of both. Conditions: lengths.
-/
namespace Go.Proofs.YteihjneeiojgaaaGreat
set_option maxRecDepth 100000
set_option linter.unusedVariables false
set_option linter.unusedSimpArgs false
open Go.RowKit

set_option maxRecDepth 100000 in
set_option maxHeartbeats 3200000 in
theorem rKinds_any (nm vc vk vf vx : Value) (cs : List Cl) (w : World) (L : Nat) (hc : RdK w L w.heap.size vc cs) (hlen : cs.length ≤ 1099511627776) :
    Calls Tryz.prog 73 #[.agg #[nm, vc, vk, vf, vx]] w fun e w' => ∃ u, e = .returned u ∧ RdI w' 0 w'.heap.size u (cs.map kdC) ∧ Below w.heap.size w w' := by
  obtain ⟨A, c, rfl, hl1, hc1⟩ := hc
  have HC := Lib.hid hc1
  have b1 := bel_mark w (.cells #[nm, .slice A cs.length c, vk, vf, vx] 27)
  have HO := Lib.hid ((Own.new w 27 #[nm, .slice A cs.length c, vk, vf, vx]).alloc (.cells #[] 3))
  have HB := Lib.hid (b1.trans ((bel_mark _ (.cells #[] 3)).mono b1.size))
  clear hc1 b1
  go_enter Tryz.func73, Tryz.ntmps73
  have HW := Lib.hid (show ((w.alloc (.cells #[nm, .slice A cs.length c, vk, vf, vx] 27)).alloc (.cells #[] 3)).ownsRow (w.heap.size + 1) 3 1 (.slice (some ⟨w.heap.size + 1, 0, none⟩) 0 0) ((cs.take 0).map kdC).length (intsV ((cs.take 0).map kdC)) from
    ⟨rfl, .inr ⟨w.heap.size + 1, 0, #[], rfl, Nat.le_refl _, by have h := heap_alloc_new (w.alloc (.cells #[nm, .slice A cs.length c, vk, vf, vx] 27)) (.cells #[] 3); rw [World.size_alloc] at h; exact h, Nat.le_refl _, Nat.zero_le _, rfl, rfl⟩⟩)
  go_wp2_with fail
  go_loopw [3, 4] (fun vb i wr => ∃ k : Nat, k ≤ cs.length ∧ i = .int .i64 k ∧ Hid (wr.ownsRow (w.heap.size + 1) 3 1 vb ((cs.take k).map kdC).length (intsV ((cs.take k).map kdC))) ∧ Hid (Own wr w.heap.size 27 #[nm, .slice A cs.length c, vk, vf, vx]) ∧ Below w.heap.size w wr) (fun _ i _ => cs.length - (intOf i).toNat)
  case atStart => exact ⟨0, Nat.zero_le _, rfl, HW, HO, HB.out⟩
  case round =>
    obtain ⟨k, hk, rfl, HR, HO2, hbr⟩ := hrel
    have hbz := hbr.size
    have d1 := HO2.out.cell 1
    by_cases hlt : k < cs.length
    · have hki : (k : Int) < cs.length := by omega
      obtain ⟨ad, rfl, _, hab, a0, a1, a2⟩ := HC.out k _ (List.getElem?_eq_getElem hlt)
      have htk : (cs.take (k + 1)).map kdC = (cs.take k).map kdC ++ [kdC cs[k]] := by rw [List.take_add_one, List.getElem?_eq_getElem hlt, List.map_append]; rfl
      generalize cs[k] = q at *
      obtain ⟨qn, qk, qb⟩ := q
      dsimp only at a0 a1 a2
      replace htk : (cs.take (k + 1)).map kdC = (cs.take k).map kdC ++ [qk] := htk
      have e1 := (hbr.cell (p := ⟨(ad.add (k * 3)).block, (ad.add (k * 3)).off + 1, none⟩) (by show (ad.add (k * 3)).block < _; rw [add_block]; exact hab)).trans a1
      have b2 := bel_mark wr (.cells #[.int .i64 qk] 3)
      have HR2 := Lib.hid (own_below HR.out b2)
      have HCU := Lib.hid (show (wr.alloc (.cells #[.int .i64 qk] 3)).cell? ⟨wr.heap.size, 0, none⟩ = some (.int .i64 qk) from (Own.new wr 3 #[.int .i64 qk]).cell 0)
      have HO3 := Lib.hid (HO2.out.below b2 HO2.out.lt)
      have HB2 := Lib.hid (hbr.trans (b2.mono hbz))
      have hlz : ((cs.take k).map kdC).length = k := by rw [List.length_map, List.length_take]; omega
      have HLZ := Lib.hid (show ((cs.take k).map kdC).length ≤ 1099511627776 by omega)
      have HZ2 := Lib.hid (show w.heap.size + 1 ≤ (wr.alloc (.cells #[.int .i64 qk] 3)).heap.size from HO3.out.lt)
      have HTK := Lib.hid htk
      clear a0 a1 a2 b2 htk hlz
      go_wp2_with (at_builtin; refine append_i _ rfl _ _ rfl (w.heap.size + 1) _ ((cs.take k).map kdC) rfl HR2.out wr.heap.size 1 qk rfl HCU.out HLZ.out HZ2.out ?_; intro v3 w3 hR3 hb3)
      have HO4 := Lib.hid (HO3.out.below hb3 (Nat.lt_succ_self _))
      have B3 := HB2.out.trans (hb3.mono (Nat.le_succ _))
      rw [← HTK.out] at hR3
      go_roundw
      case rel => exact ⟨k + 1, by omega, by go_num, Lib.hid hR3, HO4, B3⟩
      case measure => simp [intOf]; omega
    · have hki : ¬ (k : Int) < cs.length := by omega
      have hR := HR.out
      rw [List.take_of_length_le (by omega)] at hR
      have HF := Lib.hid (rdI_own hR (by rw [List.length_map]; exact hlen))
      clear hR
      go_wp2
      go_ret
      exact ⟨_, rfl, HF.out, hbr⟩
end Go.Proofs.YteihjneeiojgaaaGreat
