import Derived.Test.YtjdbjnmnihnmhaaSA
import Derived.WalkKit
import Derived.WalkSpells
import Derived.WalkLawsBesides
import Derived.Deep.QuietTactic
import Derived.BigQuiet
import Derived.Handy
import Derived.Lib.Hide
import Derived.Test.YtjdbjnmnihnmhaaMC
import Derived.Test.YtjdbjnmnihnmhaaMW
import Derived.Test.YtjdbjnmnihnmhaaMA
/-
  The table of the examples. Conditions: none.
-/
namespace Go.Proofs.Ytjdbjnmnihnmhaa
set_option maxRecDepth 100000
set_option linter.unusedVariables false
set_option linter.unusedSimpArgs false
open Go.RowKit

def smC : List Cl := [(⟨#[97]⟩, 1, false), (⟨#[98]⟩, 2, true)]
def smV (h g : Nat) : Value := .agg #[.string ⟨#[116]⟩, .slice (some ⟨h, 0, none⟩) 2 2, .slice (some ⟨g, 0, none⟩) 1 1, .slice none 0 0, .slice none 0 0]
theorem load_tab {w : World} {g : Nat} {a b c d e : Value} (h : Own w g 27 #[a, b, c, d, e]) : (loadVar 27 ⟨g, 0, none⟩).run Try.prog w = .ok (.agg #[a, b, c, d, e]) w :=
  run_loadVar_row w g 27 27 #[a, b, c, d, e] (0, 0) _ h Try.underlying27 rfl (by kernel_rfl)
set_option maxRecDepth 100000 in
set_option maxHeartbeats 3200000 in
theorem sample_any (w : World) : Calls Try.prog 21 #[] w fun e w' => ∃ h g, e = .returned (smV h g) ∧ w.heap.size ≤ h ∧ h < g ∧ Own w' h 33 #[.string ⟨#[97]⟩, .int .i64 1, .bool false, .string ⟨#[98]⟩, .int .i64 2, .bool true] ∧ Own w' g 3 #[.int .i64 0] ∧ Below w.heap.size w w' := by
  go_enter Try.func21, Try.ntmps21
  go_wp2_with fail
  (try simp only [Exit.inBlock, Exit.then])
  refine bodyPost_ret_by (results_cell_row1 (by rfl) _ _ w.heap.size _ (by rfl) (load_tab (((Own.new w _ _).alloc _).alloc _))) ?_ ?_
  · rfl
  refine ⟨w.heap.size + 1, w.heap.size + 1 + 1, rfl, Nat.le_succ _, Nat.lt_succ_self _, (own_two2 _).alloc _, ?_, ?_⟩
  · have h := own_two2 (w := w.alloc (.cells #[.string ⟨#[116]⟩, .slice (some ⟨w.heap.size + 1, 0, none⟩) 2 2, .slice (some ⟨w.heap.size + 1 + 1, 0, none⟩) 1 1, .slice none 0 0, .slice none 0 0] 27)) (t := 3) (cs := #[.int .i64 0]) (.cells #[.string ⟨#[97]⟩, .int .i64 1, .bool false, .string ⟨#[98]⟩, .int .i64 2, .bool true] 33)
    rw [World.size_alloc] at h
    exact h
  · have b1 := bel_mark w (.cells #[.string ⟨#[116]⟩, .slice (some ⟨w.heap.size + 1, 0, none⟩) 2 2, .slice (some ⟨w.heap.size + 1 + 1, 0, none⟩) 1 1, .slice none 0 0, .slice none 0 0] 27)
    have b2 := b1.trans ((bel_mark _ (.cells #[.string ⟨#[97]⟩, .int .i64 1, .bool false, .string ⟨#[98]⟩, .int .i64 2, .bool true] 33)).mono b1.size)
    exact b2.trans ((bel_mark _ _).mono b2.size)
end Go.Proofs.Ytjdbjnmnihnmhaa
/-
  The examples of the chapter hold. Conditions: the search's variable holds some number.
-/
namespace Go.Proofs.Ytjdbjnmnihnmhaa
set_option maxRecDepth 100000
set_option linter.unusedVariables false
set_option linter.unusedSimpArgs false
open Go.RowKit

theorem rdK_sm {w : World} {h : Nat} (ho : Own w h 33 #[.string ⟨#[97]⟩, .int .i64 1, .bool false, .string ⟨#[98]⟩, .int .i64 2, .bool true]) : RdK w 0 w.heap.size (.slice (some ⟨h, 0, none⟩) 2 2) smC := by
  refine ⟨_, _, rfl, by simp [smC], fun k q hk => ⟨_, rfl, Nat.zero_le _, ho.lt, ?_⟩⟩
  rw [addZ13]
  have hk2 : k = 0 ∨ k = 1 := by have := (List.getElem?_eq_some_iff.1 hk).1; simp [smC] at this; omega
  rcases hk2 with rfl | rfl
  · obtain rfl := Option.some.inj hk
    exact ⟨ho.cell 0, ho.cell 1, ho.cell 2⟩
  · obtain rfl := Option.some.inj hk
    exact ⟨ho.cell 3, ho.cell 4, ho.cell 5⟩
theorem rdV_two {w : World} {g : Nat} {p q : Vl} (h : Own w g 41 #[.int .i64 p.1, .int .i64 p.2.1, .string p.2.2, .int .i64 q.1, .int .i64 q.2.1, .string q.2.2]) : RdV w 0 w.heap.size (.slice (some ⟨g, 0, none⟩) 2 2) [p, q] := by
  refine ⟨_, _, rfl, by simp, fun k r hk => ⟨_, rfl, Nat.zero_le _, h.lt, ?_⟩⟩
  rw [addZ13]
  have hk2 : k = 0 ∨ k = 1 := by have := (List.getElem?_eq_some_iff.1 hk).1; simp at this; omega
  rcases hk2 with rfl | rfl
  · obtain rfl := Option.some.inj hk
    exact ⟨h.cell 0, h.cell 1, h.cell 2⟩
  · obtain rfl := Option.some.inj hk
    exact ⟨h.cell 3, h.cell 4, h.cell 5⟩
theorem rdI_one {w : World} {g : Nat} {z : Int} (h : Own w g 3 #[.int .i64 z]) : RdI w 0 w.heap.size (.slice (some ⟨g, 0, none⟩) 1 1) [z] := by
  refine ⟨_, _, rfl, by simp, fun k r hk => ⟨_, rfl, Nat.zero_le _, h.lt, ?_⟩⟩
  rw [addZ13]
  have hk2 : k = 0 := by have := (List.getElem?_eq_some_iff.1 hk).1; simp at this; omega
  subst hk2
  obtain rfl := Option.some.inj hk
  exact h.cell 0
theorem ex_n1 : nameS [120, 95, 49] = true := by decide +kernel
theorem ex_n2 : nameS [115, 101, 108, 101, 99, 116] = false := by decide +kernel
theorem ex_n3 : nameS [83, 101, 108, 101, 99, 116] = false := by decide +kernel
theorem ex_c1 : chkS [116] smC [0] = 0 := by decide +kernel
theorem ex_c2 : chkS [116] smC [1] = 12 := by decide +kernel
theorem ex_a1 : accS smC [(1, 1, ⟨#[]⟩), (0, 0, ⟨#[]⟩)] = 0 := by decide +kernel
theorem ex_a2 : accS smC [(0, 0, ⟨#[]⟩), (2, 0, ⟨#[120]⟩)] = 12 := by decide +kernel
theorem ex_a3 : accS smC [(2, 0, ⟨#[120]⟩), (2, 0, ⟨#[120]⟩)] = 7 := by decide +kernel
theorem ex_v1 : Va.nrm 1 1 ⟨#[]⟩ = .agg #[.int .i64 1, .int .i64 1, .string ⟨#[]⟩] := by kernel_rfl
theorem ex_v2 : Va.nrm 2 0 ⟨#[120]⟩ = .agg #[.int .i64 2, .int .i64 0, .string ⟨#[120]⟩] := by kernel_rfl
set_option maxRecDepth 100000 in
set_option maxHeartbeats 25600000 in
theorem awake13_any (m : Int) (w : World) (hm : w.cell? ⟨0, 0, none⟩ = some (.int .i64 m)) :
    Calls Try.prog 7 #[] w fun e w' => e = .returned (.bool true) ∧ Below w.heap.size w w' := by
  have hm0 := World.block_lt_of_cell? w _ hm
  have HM := Lib.hid (fun W (h : Below w.heap.size w W) => (h.cell (p := ⟨0, 0, none⟩) hm0).trans hm)
  have HSA := Lib.hid (fun W => sample_any W)
  have HI := Lib.hid (fun W => ex_v1 ▸ Va.rInt_any 1 W)
  have HT := Lib.hid (fun W => ex_v2 ▸ Va.rText_any ⟨#[120]⟩ W)
  have HNU := Lib.hid (fun W => Va.rNull_any W)
  have s1 := sample_any w
  clear hm
  go_enter Try.func7, Try.ntmps7
  go_wp2_with fail
  with_reducible refine s1.mono ?_
  rintro e w1 ⟨h1, g1, rfl, hz1, hz2, oh, og, hb1⟩
  clear s1
  unfold smV
  have OH := Lib.hid (oh.alloc (.cells #[.string ⟨#[116]⟩, .slice (some ⟨h1, 0, none⟩) 2 2, .slice (some ⟨g1, 0, none⟩) 1 1, .slice none 0 0, .slice none 0 0] 27))
  have OG := Lib.hid (og.alloc (.cells #[.string ⟨#[116]⟩, .slice (some ⟨h1, 0, none⟩) 2 2, .slice (some ⟨g1, 0, none⟩) 1 1, .slice none 0 0, .slice none 0 0] 27))
  have OT := Lib.hid (Own.new w1 27 #[.string ⟨#[116]⟩, .slice (some ⟨h1, 0, none⟩) 2 2, .slice (some ⟨g1, 0, none⟩) 1 1, .slice none 0 0, .slice none 0 0])
  have B1 := Lib.hid (hb1.trans ((bel_mark w1 (.cells #[.string ⟨#[116]⟩, .slice (some ⟨h1, 0, none⟩) 2 2, .slice (some ⟨g1, 0, none⟩) 1 1, .slice none 0 0, .slice none 0 0] 27)).mono hb1.size))
  clear oh og hb1 hz1 hz2
  go_wp2_with fail
  with_reducible refine (HI.out _).mono ?_
  rintro e w2 ⟨rfl, hb⟩
  have OH := Lib.hid (OH.out.below hb OH.out.lt)
  have OG := Lib.hid (OG.out.below hb OG.out.lt)
  have OT := Lib.hid (OT.out.below hb OT.out.lt)
  have B1 := Lib.hid (B1.out.trans (hb.mono B1.out.size))
  clear hb
  go_wp2_with fail
  with_reducible refine (HT.out _).mono ?_
  rintro e w3 ⟨rfl, hb⟩
  have OH := Lib.hid (OH.out.below hb OH.out.lt)
  have OG := Lib.hid (OG.out.below hb OG.out.lt)
  have OT := Lib.hid (OT.out.below hb OT.out.lt)
  have B1 := Lib.hid (B1.out.trans (hb.mono B1.out.size))
  clear hb
  go_wp2_with fail
  with_reducible refine (HNU.out _).mono ?_
  rintro e w4 ⟨rfl, hb⟩
  unfold Va.vV
  have OH := Lib.hid (OH.out.below hb OH.out.lt)
  have OG := Lib.hid (OG.out.below hb OG.out.lt)
  have OT := Lib.hid (OT.out.below hb OT.out.lt)
  have B1 := Lib.hid (B1.out.trans (hb.mono B1.out.size))
  clear hb
  have OH := Lib.hid (OH.out.alloc (.cells #[.int .i64 1, .int .i64 1, .string ⟨#[]⟩] 41))
  have OG := Lib.hid (OG.out.alloc (.cells #[.int .i64 1, .int .i64 1, .string ⟨#[]⟩] 41))
  have OT := Lib.hid (OT.out.alloc (.cells #[.int .i64 1, .int .i64 1, .string ⟨#[]⟩] 41))
  have OH := Lib.hid (OH.out.alloc (.cells #[.int .i64 2, .int .i64 0, .string ⟨#[120]⟩] 41))
  have OG := Lib.hid (OG.out.alloc (.cells #[.int .i64 2, .int .i64 0, .string ⟨#[120]⟩] 41))
  have OT := Lib.hid (OT.out.alloc (.cells #[.int .i64 2, .int .i64 0, .string ⟨#[120]⟩] 41))
  have OH := Lib.hid (OH.out.alloc (.cells #[.int .i64 0, .int .i64 0, .string ⟨#[]⟩] 41))
  have OG := Lib.hid (OG.out.alloc (.cells #[.int .i64 0, .int .i64 0, .string ⟨#[]⟩] 41))
  have OT := Lib.hid (OT.out.alloc (.cells #[.int .i64 0, .int .i64 0, .string ⟨#[]⟩] 41))
  have OV1 := Lib.hid (((Own.new w4 41 #[.int .i64 1, .int .i64 1, .string ⟨#[]⟩]).alloc (.cells #[.int .i64 2, .int .i64 0, .string ⟨#[120]⟩] 41)).alloc (.cells #[.int .i64 0, .int .i64 0, .string ⟨#[]⟩] 41))
  have OV2 := Lib.hid ((own_two2 (w := w4) (t := 41) (cs := #[.int .i64 2, .int .i64 0, .string ⟨#[120]⟩]) (.cells #[.int .i64 1, .int .i64 1, .string ⟨#[]⟩] 41)).alloc (.cells #[.int .i64 0, .int .i64 0, .string ⟨#[]⟩] 41))
  have ov3 := own_two2 (w := w4.alloc (.cells #[.int .i64 1, .int .i64 1, .string ⟨#[]⟩] 41)) (t := 41) (cs := #[.int .i64 0, .int .i64 0, .string ⟨#[]⟩]) (.cells #[.int .i64 2, .int .i64 0, .string ⟨#[120]⟩] 41)
  rw [World.size_alloc] at ov3
  have OV3 := Lib.hid ov3
  have B1 := Lib.hid (B1.out.trans ((bel_mark w4 (.cells #[.int .i64 1, .int .i64 1, .string ⟨#[]⟩] 41)).mono B1.out.size))
  have B1 := Lib.hid (B1.out.trans ((bel_mark _ (.cells #[.int .i64 2, .int .i64 0, .string ⟨#[120]⟩] 41)).mono B1.out.size))
  have B1 := Lib.hid (B1.out.trans ((bel_mark _ (.cells #[.int .i64 0, .int .i64 0, .string ⟨#[]⟩] 41)).mono B1.out.size))
  clear ov3
  generalize w1.heap.size = n1 at *
  go_wp2_with fail
  with_reducible refine (HSA.out _).mono ?_
  rintro e w5 ⟨h2, g2, rfl, hz1, hz2, oh2, og2, hb⟩
  unfold smV
  have HZ0 := Lib.hid (show w.heap.size ≤ h2 from Nat.le_trans B1.out.size hz1)
  have LT := Lib.hid (show h1 < g2 ∧ g1 < g2 ∧ n1 < g2 ∧ w4.heap.size < g2 ∧ w4.heap.size + 1 < g2 ∧ w4.heap.size + 1 + 1 < g2 ∧ h2 < g2 by
    have q1 := OH.out.lt; have q2 := OG.out.lt; have q3 := OT.out.lt; have q4 := OV1.out.lt; have q5 := OV2.out.lt; have q6 := OV3.out.lt; omega)
  have OH := Lib.hid (OH.out.below hb OH.out.lt)
  have OG := Lib.hid (OG.out.below hb OG.out.lt)
  have OT := Lib.hid (OT.out.below hb OT.out.lt)
  have OV1 := Lib.hid (OV1.out.below hb OV1.out.lt)
  have OV2 := Lib.hid (OV2.out.below hb OV2.out.lt)
  have OV3 := Lib.hid (OV3.out.below hb OV3.out.lt)
  have B1 := Lib.hid (B1.out.trans (hb.mono B1.out.size))
  clear hb
  have OH := Lib.hid (OH.out.alloc (.cells #[.string ⟨#[116]⟩, .slice (some ⟨h2, 0, none⟩) 2 2, .slice (some ⟨g2, 0, none⟩) 1 1, .slice none 0 0, .slice none 0 0] 27))
  have OG := Lib.hid (OG.out.alloc (.cells #[.string ⟨#[116]⟩, .slice (some ⟨h2, 0, none⟩) 2 2, .slice (some ⟨g2, 0, none⟩) 1 1, .slice none 0 0, .slice none 0 0] 27))
  have OT := Lib.hid (OT.out.alloc (.cells #[.string ⟨#[116]⟩, .slice (some ⟨h2, 0, none⟩) 2 2, .slice (some ⟨g2, 0, none⟩) 1 1, .slice none 0 0, .slice none 0 0] 27))
  have OV1 := Lib.hid (OV1.out.alloc (.cells #[.string ⟨#[116]⟩, .slice (some ⟨h2, 0, none⟩) 2 2, .slice (some ⟨g2, 0, none⟩) 1 1, .slice none 0 0, .slice none 0 0] 27))
  have OV2 := Lib.hid (OV2.out.alloc (.cells #[.string ⟨#[116]⟩, .slice (some ⟨h2, 0, none⟩) 2 2, .slice (some ⟨g2, 0, none⟩) 1 1, .slice none 0 0, .slice none 0 0] 27))
  have OV3 := Lib.hid (OV3.out.alloc (.cells #[.string ⟨#[116]⟩, .slice (some ⟨h2, 0, none⟩) 2 2, .slice (some ⟨g2, 0, none⟩) 1 1, .slice none 0 0, .slice none 0 0] 27))
  have OH2 := Lib.hid (oh2.alloc (.cells #[.string ⟨#[116]⟩, .slice (some ⟨h2, 0, none⟩) 2 2, .slice (some ⟨g2, 0, none⟩) 1 1, .slice none 0 0, .slice none 0 0] 27))
  have OG2 := Lib.hid (og2.alloc (.cells #[.string ⟨#[116]⟩, .slice (some ⟨h2, 0, none⟩) 2 2, .slice (some ⟨g2, 0, none⟩) 1 1, .slice none 0 0, .slice none 0 0] 27))
  have OT2 := Lib.hid (Own.new w5 27 #[.string ⟨#[116]⟩, .slice (some ⟨h2, 0, none⟩) 2 2, .slice (some ⟨g2, 0, none⟩) 1 1, .slice none 0 0, .slice none 0 0])
  have B1 := Lib.hid (B1.out.trans ((bel_mark w5 (.cells #[.string ⟨#[116]⟩, .slice (some ⟨h2, 0, none⟩) 2 2, .slice (some ⟨g2, 0, none⟩) 1 1, .slice none 0 0, .slice none 0 0] 27)).mono B1.out.size))
  have LT2 := Lib.hid (og2.lt)
  have d2 := OT2.out.cell 2
  have k0 := OG2.out.cell 0
  have f0 := OG2.out.free 0
  clear oh2 og2
  have LT4 := Lib.hid (show g2 < w5.heap.size from LT2.out)
  have hwg : w.heap.size ≤ g2 := by have := HZ0.out; have := LT.out; omega
  have OH := Lib.hid (OH.out.far (p := ⟨g2, 0, none⟩) (show h1 ≠ g2 by have := LT.out; omega) (.int .i64 1))
  have OG := Lib.hid (OG.out.far (p := ⟨g2, 0, none⟩) (show g1 ≠ g2 by have := LT.out; omega) (.int .i64 1))
  have OT := Lib.hid (OT.out.far (p := ⟨g2, 0, none⟩) (show n1 ≠ g2 by have := LT.out; omega) (.int .i64 1))
  have OV1 := Lib.hid (OV1.out.far (p := ⟨g2, 0, none⟩) (show w4.heap.size ≠ g2 by have := LT.out; omega) (.int .i64 1))
  have OV2 := Lib.hid (OV2.out.far (p := ⟨g2, 0, none⟩) (show w4.heap.size + 1 ≠ g2 by have := LT.out; omega) (.int .i64 1))
  have OV3 := Lib.hid (OV3.out.far (p := ⟨g2, 0, none⟩) (show w4.heap.size + 1 + 1 ≠ g2 by have := LT.out; omega) (.int .i64 1))
  have OH2 := Lib.hid (OH2.out.far (p := ⟨g2, 0, none⟩) (show h2 ≠ g2 by have := LT.out; omega) (.int .i64 1))
  have OT2 := Lib.hid (OT2.out.far (p := ⟨g2, 0, none⟩) (show w5.heap.size ≠ g2 by have := LT4.out; omega) (.int .i64 1))
  have OG2 := Lib.hid (show Own ((w5.alloc (.cells #[.string ⟨#[116]⟩, .slice (some ⟨h2, 0, none⟩) 2 2, .slice (some ⟨g2, 0, none⟩) 1 1, .slice none 0 0, .slice none 0 0] 27)).setCell ⟨g2, 0, none⟩ (.int .i64 1)) g2 3 #[.int .i64 1] from OG2.out.store 0 (.int .i64 1))
  have B1 := Lib.hid (B1.out.setCell (p := ⟨g2, 0, none⟩) hwg (.int .i64 1))
  have c6 := pName_any ⟨#[120, 95, 49]⟩ m ((w5.alloc (.cells #[.string ⟨#[116]⟩, .slice (some ⟨h2, 0, none⟩) 2 2, .slice (some ⟨g2, 0, none⟩) 1 1, .slice none 0 0, .slice none 0 0] 27)).setCell ⟨g2, 0, none⟩ (.int .i64 1)) (HM.out _ B1.out)
  rw [show nameS (⟨#[120, 95, 49]⟩ : ByteArray).data.toList = true from ex_n1] at c6
  go_wp2_with fail
  with_reducible refine c6.mono ?_
  rintro e w6 ⟨rfl, hb⟩
  clear c6 d2 k0 f0
  have OH := Lib.hid (OH.out.below hb OH.out.lt)
  have OG := Lib.hid (OG.out.below hb OG.out.lt)
  have OT := Lib.hid (OT.out.below hb OT.out.lt)
  have OV1 := Lib.hid (OV1.out.below hb OV1.out.lt)
  have OV2 := Lib.hid (OV2.out.below hb OV2.out.lt)
  have OV3 := Lib.hid (OV3.out.below hb OV3.out.lt)
  have OH2 := Lib.hid (OH2.out.below hb OH2.out.lt)
  have OG2 := Lib.hid (OG2.out.below hb OG2.out.lt)
  have OT2 := Lib.hid (OT2.out.below hb OT2.out.lt)
  have B1 := Lib.hid (B1.out.trans (hb.mono B1.out.size))
  clear hb
  have c7 := pName_any ⟨#[115, 101, 108, 101, 99, 116]⟩ m w6 (HM.out _ B1.out)
  rw [show nameS (⟨#[115, 101, 108, 101, 99, 116]⟩ : ByteArray).data.toList = false from ex_n2] at c7
  go_wp2_with fail
  with_reducible refine c7.mono ?_
  rintro e w7 ⟨rfl, hb⟩
  clear c7 
  have OH := Lib.hid (OH.out.below hb OH.out.lt)
  have OG := Lib.hid (OG.out.below hb OG.out.lt)
  have OT := Lib.hid (OT.out.below hb OT.out.lt)
  have OV1 := Lib.hid (OV1.out.below hb OV1.out.lt)
  have OV2 := Lib.hid (OV2.out.below hb OV2.out.lt)
  have OV3 := Lib.hid (OV3.out.below hb OV3.out.lt)
  have OH2 := Lib.hid (OH2.out.below hb OH2.out.lt)
  have OG2 := Lib.hid (OG2.out.below hb OG2.out.lt)
  have OT2 := Lib.hid (OT2.out.below hb OT2.out.lt)
  have B1 := Lib.hid (B1.out.trans (hb.mono B1.out.size))
  clear hb
  have c8 := pName_any ⟨#[83, 101, 108, 101, 99, 116]⟩ m w7 (HM.out _ B1.out)
  rw [show nameS (⟨#[83, 101, 108, 101, 99, 116]⟩ : ByteArray).data.toList = false from ex_n3] at c8
  go_wp2_with fail
  with_reducible refine c8.mono ?_
  rintro e w8 ⟨rfl, hb⟩
  clear c8 
  have OH := Lib.hid (OH.out.below hb OH.out.lt)
  have OG := Lib.hid (OG.out.below hb OG.out.lt)
  have OT := Lib.hid (OT.out.below hb OT.out.lt)
  have OV1 := Lib.hid (OV1.out.below hb OV1.out.lt)
  have OV2 := Lib.hid (OV2.out.below hb OV2.out.lt)
  have OV3 := Lib.hid (OV3.out.below hb OV3.out.lt)
  have OH2 := Lib.hid (OH2.out.below hb OH2.out.lt)
  have OG2 := Lib.hid (OG2.out.below hb OG2.out.lt)
  have OT2 := Lib.hid (OT2.out.below hb OT2.out.lt)
  have B1 := Lib.hid (B1.out.trans (hb.mono B1.out.size))
  clear hb
  have c9 := check_none ⟨#[116]⟩ (.slice (some ⟨h1, 0, none⟩) 2 2) (.slice (some ⟨g1, 0, none⟩) 1 1) none none 0 0 smC [0] m w8 0 0 (HM.out _ B1.out) (rdK_sm OH.out) (rdI_one OG.out) (by decide)
  rw [show chkS (⟨#[116]⟩ : ByteArray).data.toList smC [0] = 0 from ex_c1] at c9
  obtain ⟨d0, d1, d2, d3, d4⟩ := OT.out.five
  go_wp2_with fail
  with_reducible refine c9.mono ?_
  rintro e w9 ⟨rfl, hb⟩
  clear c9 d0 d1 d2 d3 d4
  have OH := Lib.hid (OH.out.below hb OH.out.lt)
  have OG := Lib.hid (OG.out.below hb OG.out.lt)
  have OT := Lib.hid (OT.out.below hb OT.out.lt)
  have OV1 := Lib.hid (OV1.out.below hb OV1.out.lt)
  have OV2 := Lib.hid (OV2.out.below hb OV2.out.lt)
  have OV3 := Lib.hid (OV3.out.below hb OV3.out.lt)
  have OH2 := Lib.hid (OH2.out.below hb OH2.out.lt)
  have OG2 := Lib.hid (OG2.out.below hb OG2.out.lt)
  have OT2 := Lib.hid (OT2.out.below hb OT2.out.lt)
  have B1 := Lib.hid (B1.out.trans (hb.mono B1.out.size))
  clear hb
  have c10 := check_none ⟨#[116]⟩ (.slice (some ⟨h2, 0, none⟩) 2 2) (.slice (some ⟨g2, 0, none⟩) 1 1) none none 0 0 smC [1] m w9 0 0 (HM.out _ B1.out) (rdK_sm OH2.out) (rdI_one OG2.out) (by decide)
  rw [show chkS (⟨#[116]⟩ : ByteArray).data.toList smC [1] = 12 from ex_c2] at c10
  obtain ⟨d0, d1, d2, d3, d4⟩ := OT2.out.five
  go_wp2_with fail
  with_reducible refine c10.mono ?_
  rintro e w10 ⟨rfl, hb⟩
  clear c10 d0 d1 d2 d3 d4
  have OH := Lib.hid (OH.out.below hb OH.out.lt)
  have OG := Lib.hid (OG.out.below hb OG.out.lt)
  have OT := Lib.hid (OT.out.below hb OT.out.lt)
  have OV1 := Lib.hid (OV1.out.below hb OV1.out.lt)
  have OV2 := Lib.hid (OV2.out.below hb OV2.out.lt)
  have OV3 := Lib.hid (OV3.out.below hb OV3.out.lt)
  have OH2 := Lib.hid (OH2.out.below hb OH2.out.lt)
  have OG2 := Lib.hid (OG2.out.below hb OG2.out.lt)
  have OT2 := Lib.hid (OT2.out.below hb OT2.out.lt)
  have B1 := Lib.hid (B1.out.trans (hb.mono B1.out.size))
  clear hb
  obtain ⟨d0, d1, d2, d3, d4⟩ := OT.out.five
  have p0 := OV1.out.cell 0
  have p1 := OV1.out.cell 1
  have p2 := OV1.out.cell 2
  have q0 := OV3.out.cell 0
  have q1 := OV3.out.cell 1
  have q2 := OV3.out.cell 2
  have c11 := pAccepts_any (.string ⟨#[116]⟩) (.slice (some ⟨h1, 0, none⟩) 2 2) (.slice (some ⟨g1, 0, none⟩) 1 1) (.slice none 0 0) (.slice none 0 0) (.slice (some ⟨w10.heap.size, 0, none⟩) 2 2) smC [(1, 1, ⟨#[]⟩), (0, 0, ⟨#[]⟩)] (w10.alloc (.cells #[.int .i64 1, .int .i64 1, .string ⟨#[]⟩, .int .i64 0, .int .i64 0, .string ⟨#[]⟩] 41)) 0 0 (rdK_sm (OH.out.alloc _)) (rdV_two (Own.new w10 _ #[.int .i64 1, .int .i64 1, .string ⟨#[]⟩, .int .i64 0, .int .i64 0, .string ⟨#[]⟩]))
  rw [ex_a1] at c11
  have OH := Lib.hid (OH.out.alloc (.cells #[.int .i64 1, .int .i64 1, .string ⟨#[]⟩, .int .i64 0, .int .i64 0, .string ⟨#[]⟩] 41))
  have OG := Lib.hid (OG.out.alloc (.cells #[.int .i64 1, .int .i64 1, .string ⟨#[]⟩, .int .i64 0, .int .i64 0, .string ⟨#[]⟩] 41))
  have OT := Lib.hid (OT.out.alloc (.cells #[.int .i64 1, .int .i64 1, .string ⟨#[]⟩, .int .i64 0, .int .i64 0, .string ⟨#[]⟩] 41))
  have OV1 := Lib.hid (OV1.out.alloc (.cells #[.int .i64 1, .int .i64 1, .string ⟨#[]⟩, .int .i64 0, .int .i64 0, .string ⟨#[]⟩] 41))
  have OV2 := Lib.hid (OV2.out.alloc (.cells #[.int .i64 1, .int .i64 1, .string ⟨#[]⟩, .int .i64 0, .int .i64 0, .string ⟨#[]⟩] 41))
  have OV3 := Lib.hid (OV3.out.alloc (.cells #[.int .i64 1, .int .i64 1, .string ⟨#[]⟩, .int .i64 0, .int .i64 0, .string ⟨#[]⟩] 41))
  have OH2 := Lib.hid (OH2.out.alloc (.cells #[.int .i64 1, .int .i64 1, .string ⟨#[]⟩, .int .i64 0, .int .i64 0, .string ⟨#[]⟩] 41))
  have OG2 := Lib.hid (OG2.out.alloc (.cells #[.int .i64 1, .int .i64 1, .string ⟨#[]⟩, .int .i64 0, .int .i64 0, .string ⟨#[]⟩] 41))
  have OT2 := Lib.hid (OT2.out.alloc (.cells #[.int .i64 1, .int .i64 1, .string ⟨#[]⟩, .int .i64 0, .int .i64 0, .string ⟨#[]⟩] 41))
  have B1 := Lib.hid (B1.out.trans ((bel_mark w10 (.cells #[.int .i64 1, .int .i64 1, .string ⟨#[]⟩, .int .i64 0, .int .i64 0, .string ⟨#[]⟩] 41)).mono B1.out.size))
  go_wp2_with fail
  with_reducible refine c11.mono ?_
  rintro e w11 ⟨rfl, hb⟩
  clear c11 d0 d1 d2 d3 d4 p0 p1 p2 q0 q1 q2
  have OH := Lib.hid (OH.out.below hb OH.out.lt)
  have OG := Lib.hid (OG.out.below hb OG.out.lt)
  have OT := Lib.hid (OT.out.below hb OT.out.lt)
  have OV1 := Lib.hid (OV1.out.below hb OV1.out.lt)
  have OV2 := Lib.hid (OV2.out.below hb OV2.out.lt)
  have OV3 := Lib.hid (OV3.out.below hb OV3.out.lt)
  have OH2 := Lib.hid (OH2.out.below hb OH2.out.lt)
  have OG2 := Lib.hid (OG2.out.below hb OG2.out.lt)
  have OT2 := Lib.hid (OT2.out.below hb OT2.out.lt)
  have B1 := Lib.hid (B1.out.trans (hb.mono B1.out.size))
  clear hb
  obtain ⟨d0, d1, d2, d3, d4⟩ := OT.out.five
  have p0 := OV3.out.cell 0
  have p1 := OV3.out.cell 1
  have p2 := OV3.out.cell 2
  have q0 := OV2.out.cell 0
  have q1 := OV2.out.cell 1
  have q2 := OV2.out.cell 2
  have c12 := pAccepts_any (.string ⟨#[116]⟩) (.slice (some ⟨h1, 0, none⟩) 2 2) (.slice (some ⟨g1, 0, none⟩) 1 1) (.slice none 0 0) (.slice none 0 0) (.slice (some ⟨w11.heap.size, 0, none⟩) 2 2) smC [(0, 0, ⟨#[]⟩), (2, 0, ⟨#[120]⟩)] (w11.alloc (.cells #[.int .i64 0, .int .i64 0, .string ⟨#[]⟩, .int .i64 2, .int .i64 0, .string ⟨#[120]⟩] 41)) 0 0 (rdK_sm (OH.out.alloc _)) (rdV_two (Own.new w11 _ #[.int .i64 0, .int .i64 0, .string ⟨#[]⟩, .int .i64 2, .int .i64 0, .string ⟨#[120]⟩]))
  rw [ex_a2] at c12
  have OH := Lib.hid (OH.out.alloc (.cells #[.int .i64 0, .int .i64 0, .string ⟨#[]⟩, .int .i64 2, .int .i64 0, .string ⟨#[120]⟩] 41))
  have OG := Lib.hid (OG.out.alloc (.cells #[.int .i64 0, .int .i64 0, .string ⟨#[]⟩, .int .i64 2, .int .i64 0, .string ⟨#[120]⟩] 41))
  have OT := Lib.hid (OT.out.alloc (.cells #[.int .i64 0, .int .i64 0, .string ⟨#[]⟩, .int .i64 2, .int .i64 0, .string ⟨#[120]⟩] 41))
  have OV1 := Lib.hid (OV1.out.alloc (.cells #[.int .i64 0, .int .i64 0, .string ⟨#[]⟩, .int .i64 2, .int .i64 0, .string ⟨#[120]⟩] 41))
  have OV2 := Lib.hid (OV2.out.alloc (.cells #[.int .i64 0, .int .i64 0, .string ⟨#[]⟩, .int .i64 2, .int .i64 0, .string ⟨#[120]⟩] 41))
  have OV3 := Lib.hid (OV3.out.alloc (.cells #[.int .i64 0, .int .i64 0, .string ⟨#[]⟩, .int .i64 2, .int .i64 0, .string ⟨#[120]⟩] 41))
  have OH2 := Lib.hid (OH2.out.alloc (.cells #[.int .i64 0, .int .i64 0, .string ⟨#[]⟩, .int .i64 2, .int .i64 0, .string ⟨#[120]⟩] 41))
  have OG2 := Lib.hid (OG2.out.alloc (.cells #[.int .i64 0, .int .i64 0, .string ⟨#[]⟩, .int .i64 2, .int .i64 0, .string ⟨#[120]⟩] 41))
  have OT2 := Lib.hid (OT2.out.alloc (.cells #[.int .i64 0, .int .i64 0, .string ⟨#[]⟩, .int .i64 2, .int .i64 0, .string ⟨#[120]⟩] 41))
  have B1 := Lib.hid (B1.out.trans ((bel_mark w11 (.cells #[.int .i64 0, .int .i64 0, .string ⟨#[]⟩, .int .i64 2, .int .i64 0, .string ⟨#[120]⟩] 41)).mono B1.out.size))
  go_wp2_with fail
  with_reducible refine c12.mono ?_
  rintro e w12 ⟨rfl, hb⟩
  clear c12 d0 d1 d2 d3 d4 p0 p1 p2 q0 q1 q2
  have OH := Lib.hid (OH.out.below hb OH.out.lt)
  have OG := Lib.hid (OG.out.below hb OG.out.lt)
  have OT := Lib.hid (OT.out.below hb OT.out.lt)
  have OV1 := Lib.hid (OV1.out.below hb OV1.out.lt)
  have OV2 := Lib.hid (OV2.out.below hb OV2.out.lt)
  have OV3 := Lib.hid (OV3.out.below hb OV3.out.lt)
  have OH2 := Lib.hid (OH2.out.below hb OH2.out.lt)
  have OG2 := Lib.hid (OG2.out.below hb OG2.out.lt)
  have OT2 := Lib.hid (OT2.out.below hb OT2.out.lt)
  have B1 := Lib.hid (B1.out.trans (hb.mono B1.out.size))
  clear hb
  obtain ⟨d0, d1, d2, d3, d4⟩ := OT.out.five
  have p0 := OV2.out.cell 0
  have p1 := OV2.out.cell 1
  have p2 := OV2.out.cell 2
  have q0 := OV2.out.cell 0
  have q1 := OV2.out.cell 1
  have q2 := OV2.out.cell 2
  have c13 := pAccepts_any (.string ⟨#[116]⟩) (.slice (some ⟨h1, 0, none⟩) 2 2) (.slice (some ⟨g1, 0, none⟩) 1 1) (.slice none 0 0) (.slice none 0 0) (.slice (some ⟨w12.heap.size, 0, none⟩) 2 2) smC [(2, 0, ⟨#[120]⟩), (2, 0, ⟨#[120]⟩)] (w12.alloc (.cells #[.int .i64 2, .int .i64 0, .string ⟨#[120]⟩, .int .i64 2, .int .i64 0, .string ⟨#[120]⟩] 41)) 0 0 (rdK_sm (OH.out.alloc _)) (rdV_two (Own.new w12 _ #[.int .i64 2, .int .i64 0, .string ⟨#[120]⟩, .int .i64 2, .int .i64 0, .string ⟨#[120]⟩]))
  rw [ex_a3] at c13
  have OH := Lib.hid (OH.out.alloc (.cells #[.int .i64 2, .int .i64 0, .string ⟨#[120]⟩, .int .i64 2, .int .i64 0, .string ⟨#[120]⟩] 41))
  have OG := Lib.hid (OG.out.alloc (.cells #[.int .i64 2, .int .i64 0, .string ⟨#[120]⟩, .int .i64 2, .int .i64 0, .string ⟨#[120]⟩] 41))
  have OT := Lib.hid (OT.out.alloc (.cells #[.int .i64 2, .int .i64 0, .string ⟨#[120]⟩, .int .i64 2, .int .i64 0, .string ⟨#[120]⟩] 41))
  have OV1 := Lib.hid (OV1.out.alloc (.cells #[.int .i64 2, .int .i64 0, .string ⟨#[120]⟩, .int .i64 2, .int .i64 0, .string ⟨#[120]⟩] 41))
  have OV2 := Lib.hid (OV2.out.alloc (.cells #[.int .i64 2, .int .i64 0, .string ⟨#[120]⟩, .int .i64 2, .int .i64 0, .string ⟨#[120]⟩] 41))
  have OV3 := Lib.hid (OV3.out.alloc (.cells #[.int .i64 2, .int .i64 0, .string ⟨#[120]⟩, .int .i64 2, .int .i64 0, .string ⟨#[120]⟩] 41))
  have OH2 := Lib.hid (OH2.out.alloc (.cells #[.int .i64 2, .int .i64 0, .string ⟨#[120]⟩, .int .i64 2, .int .i64 0, .string ⟨#[120]⟩] 41))
  have OG2 := Lib.hid (OG2.out.alloc (.cells #[.int .i64 2, .int .i64 0, .string ⟨#[120]⟩, .int .i64 2, .int .i64 0, .string ⟨#[120]⟩] 41))
  have OT2 := Lib.hid (OT2.out.alloc (.cells #[.int .i64 2, .int .i64 0, .string ⟨#[120]⟩, .int .i64 2, .int .i64 0, .string ⟨#[120]⟩] 41))
  have B1 := Lib.hid (B1.out.trans ((bel_mark w12 (.cells #[.int .i64 2, .int .i64 0, .string ⟨#[120]⟩, .int .i64 2, .int .i64 0, .string ⟨#[120]⟩] 41)).mono B1.out.size))
  go_wp2_with fail
  with_reducible refine c13.mono ?_
  rintro e w13 ⟨rfl, hb⟩
  clear c13 d0 d1 d2 d3 d4 p0 p1 p2 q0 q1 q2
  have OH := Lib.hid (OH.out.below hb OH.out.lt)
  have OG := Lib.hid (OG.out.below hb OG.out.lt)
  have OT := Lib.hid (OT.out.below hb OT.out.lt)
  have OV1 := Lib.hid (OV1.out.below hb OV1.out.lt)
  have OV2 := Lib.hid (OV2.out.below hb OV2.out.lt)
  have OV3 := Lib.hid (OV3.out.below hb OV3.out.lt)
  have OH2 := Lib.hid (OH2.out.below hb OH2.out.lt)
  have OG2 := Lib.hid (OG2.out.below hb OG2.out.lt)
  have OT2 := Lib.hid (OT2.out.below hb OT2.out.lt)
  have B1 := Lib.hid (B1.out.trans (hb.mono B1.out.size))
  clear hb
  go_wp2
  go_ret
  exact ⟨rfl, B1.out⟩
end Go.Proofs.Ytjdbjnmnihnmhaa
/-
  How tables are opened; the walk of the statement SchemaAccepts. Conditions: none.
-/
namespace Go.Proofs.Ytjdbjnmnihnmhaa
set_option maxRecDepth 100000
set_option linter.unusedVariables false
set_option linter.unusedSimpArgs false
open Go.ChangeShapes Go.WideShapes Go.ChangeAt Go.RowKit Go.Joins Go.Deep

theorem cellsCol : Try.prog.cellsOf 33 = 3 := by kernel_rfl
theorem cellsTab : Try.prog.cellsOf 27 = 5 := by kernel_rfl
theorem cellsBool1 : Try.prog.cellsOf 4 = 1 := by kernel_rfl
theorem cellsCols1 : Try.prog.cellsOf 22 = 1 := by kernel_rfl
section
variable {H : Type} {enc : TypeId × Value → H} {W : World} {base : Nat}
set_option maxRecDepth 100000 in
theorem open_cols {fuel : Nat} {cs : List Value} {d : DataW H} {p : List MemPlace} (hf : DataW.trod enc Try.prog W 0 (fun _ => true) true fuel 22 cs = some (d, p)) :
    ∃ (v : Value) (ps : List Cl), cs = [v] ∧ RdK W 0 W.heap.size v ps := by
  rcases open_slice Try.underlying22 hf with ⟨hcs, _⟩ | ⟨a, len, cap, m, n, D, Pl, hcs, _, hl, hm, hmm, hxx, hx⟩
  · subst hcs
    exact ⟨_, [], rfl, none, 0, rfl, by simp, by simp⟩
  · subst hcs
    rw [if_pos rfl] at hmm
    subst hmm
    have hml := maxLen_le
    have each : ∀ i, i < len → ∃ q : Cl, W.cell? (a.add (i * 3)) = some (.string q.1) ∧ W.cell? ⟨(a.add (i * 3)).block, (a.add (i * 3)).off + 1, none⟩ = some (.int .i64 q.2.1) ∧ W.cell? ⟨(a.add (i * 3)).block, (a.add (i * 3)).off + 2, none⟩ = some (.bool q.2.2) := by
      intro i hi
      obtain ⟨cs', hc, ht⟩ := hx i (by omega)
      rw [cellsCol] at hc
      obtain ⟨_, hcl, hat⟩ := World.cells?_some hc
      obtain ⟨xs, n', _, hxy, _, hxl, hfl⟩ := DataW.trod_struct Try.underlying33 ht
      match xs, hxl, cs', hcl with
      | [y0, y1, y2], _, [v0, v1, v2], _ =>
        have g0 := hfl 0 _ rfl
        have g1 := hfl 1 _ rfl
        have g2 := hfl 2 _ rfl
        simp [cellsInt1, cellsStr1, cellsBool1] at g0 g1 g2
        have e0 := hat 0 (by omega)
        have e1 := hat 1 (by omega)
        have e2 := hat 2 (by omega)
        rw [addr_add1] at e1
        rw [addr_add2] at e2
        obtain ⟨s, f0, hy0, _⟩ := DataW.trod_string Try.underlying9 g0
        obtain ⟨y, f1, hy1, _⟩ := DataW.trod_int Try.underlying3 g1
        obtain ⟨b, f2, hy2⟩ := DataW.trod_bool Try.underlying4 g2
        simp at f0 f1 f2
        subst f0 f1 f2
        exact ⟨(s, y, b), by simpa [show (a.add (i * 3)).add 0 = a.add (i * 3) by unfold Addr.add; simp] using e0, by simpa using e1, by simpa using e2⟩
    obtain ⟨q, hq⟩ := choose_lt each
    refine ⟨_, (List.range len).map q, rfl, some a, _, by rw [List.length_map, List.length_range], by rw [List.length_map, List.length_range]; omega, fun k p hk => ?_⟩
    obtain ⟨hk1, hk2⟩ := List.getElem?_eq_some_iff.1 hk
    simp at hk1 hk2
    subst hk2
    obtain ⟨g0, g1, g2⟩ := hq k hk1
    have hb := cell_lt g0
    rw [add_block] at hb
    exact ⟨a, rfl, Nat.zero_le _, hb, g0, g1, g2⟩
set_option maxRecDepth 100000 in
theorem open_tab {v : Value} {d : DataW H} {p : List MemPlace} (hv : Value.okWide Try.prog W .any base 27 v) (h : DataW.Trod enc Try.prog W 0 (fun _ => true) true 27 v d p) :
    ∃ (nm v1 v2 v3 v4 : Value) (cs : List Cl), v = .agg #[nm, v1, v2, v3, v4] ∧ RdK W 0 W.heap.size v1 cs := by
  obtain ⟨cs, rfl, hsz⟩ := okWide_struct Try.underlying27 hv
  rw [cellsTab] at hsz
  obtain ⟨l⟩ := cs
  match l, hsz with
  | [c0, c1, c2, c3, c4], _ =>
    obtain ⟨fuel, hf⟩ := h
    obtain ⟨xs, n', _, hxy, _, hxl, hfl⟩ := DataW.trod_struct Try.underlying27 hf
    match xs, hxl with
    | [y0, y1, y2, y3, y4], _ =>
      have g1 := hfl 1 _ rfl
      simp [cellsCols1, Value.cells] at g1
      obtain ⟨y1a, y1b⟩ := y1
      obtain ⟨v1, ps, e1, h1⟩ := open_cols g1
      injection e1 with e1 _
      subst e1
      exact ⟨c0, c1, c2, c3, c4, ps, rfl, h1⟩
end
theorem maxLen_cell {w : World} (h : w.ShapedOpen Try.prog) : ∃ m : Int, w.cell? ⟨0, 0, none⟩ = some (.int .i64 m) := Try.laysM144.s1_3 w h
end Go.Proofs.Ytjdbjnmnihnmhaa
