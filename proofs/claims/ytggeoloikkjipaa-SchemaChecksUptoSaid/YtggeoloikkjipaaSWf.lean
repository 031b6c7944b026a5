import Derived.Test.YtggeoloikkjipaaSWe
import Derived.Test.YtggeoloikkjipaaSW
import Derived.WalkKit
import Derived.WalkSpells
import Derived.WalkLawsBesides
import Derived.Deep.QuietTactic
import Derived.BigQuiet
import Derived.Handy
import Derived.Lib.Hide
/-
  The reference's Check over any table: what it answers; the walk of the statement SchemaChecks. Conditions: the search's variable holds some number; lengths, a bounded depth.
-/
namespace Go.Proofs.Ytggeoloikkjipaa
set_option linter.unusedVariables false
set_option linter.unusedSimpArgs false
set_option maxRecDepth 100000
open Go.RowKit

set_option maxRecDepth 100000 in
set_option maxHeartbeats 6400000 in
theorem rTabCheck_any (nm : ByteArray) (vc vk vf vx : Value) (cs : List Cl) (ks : List Int) (fs : List Fk) (es : List Ex) (d : Nat) (w : World) (L L2 L3 L4 : Nat) (hc : RdK w L w.heap.size vc cs) (hk : RdI w L2 w.heap.size vk ks) (hf : RdF w L3 w.heap.size vf fs) (he : RdE w L4 w.heap.size (d + 1) vx es) (hlen : cs.length ≤ 1099511627776) (hd : d ≤ 9223372036854775000) :
    Calls Try.prog 23 #[.agg #[.string nm, vc, vk, vf, vx]] w fun e w' => e = .returned (.int .i64 (chkA nm.data.toList cs ks fs d es)) ∧ Below w.heap.size w w' := by
  have b1 := bel_mark w (.cells #[.string nm, vc, vk, vf, vx] 42)
  have HO1 := Lib.hid ((Own.new w 42 #[.string nm, vc, vk, vf, vx]))
  have HN := Lib.hid (fun W => rName_any nm W)
  have H1 := Lib.hid (fun W (h : Below w.heap.size w W) => rColumns_any (.string nm) vc vk vf vx cs W L (hc.step h (Nat.le_refl _)))
  have H2 := Lib.hid (fun W (h : Below w.heap.size w W) => rTKey_any (.string nm) vc vk vf vx cs ks W L L2 (hc.step h (Nat.le_refl _)) (hk.step h (Nat.le_refl _)))
  have H3 := Lib.hid (fun W (h : Below w.heap.size w W) => (show Calls Try.prog 75 #[.agg #[.string nm, vc, vk, vf, vx]] W fun e w' => e = .returned (.int .i64 (conE cs fs d es)) ∧ Below W.heap.size W w' from by
    have hc2 := hc.step h (Nat.le_refl _)
    obtain ⟨A, c, rfl, _, _⟩ := hc
    exact rConstraints_any (.string nm) vk vf vx A c cs fs es d W L L3 L4 hc2 hlen (hf.step h (Nat.le_refl _)) (he.step h (Nat.le_refl _)) hd))
  obtain ⟨d0, d1, d2, d3, d4⟩ := HO1.out.five
  have HB1 := Lib.hid b1
  have HX := Lib.hid (show chkA nm.data.toList cs ks fs d es = if nameS nm.data.toList = false then 1 else if colE cs ≠ 0 then colE cs else if keyE cs ks ≠ 0 then keyE cs ks else conE cs fs d es from rfl)
  generalize chkA nm.data.toList cs ks fs d es = R at *
  generalize nameS nm.data.toList = bn at *
  generalize hce : colE cs = ce at *
  generalize hke : keyE cs ks = ke at *
  generalize hxe : conE cs fs d es = xe at *
  clear b1 hc hk hf he hce hke hxe
  cases bn
  · have HF := Lib.hid (HX.out.trans (if_pos rfl))
    go_enter Try.func23, Try.ntmps23
    go_wp2_with fail
    with_reducible refine (HN.out _).mono ?_
    rintro e w1 ⟨rfl, hb⟩
    go_wp2
    go_ret
    exact ⟨(by rw [HF.out]; try rfl), HB1.out.trans (hb.mono HB1.out.size)⟩
  have HX := Lib.hid (HX.out.trans (if_neg (by decide)))
  go_enter Try.func23, Try.ntmps23
  go_wp2_with fail
  with_reducible refine (HN.out _).mono ?_
  rintro e w1 ⟨rfl, hb⟩
  have HO2 := Lib.hid (HO1.out.below hb HO1.out.lt)
  have HB2 := Lib.hid (HB1.out.trans (hb.mono HB1.out.size))
  have h1 := H1.out w1 HB2.out
  clear HN H1 hb d0 d1 d2 d3 d4
  obtain ⟨d0, d1, d2, d3, d4⟩ := HO2.out.five
  by_cases q0 : ce = 0
  rotate_left
  · have HF := Lib.hid (HX.out.trans (if_pos q0))
    have c0 : (ce == 0) = false := by simp [q0]
    clear q0 HX
    go_wp2_with fail
    with_reducible refine h1.mono ?_
    rintro e w2 ⟨rfl, hb⟩
    go_wp2
    go_ret
    exact ⟨(by rw [HF.out]; try rfl), HB2.out.trans (hb.mono HB2.out.size)⟩
  have HX := Lib.hid (HX.out.trans (if_neg (fun h => h q0)))
  have c0 : (ce == 0) = true := by simp [q0]
  clear q0
  go_wp2_with fail
  with_reducible refine h1.mono ?_
  rintro e w2 ⟨rfl, hb⟩
  have HO3 := Lib.hid (HO2.out.below hb HO2.out.lt)
  have HB3 := Lib.hid (HB2.out.trans (hb.mono HB2.out.size))
  have h2 := H2.out w2 HB3.out
  clear h1 H2 hb d0 d1 d2 d3 d4
  obtain ⟨d0, d1, d2, d3, d4⟩ := HO3.out.five
  by_cases q0 : ke = 0
  rotate_left
  · have HF := Lib.hid (HX.out.trans (if_pos q0))
    have k0 : (ke == 0) = false := by simp [q0]
    clear q0 HX
    go_wp2_with fail
    with_reducible refine h2.mono ?_
    rintro e w3 ⟨rfl, hb⟩
    go_wp2
    go_ret
    exact ⟨(by rw [HF.out]; try rfl), HB3.out.trans (hb.mono HB3.out.size)⟩
  have HX := Lib.hid (HX.out.trans (if_neg (fun h => h q0)))
  have k0 : (ke == 0) = true := by simp [q0]
  clear q0
  go_wp2_with fail
  with_reducible refine h2.mono ?_
  rintro e w3 ⟨rfl, hb⟩
  have HO4 := Lib.hid (HO3.out.below hb HO3.out.lt)
  have HB4 := Lib.hid (HB3.out.trans (hb.mono HB3.out.size))
  have h3 := H3.out w3 HB4.out
  clear h2 H3 hb d0 d1 d2 d3 d4
  obtain ⟨d0, d1, d2, d3, d4⟩ := HO4.out.five
  go_wp2_with fail
  with_reducible refine h3.mono ?_
  rintro e w4 ⟨rfl, hb⟩
  go_wp2
  go_ret
  exact ⟨(by rw [HX.out]; try rfl), HB4.out.trans (hb.mono HB4.out.size)⟩
set_option maxRecDepth 100000 in
set_option maxHeartbeats 6400000 in
theorem law_schecks (s nm : ByteArray) (vc vk vf vx : Value) (cs : List Cl) (ks : List Int) (fs : List Fk) (es : List Ex) (d : Nat) (m : Int) (w : World) (hm : w.cell? ⟨0, 0, none⟩ = some (.int .i64 m)) (hc : RdK w 0 w.heap.size vc cs) (hk : RdI w 0 w.heap.size vk ks) (hf : RdF w 0 w.heap.size vf fs) (he : RdE w 0 w.heap.size (d + 1) vx es) (hlen : cs.length ≤ 1099511627776) (hd : d ≤ 9223372036854775000) :
    Calls Try.prog 5 #[.string s, .agg #[.string nm, vc, vk, vf, vx]] w fun e w' => e = .returned (.bool true) ∧ Below w.heap.size w w' := by
  have hm0 := World.block_lt_of_cell? w _ hm
  have b1 := bel_mark w (.cells #[.string nm, vc, vk, vf, vx] 42)
  have HO := Lib.hid (Own.new w 42 #[.string nm, vc, vk, vf, vx])
  have UP := fun r : After (w.alloc (.cells #[.string nm, vc, vk, vf, vx] 42)) => b1.trans (r.h.mono b1.size)
  have HN1 := Lib.hid (fun r : After (w.alloc (.cells #[.string nm, vc, vk, vf, vx] 42)) => pName_any s m r.w (((UP r).cell (p := ⟨0, 0, none⟩) hm0).trans hm))
  have HN2 := Lib.hid (fun r : After (w.alloc (.cells #[.string nm, vc, vk, vf, vx] 42)) => rName_any s r.w)
  have HP := Lib.hid (fun r : After (w.alloc (.cells #[.string nm, vc, vk, vf, vx] 42)) => pTabCheck_any nm vc vk vf vx cs ks fs es d m r.w 0 0 0 0 (((UP r).cell (p := ⟨0, 0, none⟩) hm0).trans hm) (hc.step (UP r) (Nat.le_refl _)) (hk.step (UP r) (Nat.le_refl _)) (hf.step (UP r) (Nat.le_refl _)) (he.step (UP r) (Nat.le_refl _)) hlen)
  have HR := Lib.hid (fun r : After (w.alloc (.cells #[.string nm, vc, vk, vf, vx] 42)) => rTabCheck_any nm vc vk vf vx cs ks fs es d r.w 0 0 0 0 (hc.step (UP r) (Nat.le_refl _)) (hk.step (UP r) (Nat.le_refl _)) (hf.step (UP r) (Nat.le_refl _)) (he.step (UP r) (Nat.le_refl _)) hlen hd)
  have HA := Lib.hid (fun r : After (w.alloc (.cells #[.string nm, vc, vk, vf, vx] 42)) => awake13_any m r.w (((UP r).cell (p := ⟨0, 0, none⟩) hm0).trans hm))
  have x0 : ∀ r : After (w.alloc (.cells #[.string nm, vc, vk, vf, vx] 42)), r.w.cell? ⟨w.heap.size, 0, none⟩ = some (.string nm) := after_cell HO.out.lt (HO.out.cell 0)
  have x1 : ∀ r : After (w.alloc (.cells #[.string nm, vc, vk, vf, vx] 42)), r.w.cell? ⟨w.heap.size, 1, none⟩ = some vc := after_cell HO.out.lt (HO.out.cell 1)
  have x2 : ∀ r : After (w.alloc (.cells #[.string nm, vc, vk, vf, vx] 42)), r.w.cell? ⟨w.heap.size, 2, none⟩ = some vk := after_cell HO.out.lt (HO.out.cell 2)
  have x3 : ∀ r : After (w.alloc (.cells #[.string nm, vc, vk, vf, vx] 42)), r.w.cell? ⟨w.heap.size, 3, none⟩ = some vf := after_cell HO.out.lt (HO.out.cell 3)
  have x4 : ∀ r : After (w.alloc (.cells #[.string nm, vc, vk, vf, vx] 42)), r.w.cell? ⟨w.heap.size, 4, none⟩ = some vx := after_cell HO.out.lt (HO.out.cell 4)
  have HB1 := Lib.hid b1
  generalize chkA nm.data.toList cs ks fs d es = R at *
  generalize nameS s.data.toList = bn at *
  clear b1 hc hk hf he hm HO UP
  go_enter Try.func5, Try.ntmps5
  go_wp2_with fail
  cases bn
  all_goals
    (refine wp_region_after (by kernel_rfl) (by kernel_rfl) ?_; (repeat (go_big_quiet_step (first | (go_at_call 20; exact calls_after (HN1.out _)) | (go_at_call 21; exact calls_after (HN2.out _)) | (go_at_call 22; exact calls_after (HP.out _)) | (go_at_call 23; exact calls_after (HR.out _)) | (go_at_call 24; exact calls_after (HA.out _))))); refine wpQuiet_nil ?_; intro wq hw0; obtain ⟨⟨wq0, hbq⟩, hw1⟩ := hw0; subst hw1; (try dsimp only))
    clear x0 x1 x2 x3 x4
    go_wp2
    go_ret
    exact ⟨(by first | rfl | simp), HB1.out.trans (hbq.mono HB1.out.size)⟩
end Go.Proofs.Ytggeoloikkjipaa
