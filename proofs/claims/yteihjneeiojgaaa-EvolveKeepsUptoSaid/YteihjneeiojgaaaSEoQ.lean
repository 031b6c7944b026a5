import Derived.Test.YteihjneeiojgaaaSEoP
import Derived.Test.YteihjneeiojgaaaMW
import Derived.WalkKit
import Derived.WalkSpells
import Derived.WalkLawsBesides
import Derived.Deep.QuietTactic
import Derived.BigQuiet
import Derived.Handy
import Derived.Lib.Hide
/-
  The awake of bitemporallaw14. Conditions: the search's variable holds some number.
-/
namespace Go.Proofs.Yteihjneeiojgaaa
set_option maxRecDepth 100000
set_option linter.unusedVariables false
set_option linter.unusedSimpArgs false
open Go.RowKit

def tU : Array Value := #[.string ⟨#[98]⟩, .int .i64 2, .bool false, .string ⟨#[97]⟩, .int .i64 1, .bool false, .string ⟨#[99]⟩, .int .i64 1, .bool false]
theorem app_add {g h : Nat} (m : Int) (w : World) (hm : w.cell? ⟨0, 0, none⟩ = some (.int .i64 m)) (o : Own w g 36 (exC.flatMap fC).toArray) (o2 : Own w h 3 ([(0 : Int)].flatMap fI).toArray) :
    Calls Try.prog 8 #[.agg #[.string ⟨#[116]⟩, .slice (some ⟨g, 0, none⟩) 2 2, .slice (some ⟨h, 0, none⟩) 1 1, .slice none 0 0, .slice none 0 0], .agg #[.int .i64 1, .string ⟨#[]⟩, .string ⟨#[]⟩, .string ⟨#[99]⟩, .int .i64 1, .bool true, .int .i64 1, .int .i64 7, .string ⟨#[]⟩]] w (RetX14 w 3 1 0) :=
  app_x (cs := exC) (zs := [0]) (c := 2) (c2 := 1) (h := chAdd) (z := 0) m w hm o o2 (by decide) (by decide) nm_x1 (by decide) ev_x1 (by decide +kernel) (by decide +kernel) (by decide +kernel)
theorem app_drop {g h : Nat} (m : Int) (w : World) (hm : w.cell? ⟨0, 0, none⟩ = some (.int .i64 m)) (o : Own w g 36 (exU.flatMap fC).toArray) (o2 : Own w h 3 ([(1 : Int)].flatMap fI).toArray) :
    Calls Try.prog 8 #[.agg #[.string ⟨#[116]⟩, .slice (some ⟨g, 0, none⟩) 3 3, .slice (some ⟨h, 0, none⟩) 1 1, .slice none 0 0, .slice none 0 0], .agg #[.int .i64 2, .string ⟨#[98]⟩, .string ⟨#[]⟩, .string ⟨#[]⟩, .int .i64 0, .bool false, .int .i64 0, .int .i64 0, .string ⟨#[]⟩]] w (RetX14 w 2 1 0) :=
  app_x (cs := exU) (zs := [1]) (c := 3) (c2 := 1) (h := chDrop ⟨#[98]⟩) (z := 0) m w hm o o2 (by decide) (by decide) nm_x2 (by decide) ev_x2 (by decide +kernel) (by decide +kernel) (by decide +kernel)
theorem chk_x {g h : Nat} (s : ByteArray) (x : Int) (hx : evoE [116] exC [0] [] 0 [] (chDrop s) = x) (m : Int) (w : World) (hm : w.cell? ⟨0, 0, none⟩ = some (.int .i64 m)) (o : Own w g 36 (exC.flatMap fC).toArray) (o2 : Own w h 3 ([(0 : Int)].flatMap fI).toArray) :
    Calls Try.prog 12 #[.agg #[.string ⟨#[116]⟩, .slice (some ⟨g, 0, none⟩) 2 2, .slice (some ⟨h, 0, none⟩) 1 1, .slice none 0 0, .slice none 0 0], .agg #[.int .i64 2, .string s, .string ⟨#[]⟩, .string ⟨#[]⟩, .int .i64 0, .bool false, .int .i64 0, .int .i64 0, .string ⟨#[]⟩]] w fun e w' => e = .returned (.int .i64 x) ∧ Below w.heap.size w w' := by
  have h := pEvCheck_any ⟨#[116]⟩ _ _ _ _ exC [0] [] 0 [] (chDrop s) m w 0 hm (rdT_lit (c := 2) (c2 := 1) o o2 (by decide) (by decide)) (by decide) (fun _ => (gd_lit nm_x1 (by decide) (by decide) (by decide)).s)
  rw [show (⟨#[116]⟩ : ByteArray).data.toList = [116] from rfl, hx] at h
  exact h
theorem ex_v7 : Va.nrm 1 7 ⟨#[]⟩ = .agg #[.int .i64 1, .int .i64 7, .string ⟨#[]⟩] := by kernel_rfl
set_option maxRecDepth 100000 in
set_option maxHeartbeats 25600000 in
theorem awake14_any (m : Int) (w : World) (hm : w.cell? ⟨0, 0, none⟩ = some (.int .i64 m)) : Calls Try.prog 5 #[] w fun e w' => e = .returned (.bool true) ∧ Below w.heap.size w w' := by
  have hm0 := World.block_lt_of_cell? w _ hm
  have HM := Lib.hid (fun W (h : Below w.heap.size w W) => (h.cell (p := ⟨0, 0, none⟩) hm0).trans hm)
  have HSA := Lib.hid (fun W => sample14_any W)
  have HI := Lib.hid (fun W => ex_v7 ▸ Va.rInt_any 7 W)
  have s1 := sample14_any w
  clear hm
  go_enter Try.func5, Try.ntmps5
  go_wp2_with fail
  with_reducible refine s1.mono ?_
  rintro e w1 ⟨h1, g1, rfl, oh, og, hb1⟩
  have OH := Lib.hid oh
  have OG := Lib.hid og
  have HB := Lib.hid hb1
  clear s1 oh og hb1
  go_wp2_with fail
  with_reducible refine (HI.out _).mono ?_
  rintro e w2 ⟨rfl, hb⟩
  replace OH := blw OH hb
  replace OG := blw OG hb
  replace HB := btr HB hb
  clear hb
  go_wp2_with fail
  refine (app_add m w2 (HM.out _ HB.out) OH.out OG.out).mono ?_
  rintro e w3 ⟨A1, A3, A4, g3, c1, c2, c3, c4, n3, n4, rfl, _, hb⟩
  replace HB := btr HB hb
  clear hb OH OG
  unfold exT
  obtain ⟨HT, HCU, HIU, HU, HB4⟩ := bx4 w3 27 #[.string ⟨#[116]⟩, .slice A1 3 c1, .slice (some ⟨g3, 0, none⟩) 1 c2, .slice A3 n3 c3, .slice A4 n4 c4] 36 tU 3 #[.int .i64 1] 27 #[.string ⟨#[116]⟩, .slice (some ⟨w3.heap.size + 1, 0, none⟩) 3 3, .slice (some ⟨w3.heap.size + 1 + 1, 0, none⟩) 1 1, .slice none 0 0, .slice none 0 0]
  unfold tU at *
  obtain ⟨d0, d1, d2, d3, d4⟩ := Own.five HU.out
  have HBU := Lib.hid (HB.out.trans (HB4.out.mono HB.out.size))
  have HAD := Lib.hid (app_drop m _ (HM.out _ HBU.out) HCU.out HIU.out)
  go_wp2_with fail
  refine HAD.out.mono ?_
  rintro e w5 ⟨B1, B3, B4, g5, e1, e2, e3, e4, n5, n6, rfl, hz5, hb⟩
  replace HT := Lib.hid (HT.out.below hb HT.out.lt)
  have HB5 := Lib.hid (HBU.out.trans (hb.mono HBU.out.size))
  clear hb HAD HCU HIU HU HBU HB4 HB d0 d1 d2 d3 d4
  unfold exT
  obtain ⟨HV, HB6⟩ := bx1 w5 27 #[.string ⟨#[116]⟩, .slice B1 2 e1, .slice (some ⟨g5, 0, none⟩) 1 e2, .slice B3 n5 e3, .slice B4 n6 e4]
  have t1 := (HT.out.alloc (.cells #[.string ⟨#[116]⟩, .slice B1 2 e1, .slice (some ⟨g5, 0, none⟩) 1 e2, .slice B3 n5 e3, .slice B4 n6 e4] 27)).cell 1
  have v2 := HV.out.cell 2
  have k0 := (HB6.out.cell (p := ⟨g5, 0, none⟩) (World.block_lt_of_cell? w5 _ hz5)).trans hz5
  have HB7 := Lib.hid (HB5.out.trans (HB6.out.mono HB5.out.size))
  clear hz5 HT HV HB5 HB6
  go_wp2_with fail
  with_reducible refine (HSA.out _).mono ?_
  rintro e w7 ⟨h7, g7, rfl, oh, og, hb⟩
  replace HB7 := btr HB7 hb
  have HCA := Lib.hid (chk_x ⟨#[97]⟩ 25 ev_x3 m w7 (HM.out _ HB7.out) oh og)
  clear oh og hb t1 v2 k0
  go_wp2_with fail
  with_reducible refine HCA.out.mono ?_
  rintro e w8 ⟨rfl, hb⟩
  replace HB7 := btr HB7 hb
  clear hb HCA
  go_wp2_with fail
  with_reducible refine (HSA.out _).mono ?_
  rintro e w9 ⟨h9, g9, rfl, oh, og, hb⟩
  replace HB7 := btr HB7 hb
  have HCA := Lib.hid (chk_x ⟨#[99]⟩ 11 ev_x4 m w9 (HM.out _ HB7.out) oh og)
  clear oh og hb
  go_wp2_with fail
  with_reducible refine HCA.out.mono ?_
  rintro e w10 ⟨rfl, hb⟩
  replace HB7 := btr HB7 hb
  clear hb HCA
  go_wp2
  go_ret
  exact ⟨rfl, HB7.out⟩
end Go.Proofs.Yteihjneeiojgaaa
