import Derived.Test.YtilhlcnniejdgaaQJf
import Derived.Test.YtilhlcnniejdgaaQW
import Derived.WalkKit
import Derived.WalkSpells
import Derived.WalkLawsBesides
import Derived.Deep.QuietTactic
import Derived.BigQuiet
import Derived.Handy
import Derived.Lib.Hide
/-
  Check of the reference; the walk of the statement ExprChecks. Conditions: lengths, a bounded depth.
-/
namespace Go.Proofs.Ytilhlcnniejdgaa
set_option linter.unusedVariables false
set_option linter.unusedSimpArgs false
set_option maxRecDepth 100000
open Go.RowKit

set_option maxRecDepth 100000 in
set_option maxHeartbeats 3200000 in
theorem rCheck_any (v : Value) (zs : List Int) (d : Nat) (e : Ex) (A : Option Addr) (c : Nat) (w : World) (L L2 : Nat) (h : RdE w L w.heap.size d (.slice A e.args.length c) e.args) (hz : RdI w L2 w.heap.size v zs) (hd : d ≤ 9223372036854775000) :
    Calls Try.prog 10 #[exV e (.slice A e.args.length c), v] w fun e' w' => e' = .returned (resV (chkT zs d e)) ∧ Below w.heap.size w w' := by
  have b1 := bel_mk w (.cells (exA e (.slice A e.args.length c)) 26)
  have o1 := Own.new w 26 (exA e (.slice A e.args.length c))
  unfold exA at b1 o1
  have hdep := rDep_any d e (.slice A e.args.length c) _ L (h.step b1 (Nat.le_refl _)) hd
  unfold exV at *
  have HD := Lib.hid hdep
  have HB := Lib.hid b1
  have HO := Lib.hid o1
  have HK := Lib.hid (fun (W : World) (hb : Below w.heap.size w W) => rChk_any v zs d e (.slice A e.args.length c) W L L2 (h.step hb (Nat.le_refl _)) (hz.step hb (Nat.le_refl _)))
  clear hdep b1 o1 h hz
  unfold chkT
  by_cases hd : 24 < depE d e
  · have hm : (24 : Int) < ((depE d e : Nat) : Int) := by omega
    rw [if_pos hd]
    unfold resV
    generalize ((depE d e : Nat) : Int) = q at *
    clear hd HK
    go_enter Try.func10, Try.ntmps10
    go_wp2_with fail
    with_reducible refine HD.out.mono ?_
    rintro e w3 ⟨rfl, hb3⟩
    go_wp2
    go_ret2
    exact ⟨rfl, HB.out.trans (hb3.mono HB.out.size)⟩
  · have hm : ¬ (24 : Int) < ((depE d e : Nat) : Int) := by omega
    rw [if_neg hd]
    unfold resV exV at *
    generalize ((depE d e : Nat) : Int) = q at *
    generalize kndE zs d e = P at *
    clear hd
    go_enter Try.func10, Try.ntmps10
    go_wp2_with fail
    with_reducible refine HD.out.mono ?_
    rintro e w3 ⟨rfl, hb3⟩
    have o3 := HO.out.below hb3 HO.out.lt
    have x0 := o3.cell 0
    have x1 := o3.cell 1
    have x2 := o3.cell 2
    have x3 := o3.cell 3
    have x4 := o3.cell 4
    have x5 := o3.cell 5
    have x6 := o3.cell 6
    have HB3 := Lib.hid (HB.out.trans (hb3.mono HB.out.size))
    have hk := HK.out w3 HB3.out
    have HK2 := Lib.hid hk
    clear hb3 o3 hk HK
    go_wp2_with fail
    with_reducible refine HK2.out.mono ?_
    rintro e w4 ⟨rfl, hb4⟩
    go_wp2
    go_ret2
    exact ⟨rfl, HB3.out.trans (hb4.mono HB3.out.size)⟩
set_option maxRecDepth 100000 in
set_option maxHeartbeats 3200000 in
theorem law_checks (v : Value) (zs : List Int) (d : Nat) (e : Ex) (A : Option Addr) (c : Nat) (w : World) (h : RdE w 0 w.heap.size d (.slice A e.args.length c) e.args) (hz : RdI w 0 w.heap.size v zs) (hd : d ≤ 9223372036854775000) :
    Calls Try.prog 3 #[exV e (.slice A e.args.length c), v] w fun e' w' => e' = .returned (.bool true) ∧ Below w.heap.size w w' := by
  have HB := Lib.hid (show Below w.heap.size w (w.alloc (.cells (exA e (.slice A e.args.length c)) 26)) from bel_mk w _)
  have HO := Lib.hid (show Own (w.alloc (.cells (exA e (.slice A e.args.length c)) 26)) w.heap.size 26 (exA e (.slice A e.args.length c)) from Own.new w 26 _)
  have HP := Lib.hid (fun (W : World) (hb : Below w.heap.size w W) => pCheck_any v zs d e A c W 0 0 (h.step hb (Nat.le_refl _)) (hz.step hb (Nat.le_refl _)))
  have HR := Lib.hid (fun (W : World) (hb : Below w.heap.size w W) => rCheck_any v zs d e A c W 0 0 (h.step hb (Nat.le_refl _)) (hz.step hb (Nat.le_refl _)) hd)
  have HA := Lib.hid (fun W => awake_any W)
  clear h hz
  unfold exA exV resV at *
  generalize chkT zs d e = P at *
  go_enter Try.func3, Try.ntmps3
  go_wp2_with fail
  with_reducible refine (HP.out _ HB.out).mono ?_
  rintro e w3 ⟨rfl, hb3⟩
  have o3 := HO.out.below hb3 HO.out.lt
  have x0 := o3.cell 0
  have x1 := o3.cell 1
  have x2 := o3.cell 2
  have x3 := o3.cell 3
  have x4 := o3.cell 4
  have x5 := o3.cell 5
  have x6 := o3.cell 6
  have HB3 := Lib.hid (HB.out.trans (hb3.mono HB.out.size))
  clear hb3 o3
  go_wp2_with fail
  with_reducible refine (HR.out _ HB3.out).mono ?_
  rintro e w4 ⟨rfl, hb4⟩
  have HB4 := Lib.hid (HB3.out.trans (hb4.mono HB3.out.size))
  clear hb4 x0 x1 x2 x3 x4 x5 x6
  go_wp2_with fail
  with_reducible refine (HA.out _).mono ?_
  rintro e w5 ⟨rfl, hb5⟩
  go_wp2
  go_ret
  exact ⟨by first | rfl | simp, HB4.out.trans (hb5.mono HB4.out.size)⟩
end Go.Proofs.Ytilhlcnniejdgaa
