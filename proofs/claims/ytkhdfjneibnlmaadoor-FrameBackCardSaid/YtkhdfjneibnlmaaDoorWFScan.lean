/-
  The walk of FrameScan. Conditions: the table lies as the rows say.
-/
import Derived.Test.YtkhdfjneibnlmaaDoorFrT
import Derived.WalkKit
import Derived.WalkSpells
import Derived.WalkLawsBesides
import Derived.Deep.QuietTactic
import Derived.BigQuiet
import Derived.Handy
import Derived.Lib.Hide
namespace Go.Proofs.YtkhdfjneibnlmaaDoor
open Go.RowKit

theorem RowS.rd {w w' : World} {base : Nat} {v : Value} {ms : List (List UInt8)} (h : RowS w base v ms) (hb : Below w.heap.size w w') (hl : ms.length ≤ 9223372036854775807) : RdS w' 0 w'.heap.size v ms := RdS.of_row (h.step hb) hl
theorem scanF_len (l : List UInt8) : ∀ k, (scanN l k).1.length ≤ k := by
  intro k
  induction k with
  | zero => exact Nat.le_refl _
  | succ k ih =>
    show (if (nextF l (scanN l k).2).1 = 0 then ((scanN l k).1 ++ [(nextF l (scanN l k).2).2.1], (nextF l (scanN l k).2).2.2) else scanN l k).1.length ≤ k + 1
    split
    · rw [List.length_append]; simp; omega
    · omega
set_option maxRecDepth 100000 in
set_option maxHeartbeats 6400000 in
theorem law_scan (v : Value) (l : List UInt8) (w : World) (L : Nat) (henv : Env w) (hv : RdB w L w.heap.size v l) :
    Calls Tryd.prog 6 #[v] w fun e w' => e = .returned (.bool true) ∧ Below w.heap.size w w' := by
  have hv0 := hv
  obtain ⟨A, c, rfl, _⟩ := hv
  by_cases h5 : l.length > 20000
  · have h5i : (l.length : Int) > 20000 := by omega
    go_enter Tryd.func6, Tryd.ntmps6
    go_wp2_with (go_at_call 11; refine (works_any _ henv).mono ?_; rintro e w1 ⟨rfl, hb1⟩)
    go_ret
    exact ⟨rfl, hb1⟩
  · have h5i : ¬ (l.length : Int) > 20000 := by omega
    have hp := pScan_any _ l w L henv hv0 (by omega)
    have hr := fun W (h : Below w.heap.size w W) => rScan_any _ l W L (hv0.step h (Nat.le_refl _)) (by omega)
    have hwk := fun W (h : Below w.heap.size w W) => works_any W (henv.step h)
    have hxl : (scanF l).1.length ≤ 9223372036854775807 := by have := scanF_len l l.length; unfold scanF; omega
    have HP := Lib.hid hp
    have HR := Lib.hid hr
    have HW := Lib.hid hwk
    generalize scanF l = X at *
    have HXL := Lib.hid hxl
    clear hp hr hwk henv hv0 hxl
    go_enter Tryd.func6, Tryd.ntmps6
    go_wp2_with fail
    with_reducible refine HP.out.mono ?_
    rintro e w1 ⟨v1, rfl, r1, b1⟩
    have R1 := Lib.hid r1
    clear r1 HP
    have hr2 := HR.out w1 b1
    go_wp2_with fail
    with_reducible refine hr2.mono ?_
    rintro e w2 ⟨v2, rfl, r2, b2⟩
    have B2 := b1.trans (b2.mono b1.size)
    have heq := lists_any v1 v2 X.1 w2 0 0 (R1.out.rd b2 HXL.out) (r2.rd (Below.refl _ _) HXL.out)
    clear hr2 r2
    go_wp2_with fail
    with_reducible refine heq.mono ?_
    rintro e w3 ⟨rfl, b3⟩
    clear heq
    have B3 := B2.trans (b3.mono B2.size)
    have hw4 := HW.out _ B3
    go_wp2_with fail
    with_reducible refine hw4.mono ?_
    rintro e w4 ⟨rfl, b4⟩
    go_wp2_with fail
    go_ret
    exact ⟨rfl, B3.trans (b4.mono B3.size)⟩
end Go.Proofs.YtkhdfjneibnlmaaDoor
