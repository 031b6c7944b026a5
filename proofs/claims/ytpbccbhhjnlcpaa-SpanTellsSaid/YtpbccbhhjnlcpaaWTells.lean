/-
  The walk of the statement SpanTells. Conditions: the list is read anywhere below the heap's end.
-/
import Derived.Test.YtpbccbhhjnlcpaaAwkS
import Derived.Test.YtpbccbhhjnlcpaaValS
import Derived.WalkKit
import Derived.WalkSpells
import Derived.WalkLawsBesides
import Derived.Deep.QuietTactic
import Derived.BigQuiet
import Derived.Handy
import Derived.Lib.Hide
namespace Go.Proofs.Ytpbccbhhjnlcpaa
open Go.RowKit

set_option maxRecDepth 100000 in
set_option maxHeartbeats 3200000 in
theorem law_tells (v : Value) (l : List (Int × Int)) (t : Int) (w : World) (L : Nat) (hv : RdP w L w.heap.size v l) :
    Calls Try.prog 3 #[v, .int .i64 t] w fun e w' => e = .returned (.bool true) ∧ Below w.heap.size w w' := by
  have hv0 := hv
  obtain ⟨A, c, rfl, hlen, _⟩ := hv
  by_cases hbig : (l.length : Int) > 30
  · go_enter Try.func3, Try.ntmps3
    go_wp2_with fail
    refine (awake_any _).mono ?_
    rintro e w1 ⟨rfl, hb1⟩
    go_wp2
    go_ret
    exact ⟨rfl, hb1⟩
  · have hl30 : l.length ≤ 30 := by omega
    have h1 := sNext_any _ l t w L hv0
    have HV := Lib.hid hv0
    clear hv0
    go_enter Try.func3, Try.ntmps3
    go_wp2_with fail
    refine h1.mono ?_
    rintro e w1 ⟨rfl, hb1⟩
    have HV1 := Lib.hid (HV.out.step hb1 (Nat.le_refl _))
    have h2 := rNext_any _ l t w1 L HV1.out (by omega)
    clear h1
    go_wp2_with fail
    refine h2.mono ?_
    rintro e w2 ⟨rfl, hb2⟩
    have B2 := hb1.trans (hb2.mono hb1.size)
    have HV2 := Lib.hid (HV1.out.step hb2 (Nat.le_refl _))
    clear h2
    generalize nextL l t = r
    obtain ⟨r1, r2⟩ := r
    have h3 := sValid_any _ l w2 L HV2.out
    go_wp2_with fail
    refine h3.mono ?_
    rintro e w3 ⟨rfl, hb3⟩
    have B3 := B2.trans (hb3.mono B2.size)
    have HV3 := Lib.hid (HV2.out.step hb3 (Nat.le_refl _))
    have h4 := rValidL_any _ l w3 L HV3.out
    clear h3
    go_wp2_with fail
    refine h4.mono ?_
    rintro e w4 ⟨rfl, hb4⟩
    have B4 := B3.trans (hb4.mono B3.size)
    have HV4 := Lib.hid (HV3.out.step hb4 (Nat.le_refl _))
    clear h4
    have e1 : (spB (-1) l == spB (-1) l) = true := by simp
    have h5 := sMem_any _ l t w4 L HV4.out
    go_wp2_with fail
    refine h5.mono ?_
    rintro e w5 ⟨rfl, hb5⟩
    have B5 := B4.trans (hb5.mono B4.size)
    have HV5 := Lib.hid (HV4.out.step hb5 (Nat.le_refl _))
    have h6 := rMem_any _ l t w5 L HV5.out
    clear h5
    go_wp2_with fail
    refine h6.mono ?_
    rintro e w6 ⟨rfl, hb6⟩
    have B6 := B5.trans (hb6.mono B5.size)
    clear h6
    have e2 : (memL l t == memL l t) = true := by simp
    have e3 : (r1 == r1) = true := by simp
    have e4 : (r2 == r2) = true := by simp
    go_wp2_with fail
    refine (awake_any _).mono ?_
    rintro e w7 ⟨rfl, hb7⟩
    go_wp2
    go_ret
    exact ⟨rfl, B6.trans (hb7.mono B6.size)⟩
end Go.Proofs.Ytpbccbhhjnlcpaa
