/-
  The walk of FrameAppend. Conditions: the table lies as the rows say; lengths.
-/
import Derived.Test.YtkhdfjneibnlmaaDoorFrEq
import Derived.WalkKit
import Derived.WalkSpells
import Derived.WalkLawsBesides
import Derived.Deep.QuietTactic
import Derived.BigQuiet
import Derived.Handy
import Derived.Lib.Hide
namespace Go.Proofs.YtkhdfjneibnlmaaDoor
open Go.RowKit

/-- What Append answers: the bytes and the error. -/
def appF (l m : List UInt8) : List UInt8 × Nat := if m.length ≤ 1048576 then (frmL l m, 0) else ([], 5)
def RetA (w : World) (x : List UInt8 × Nat) (e : Ending) (w' : World) : Prop := ∃ v', e = .returned (.tuple #[v', .int .i64 (x.2 : Nat)]) ∧ RdB w' 0 w'.heap.size v' x.1 ∧ Below w.heap.size w w'
theorem frmL_len (l m : List UInt8) : (frmL l m).length = l.length + 8 + m.length := by unfold frmL; simp [be4]; omega
theorem pApp (v u : Value) (l m : List UInt8) (w : World) (L L2 : Nat) (henv : Env w) (hv : RdB w L w.heap.size v l) (hu : RdB w L2 w.heap.size u m) (hl : l.length ≤ 1099511627776) (hun : ∀ n c, u = .slice none n c → c = 0) :
    Calls Tryd.prog 12 #[v, u] w (RetA w (appF l m)) := by
  unfold appF
  by_cases hm : m.length ≤ 1048576
  · rw [if_pos hm]
    refine (pAppend_any v u l m w L L2 henv hv hu hl hm hun).mono ?_
    rintro e w1 ⟨v1, rfl, ho, hb⟩
    exact ⟨v1, rfl, (RdB.of_own ho (by rw [frmL_len]; omega)).more (Nat.le_refl _) (Nat.zero_le _), hb⟩
  · rw [if_neg hm]
    refine (pAppend_long v u l m w L _ L2 _ hv hu hm).mono ?_
    rintro e w1 ⟨rfl, rfl⟩
    exact ⟨_, rfl, rdB_nil _ _ _, Below.refl _ _⟩
theorem rApp (v u : Value) (l m : List UInt8) (w : World) (L L2 : Nat) (hv : RdB w L w.heap.size v l) (hu : RdB w L2 w.heap.size u m) (hl : l.length ≤ 1099511627776) (hvn : ∀ n c, v = .slice none n c → c = 0) (hun : ∀ n c, u = .slice none n c → c = 0) :
    Calls Tryd.prog 13 #[v, u] w (RetA w (appF l m)) := by
  unfold appF
  by_cases hm : m.length ≤ 1048576
  · rw [if_pos hm]
    refine (rAppend_any v u l m w L L2 hv hu hl hm hvn hun).mono ?_
    rintro e w1 ⟨v1, rfl, ho, hb⟩
    exact ⟨v1, rfl, (RdB.of_own ho (by rw [frmL_len]; omega)).more (Nat.le_refl _) (Nat.zero_le _), hb⟩
  · rw [if_neg hm]
    refine (rAppend_long v u l m w L _ L2 _ hv hu hm).mono ?_
    rintro e w1 ⟨rfl, rfl⟩
    exact ⟨_, rfl, rdB_nil _ _ _, Below.refl _ _⟩
set_option maxRecDepth 100000 in
set_option maxHeartbeats 6400000 in
theorem law_append (v u : Value) (l m : List UInt8) (cut n : Int) (w : World) (L L2 : Nat) (henv : Env w) (hv : RdB w L w.heap.size v l) (hu : RdB w L2 w.heap.size u m) (hvn : ∀ n c, v = .slice none n c → c = 0) (hun : ∀ n c, u = .slice none n c → c = 0) (hl : l.length ≤ 1099511627776) :
    Calls Tryd.prog 4 #[v, u, .int .i64 cut, .int .i64 n] w fun e w' => e = .returned (.bool true) ∧ Below w.heap.size w w' := by
  have hlen := hv
  have hstr := fun W (h : Below w.heap.size w W) => conv_rdB (hv.step h (Nat.le_refl _))
  obtain ⟨k, hk, hkl⟩ : ∃ k : Nat, max 0 (min cut (l.length : Int)) = (k : Int) ∧ k ≤ l.length := ⟨(max 0 (min cut (l.length : Int))).toNat, by omega, by omega⟩
  obtain ⟨A, c, rfl, hl63, hlc, _⟩ := hlen
  have hb := fun W (h : Below w.heap.size w W) => rdB_take (hv.step h (Nat.le_refl _)) k c hkl (by omega)
  have hkt : (l.take k).length ≤ 1099511627776 := by rw [List.length_take]; omega
  have hvk : ∀ n c', Value.slice A k c = .slice none n c' → c' = 0 := by
    intro n c' e
    injection e with e1 e2 e3
    subst e1 e3
    exact hvn _ _ rfl
  have hp := pApp (.slice A k c) u (l.take k) m w L L2 henv (hb w (Below.refl _ _)) hu hkt hun
  have hr := fun W (h : Below w.heap.size w W) => rApp (.slice A k c) u (l.take k) m W L L2 (hb W h) (hu.step h (Nat.le_refl _)) hkt hvk hun
  have hc0 := hstr w (Below.refl _ _)
  have hln := pLen_any n
  have hlr := rLen_any n
  have hwk := fun W (h : Below w.heap.size w W) => works_any W (henv.step h)
  have HP := Lib.hid hp
  have HR := Lib.hid hr
  have HS := Lib.hid hstr
  have HW := Lib.hid hwk
  have HLN := Lib.hid hln
  have HLR := Lib.hid hlr
  generalize appF (l.take k) m = X at *
  generalize ByteArray.mk l.toArray = s at *
  generalize lenF n = nn at *
  clear hb hp hr hstr hwk hvk hkt hvn hun hv hu henv hln hlr
  go_enter Tryd.func4, Tryd.ntmps4
  go_wp2_with fail
  with_reducible refine HP.out.mono ?_
  rintro e w1 ⟨v1, rfl, r1, b1⟩
  have R1 := Lib.hid r1
  clear r1 HP
  have hr2 := HR.out w1 b1
  go_wp2_with fail
  with_reducible refine hr2.mono ?_
  rintro e w2 ⟨v2, rfl, r2, b2⟩
  have B2 := b1.trans (b2.mono b1.size)
  have heq := equal_any v1 v2 X.1 w2 0 w2.heap.size 0 w2.heap.size (R1.out.step b2 (Nat.le_refl _)) r2
  have hc2 := HS.out w2 B2
  clear hr2 r2 hc0
  go_wp2_with fail
  with_reducible refine heq.mono ?_
  rintro e w3 ⟨rfl, rfl⟩
  clear heq
  go_wp2_with fail
  with_reducible refine (HLN.out _).mono ?_
  rintro e w3 ⟨rfl, rfl⟩
  go_wp2_with fail
  with_reducible refine (HLR.out _).mono ?_
  rintro e w3 ⟨rfl, rfl⟩
  go_wp2_with fail
  with_reducible refine (HW.out _ B2).mono ?_
  rintro e w4 ⟨rfl, b4⟩
  go_wp2_with fail
  go_ret
  exact ⟨rfl, B2.trans (b4.mono B2.size)⟩
end Go.Proofs.YtkhdfjneibnlmaaDoor
