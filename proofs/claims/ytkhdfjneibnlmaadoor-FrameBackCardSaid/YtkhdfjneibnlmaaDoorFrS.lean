/-
  The reference's Append: a frame behind bytes. Conditions: lengths.
-/
import Derived.Test.YtkhdfjneibnlmaaDoorFrR
import Derived.WalkKit
import Derived.WalkSpells
import Derived.WalkLawsBesides
import Derived.Deep.QuietTactic
import Derived.BigQuiet
import Derived.Handy
import Derived.Lib.Hide
namespace Go.Proofs.YtkhdfjneibnlmaaDoor
open Go.RowKit

set_option maxHeartbeats 800000 in
theorem pAppend_long (v u : Value) (l m : List UInt8) (w : World) (L B L2 B2 : Nat) (hv : RdB w L B v l) (hu : RdB w L2 B2 u m) (hm : ¬ m.length ≤ 1048576) :
    Calls Tryd.prog 12 #[v, u] w fun e w' => e = .returned (.tuple #[.slice none 0 0, .int .i64 5]) ∧ w' = w := by
  obtain ⟨A, c, rfl, _⟩ := hv
  obtain ⟨A2, c2, rfl, _⟩ := hu
  have hmi : (m.length : Int) > 1048576 := by omega
  go_enter Tryd.func12, Tryd.ntmps12
  go_wp2
  go_ret2
  exact ⟨rfl, rfl⟩
set_option maxHeartbeats 800000 in
theorem rAppend_long (v u : Value) (l m : List UInt8) (w : World) (L B L2 B2 : Nat) (hv : RdB w L B v l) (hu : RdB w L2 B2 u m) (hm : ¬ m.length ≤ 1048576) :
    Calls Tryd.prog 13 #[v, u] w fun e w' => e = .returned (.tuple #[.slice none 0 0, .int .i64 5]) ∧ w' = w := by
  obtain ⟨A, c, rfl, _⟩ := hv
  obtain ⟨A2, c2, rfl, _⟩ := hu
  have hmi : (m.length : Int) > 1048576 := by omega
  go_enter Tryd.func13, Tryd.ntmps13
  go_wp2
  go_ret2
  exact ⟨rfl, rfl⟩
theorem own_not_none {w : World} {base n : Nat} {v : Value} {xs : List Value} (h : w.ownsRow base 5 1 v n xs) : ∀ k c, v = .slice none k c → c = 0 := by
  intro k c e
  rcases h.2 with ⟨rfl, h0⟩ | ⟨g, cap, cur, rfl, _⟩
  · injection e with _ _ e3; exact e3.symm
  · cases e
theorem ownsRow_low {w : World} {b1 b2 e size n : Nat} {v : Value} {xs : List Value} (h : w.ownsRow b1 e size v n xs) (hb : b2 ≤ b1) : w.ownsRow b2 e size v n xs := by
  refine ⟨h.1, ?_⟩
  rcases h.2 with h0 | ⟨g, cap, cur, hv, hb2, hr⟩
  · exact .inl h0
  · exact .inr ⟨g, cap, cur, hv, Nat.le_trans hb hb2, hr⟩
set_option maxRecDepth 100000 in
set_option maxHeartbeats 12800000 in
theorem rAppend_any (v u : Value) (l m : List UInt8) (w : World) (L L2 : Nat) (hv : RdB w L w.heap.size v l) (hu : RdB w L2 w.heap.size u m) (hl : l.length ≤ 1099511627776) (hm : m.length ≤ 1048576) (hvn : ∀ n c, v = .slice none n c → c = 0) (hun : ∀ n c, u = .slice none n c → c = 0) :
    Calls Tryd.prog 13 #[v, u] w fun e w' => ∃ v', e = .returned (.tuple #[v', .int .i64 0]) ∧ w'.ownsRow w.heap.size 5 1 v' (frmL l m).length (bytV (frmL l m)) ∧ Below w.heap.size w w' := by
  have HUN := Lib.hid hun
  have HVN := Lib.hid hvn
  have HV := Lib.hid hv
  have HU := Lib.hid hu
  clear hun hvn
  obtain ⟨A, c, rfl, hl63, _, _⟩ := hv
  obtain ⟨A2, c2, rfl, hm63, _, _⟩ := hu
  have hmm : ¬ (m.length : Int) > 1048576 := by omega
  have hF := rFour_any m.length (by omega) w
  go_enter Tryd.func13, Tryd.ntmps13
  go_wp2_with fail
  with_reducible refine hF.mono ?_
  rintro e w1 ⟨v1, rfl, ho1, B1⟩
  clear hF
  have R1 := Lib.hid (RdB.of_own ho1 (by simp [be4]))
  have N1 := Lib.hid (own_not_none ho1)
  have z1 := B1.size
  have b2 := (Below.refl w1.heap.size w1).alloc (Nat.le_refl _) (.cells #[] 5)
  have O2 := Lib.hid (own_lit w1 [] (by unfold maxLen; simp) #[] rfl)
  have z2 := b2.size
  have RV2 := Lib.hid (HV.out.step (B1.trans (b2.mono z1)) (Nat.le_refl _))
  have R12 := Lib.hid (R1.out.step b2 (Nat.le_refl _))
  have hl0 : ([] : List UInt8).length + l.length ≤ 70368744177664 := by simp; omega
  have HL0 := Lib.hid hl0
  clear ho1 hl0
  have hSum := fun v7 w7 (h : RdB w7 w1.heap.size w7.heap.size v7 (be4 m.length ++ m)) => rSum_any v7 (be4 m.length ++ m) w7 w1.heap.size w7.heap.size h
  have hFour := fun W => rFour_any (crc (be4 m.length ++ m)) (crc_lt _) W
  have HF := Lib.hid (show frmL l m = l ++ be4 m.length ++ be4 (crc (be4 m.length ++ m)) ++ m from rfl)
  generalize hK : crc (be4 m.length ++ m) = K at *
  clear hK
  have hl1 : l.length + (be4 m.length).length ≤ 70368744177664 := by simp [be4]; omega
  have hl2 : ([] : List UInt8).length + (be4 m.length).length ≤ 70368744177664 := by simp [be4]
  have hl3 : (be4 m.length).length + m.length ≤ 70368744177664 := by simp [be4]; omega
  have hl4 : (l ++ be4 m.length).length + (be4 K).length ≤ 70368744177664 := by simp [be4]; omega
  have hl5 : (l ++ be4 m.length ++ be4 K).length + m.length ≤ 70368744177664 := by simp [be4]; omega
  have hl6 : (be4 m.length ++ m).length ≤ 9223372036854775807 := by simp [be4]; omega
  have hl7 : (be4 K).length ≤ 9223372036854775807 := by simp [be4]
  have HL1 := Lib.hid hl1
  have HL2 := Lib.hid hl2
  have HL3 := Lib.hid hl3
  have HL4 := Lib.hid hl4
  have HL5 := Lib.hid hl5
  have HL6 := Lib.hid hl6
  have HL7 := Lib.hid hl7
  clear hl1 hl2 hl3 hl4 hl5 hl6 hl7
  have HSUM := Lib.hid hSum
  clear hSum
  generalize hbm : be4 m.length = bm at *
  generalize hbk : be4 K = bk at *
  clear hbm hbk
  go_wp2_with (first
    | (at_builtin; refine append_x _ rfl _ _ rfl w1.heap.size _ [] rfl O2.out _ l _ _ rfl RV2.out HVN.out HL0.out z2 ?_; intro v3 w3 ho3 hb3; rw [List.nil_append] at ho3; have O3 := Lib.hid ho3; have b3 := b2.trans hb3; have z3 := b3.size; have R13 := Lib.hid (R1.out.step b3 (Nat.le_refl _)); clear ho3)
    | (at_builtin; refine append_x _ rfl _ _ rfl w1.heap.size _ l rfl O3.out _ bm _ _ rfl R13.out N1.out HL1.out z3 ?_; intro v4 w4 ho4 hb4; have O4 := Lib.hid ho4; have b4 := b3.trans hb4; have z4 := b4.size; have B4 := B1.trans (b4.mono z1); have R14 := Lib.hid (R1.out.step b4 (Nat.le_refl _)); have RU4 := Lib.hid (HU.out.step B4 (Nat.le_refl _)); have b5 := (Below.refl w4.heap.size w4).alloc (Nat.le_refl _) (.cells #[] 5); have O5 := Lib.hid (own_lit w4 [] (by unfold maxLen; simp) #[] rfl); have z5 := b5.size; have R15 := Lib.hid (R14.out.step b5 (Nat.le_refl _)); have RU5 := Lib.hid (RU4.out.step b5 (Nat.le_refl _)); clear ho4)
    | (at_builtin; refine append_x _ rfl _ _ rfl w4.heap.size _ [] rfl O5.out _ bm _ _ rfl R15.out N1.out HL2.out z5 ?_; intro v6 w6 ho6 hb6; rw [List.nil_append] at ho6; have O6 := Lib.hid ho6; have b6 := b5.trans hb6; have z6 := b6.size; have RU6 := Lib.hid (RU4.out.step b6 (Nat.le_refl _)); clear ho6)
    | (at_builtin; refine append_x _ rfl _ _ rfl w4.heap.size _ bm rfl O6.out _ m _ _ rfl RU6.out HUN.out HL3.out z6 ?_; intro v7 w7 ho7 hb7; have b7 := b6.trans hb7; have z7 := b7.size; have R7 := Lib.hid ((RdB.of_own ho7 HL6.out).more (Nat.le_refl _) z4); clear ho7)
    | (go_at_call 10; refine (HSUM.out _ _ R7.out).mono ?_; rintro e w7b ⟨rfl, rfl⟩)
    | (go_at_call 28; refine (hFour _).mono ?_; rintro e w8 ⟨v8, rfl, ho8, hb8⟩; have b8 := b7.trans (hb8.mono z7); have z8 := b8.size; have R8 := Lib.hid (RdB.of_own ho8 HL7.out); have N8 := Lib.hid (own_not_none ho8); have O8 := Lib.hid (own_below O4.out b8); have B8 := B4.trans (b8.mono (Nat.le_trans z1 z4)); have z9 := Nat.le_trans z4 z8; clear ho8)
    | (at_builtin; refine append_x _ rfl _ _ rfl w1.heap.size _ (l ++ bm) rfl O8.out _ bk _ _ rfl R8.out N8.out HL4.out z9 ?_; intro v9 w9 ho9 hb9; have O9 := Lib.hid ho9; have B9 := B8.trans (hb9.mono z1); have z10 := Nat.le_trans z9 hb9.size; have RU9 := Lib.hid (HU.out.step B9 (Nat.le_refl _)); clear ho9)
    | (at_builtin; refine append_x _ rfl _ _ rfl w1.heap.size _ (l ++ bm ++ bk) rfl O9.out _ m _ _ rfl RU9.out HUN.out HL5.out z10 ?_; intro v10 w10 ho10 hb10))
  go_ret2
  rw [HF.out]
  exact ⟨_, rfl, ownsRow_low ho10 z1, B9.trans (hb10.mono z1)⟩
end Go.Proofs.YtkhdfjneibnlmaaDoor
