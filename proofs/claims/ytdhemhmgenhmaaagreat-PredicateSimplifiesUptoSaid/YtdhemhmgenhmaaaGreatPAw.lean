import Derived.Test.YtdhemhmgenhmaaaGreatPN
import Derived.Test.YtdhemhmgenhmaaaGreatPC
import Derived.Test.YtdhemhmgenhmaaaGreatPKb
import Derived.Test.YtdhemhmgenhmaaaGreatUA
import Derived.Test.YtdhemhmgenhmaaaGreatMA
import Derived.WalkKit
import Derived.WalkSpells
import Derived.WalkLawsBesides
import Derived.Deep.QuietTactic
import Derived.BigQuiet
import Derived.Handy
import Derived.Lib.Hide
set_option maxRecDepth 100000
set_option maxHeartbeats 25600000
set_option linter.unusedVariables false
set_option linter.unusedSimpArgs false
/-
  The awake of bitemporallaw12. Conditions: none. (Written by mkPdAw.py.)
-/
namespace Go.Proofs.YtdhemhmgenhmaaaGreat
open Go.RowKit
theorem cpS (op i n : Int) (w : World) : Calls Tryz.prog 39 #[.int .i64 op, .int .i64 i, .int .i64 n] w fun e w' => ∃ A c, e = .returned (.agg #[.int .i64 op, .int .i64 0, .int .i64 0, .int .i64 0, .string ⟨#[]⟩, .string ⟨#[]⟩, .slice A 2 c]) ∧ RdE w' 0 w'.heap.size 2 (.slice A 2 c) [colX i, numE n] ∧ Below w.heap.size w w' :=
 (pCpL_any op i n w).mono fun _ _ ⟨_, he, ⟨A, c, hu, hr⟩, hb⟩ => ⟨A, c, by rw [he, hu]; rfl, hr, hb⟩
theorem anS (d : Nat) (a b : Ex) (va vb : Value) (w : World) (ha : IsE d a va w) (hb : IsE d b vb w) : Calls Tryz.prog 41 #[va, vb] w fun e w' => ∃ A c, e = .returned (.agg #[.int .i64 5, .int .i64 0, .int .i64 0, .int .i64 0, .string ⟨#[]⟩, .string ⟨#[]⟩, .slice A 2 c]) ∧ RdE w' 0 w'.heap.size (d + 1) (.slice A 2 c) [a, b] ∧ Below w.heap.size w w' :=
 (pAnL_any d a b va vb w ha hb).mono fun _ _ ⟨_, he, ⟨A, c, hu, hr⟩, hb⟩ => ⟨A, c, by rw [he, hu]; rfl, hr, hb⟩
theorem winS (d : Nat) (A : Option Addr) (c : Nat) (w : World) (h : RdE w 0 w.heap.size (d + 2) (.slice A 2 c) [cpX 10 0 5, cpX 11 1 5]) : Calls Tryz.prog 40 #[.agg #[.int .i64 5, .int .i64 0, .int .i64 0, .int .i64 0, .string ⟨#[]⟩, .string ⟨#[]⟩, .slice A 2 c], .int .i64 0, .int .i64 1] w fun e w' => e = .returned (.tuple #[.agg #[.int .i64 5, .int .i64 6], .bool true]) ∧ Below w.heap.size w w' := by
 have h1 := pWin_any (d + 2) (anX (cpX 10 0 5) (cpX 11 1 5)) (.slice A 2 c) 0 1 w 0 h (by rw [conj_an, conj_cp _ _ _ _ (by decide), conj_cp _ _ _ _ (by decide)]; decide)
 rw [win_ex d] at h1
 exact h1
theorem fld_ex (a b c d e f u : Value) (w : World) : Sem.run Tryz.prog (Instr.field 26 (.agg #[a, b, c, d, e, f, u]) 4) w = .ok u w := by
 kernel_rfl
def LsE : List Ex := [cpX 10 0 5, cpX 11 1 5, cpX 8 2 0]
def lsF : Fact := ⟨fun v W => RdE W 0 W.heap.size 6 v LsE, fun _ _ _ h hb => h.step hb (Nat.le_refl _)⟩
theorem conj_len4 : (conjE 4 (anX (anX (cpX 10 0 5) (cpX 11 1 5)) (cpX 8 2 0))) = LsE := by
 rw [conj_an, conj_an, conj_cp _ _ _ _ (by decide), conj_cp _ _ _ _ (by decide), conj_cp _ _ _ _ (by decide)]
 rfl
theorem conjS (A : Option Addr) (c : Nat) (w : World) (h : RdE w 0 w.heap.size 4 (.slice A 2 c) [anX (cpX 10 0 5) (cpX 11 1 5), cpX 8 2 0]) : Calls Tryz.prog 42 #[.agg #[.int .i64 5, .int .i64 0, .int .i64 0, .int .i64 0, .string ⟨#[]⟩, .string ⟨#[]⟩, .slice A 2 c]] w fun e w' => ∃ v, e = .returned v ∧ RdE w' 0 w'.heap.size 6 v LsE ∧ Below w.heap.size w w' := by
 have h1 := pConj_any 4 (anX (anX (cpX 10 0 5) (cpX 11 1 5)) (cpX 8 2 0)) (.slice A 2 c) w 0 h (by rw [conj_len4]; decide)
 rw [conj_len4] at h1
 exact h1.mono fun _ _ ⟨v, he, hr, hb⟩ => ⟨v, he, hr.more (Nat.le_refl _) (Nat.zero_le _), hb⟩
def QsE : List Cnd := [⟨11, 0, (1, 3, ⟨#[]⟩)⟩, ⟨10, 0, (1, 4, ⟨#[]⟩)⟩]
theorem RdQ.step0 {w w' : World} {L B : Nat} {v : Value} {zs : List Cnd} (h : RdQ w L B v zs) (hb : Below B w w') (hB : B ≤ w'.heap.size) : RdQ w' 0 w'.heap.size v zs := by
 obtain ⟨A, c, h1, h2, h3⟩ := h.below hb
 exact ⟨A, c, h1, h2, fun k z hk => let ⟨ad, g1, g2, g3, g4⟩ := h3 k z hk; ⟨ad, g1, Nat.zero_le _, Nat.lt_of_lt_of_le g3 hB, g4⟩⟩
def qsF : Fact := ⟨fun v W => RdQ W 0 W.heap.size v QsE, fun _ _ _ h hb => h.step0 hb hb.size⟩
theorem condsS (A : Option Addr) (c : Nat) (w : World) (h : RdE w 0 w.heap.size 3 (.slice A 2 c) [miX, cpX 10 0 4]) : Calls Tryz.prog 43 #[.agg #[.int .i64 5, .int .i64 0, .int .i64 0, .int .i64 0, .string ⟨#[]⟩, .string ⟨#[]⟩, .slice A 2 c]] w fun e w' => ∃ v, e = .returned v ∧ RdQ w' 0 w'.heap.size v QsE ∧ Below w.heap.size w w' := by
 have h1 := pConds_any 3 (anX miX (cpX 10 0 4)) (.slice A 2 c) w 0 h (by rw [conj_mi 1 10 (by decide)]; decide)
 rw [show (conjE 3 (anX miX (cpX 10 0 4))).filterMap condE = QsE from cnd_ex 1] at h1
 exact h1.mono fun _ _ ⟨v, he, hr, hb⟩ => ⟨v, he, hr.step0 (Below.refl _ _) (Nat.le_refl _), hb⟩
theorem per_eql (w : World) : (binOp .eql 55 (.agg #[.int .i64 5, .int .i64 6]) (.agg #[.int .i64 5, .int .i64 6])).run Tryz.prog w = .ok (.bool true) w := by kernel_rfl
theorem sameS (A A2 : Option Addr) (c c2 : Nat) (w : World) (h : RdE w 0 w.heap.size 5 (.slice A 2 c) [colX 2, numE 0]) (h2 : RdE w 0 w.heap.size 5 (.slice A2 2 c2) [colX 2, numE 0]) : Calls Tryz.prog 44 #[.agg #[.int .i64 8, .int .i64 0, .int .i64 0, .int .i64 0, .string ⟨#[]⟩, .string ⟨#[]⟩, .slice A 2 c], .agg #[.int .i64 8, .int .i64 0, .int .i64 0, .int .i64 0, .string ⟨#[]⟩, .string ⟨#[]⟩, .slice A2 2 c2]] w fun e w' => e = .returned (.bool true) ∧ Below w.heap.size w w' := by
 have h1 := rSame_any 5 (cpX 8 2 0) (cpX 8 2 0) A A2 c c2 w 0 0 h h2
 rw [show sameE 5 (cpX 8 2 0) (cpX 8 2 0) = true by decide +kernel] at h1
 exact h1
theorem nev10S (A : Option Addr) (c : Nat) (w : World) (h : RdE w 0 w.heap.size 3 (.slice A 2 c) [miX, cpX 10 0 4]) : Calls Tryz.prog 45 #[.agg #[.int .i64 5, .int .i64 0, .int .i64 0, .int .i64 0, .string ⟨#[]⟩, .string ⟨#[]⟩, .slice A 2 c]] w fun e w' => e = .returned (.bool false) ∧ Below w.heap.size w w' := by
 have h1 := pNev_any 3 (anX miX (cpX 10 0 4)) (.slice A 2 c) w 0 h (by rw [conj_mi 1 10 (by decide)]; decide) (by
  intro z hz
  rw [conj_mi 1 10 (by decide)] at hz
  simp only [List.filterMap_cons, List.filterMap_nil, cond_mi, cond_cp 10 0 4 (by rfl) (by omega), List.mem_cons, List.not_mem_nil, or_false] at hz
  rcases hz with rfl | rfl <;> rfl)
 rw [nev_ex 1] at h1
 exact h1
theorem nev9S (A : Option Addr) (c : Nat) (w : World) (h : RdE w 0 w.heap.size 3 (.slice A 2 c) [miX, cpX 9 0 4]) : Calls Tryz.prog 45 #[.agg #[.int .i64 5, .int .i64 0, .int .i64 0, .int .i64 0, .string ⟨#[]⟩, .string ⟨#[]⟩, .slice A 2 c]] w fun e w' => e = .returned (.bool true) ∧ Below w.heap.size w w' := by
 have h1 := pNev_any 3 (anX miX (cpX 9 0 4)) (.slice A 2 c) w 0 h (by rw [conj_mi 1 9 (by decide)]; decide) (by
  intro z hz
  rw [conj_mi 1 9 (by decide)] at hz
  simp only [List.filterMap_cons, List.filterMap_nil, cond_mi, cond_cp 9 0 4 (by rfl) (by omega), List.mem_cons, List.not_mem_nil, or_false] at hz
  rcases hz with rfl | rfl <;> rfl)
 rw [nev_ex2 1] at h1
 exact h1
theorem awakeL_any (w : World) : Calls Tryz.prog 11 #[] w fun e w' => e = .returned (.bool true) ∧ Below w.heap.size w w' := by
 have t1 := cpS 10 0 5 w
 go_enter Tryz.func11, Tryz.ntmps11
 go_wp2_with fail
 with_reducible refine t1.mono ?_
 rintro e w1 ⟨AA, cA, rfl, q1, hb1⟩
 clear t1
 have t2 := cpS 11 1 5 w1
 go_wp2_with fail
 with_reducible refine t2.mono ?_
 rintro e w2 ⟨AB, cB, rfl, q2, hb2⟩
 clear t2
 have t3 := cpS 8 2 0 w2
 go_wp2_with fail
 with_reducible refine t3.mono ?_
 rintro e w3 ⟨AC, cC, rfl, q3, hb3⟩
 clear t3
 have r1 := q1.step (hb2.trans (hb3.mono hb2.size)) (Nat.le_refl _)
 have r2 := q2.step hb3 (Nat.le_refl _)
 have m1 := bel_mk w3 (.cells #[.int .i64 10, .int .i64 0, .int .i64 0, .int .i64 0, .string ⟨#[]⟩, .string ⟨#[]⟩, .slice AA 2 cA] 26)
 have m2 := bel_mk (w3.alloc (.cells #[.int .i64 10, .int .i64 0, .int .i64 0, .int .i64 0, .string ⟨#[]⟩, .string ⟨#[]⟩, .slice AA 2 cA] 26)) (.cells #[.int .i64 11, .int .i64 0, .int .i64 0, .int .i64 0, .string ⟨#[]⟩, .string ⟨#[]⟩, .slice AB 2 cB] 26)
 have m3 := bel_mk ((w3.alloc (.cells #[.int .i64 10, .int .i64 0, .int .i64 0, .int .i64 0, .string ⟨#[]⟩, .string ⟨#[]⟩, .slice AA 2 cA] 26)).alloc (.cells #[.int .i64 11, .int .i64 0, .int .i64 0, .int .i64 0, .string ⟨#[]⟩, .string ⟨#[]⟩, .slice AB 2 cB] 26)) (.cells #[.int .i64 8, .int .i64 0, .int .i64 0, .int .i64 0, .string ⟨#[]⟩, .string ⟨#[]⟩, .slice AC 2 cC] 26)
 have o1 := ((Own.new w3 26 _).below m2 (by simp)).below m3 (by simp; omega)
 have o2 := (Va.own_two (w := w3) (t := 26) (.cells #[.int .i64 10, .int .i64 0, .int .i64 0, .int .i64 0, .string ⟨#[]⟩, .string ⟨#[]⟩, .slice AA 2 cA] 26)).below m3 (by simp)
 have o3 : Own (((w3.alloc (.cells #[.int .i64 10, .int .i64 0, .int .i64 0, .int .i64 0, .string ⟨#[]⟩, .string ⟨#[]⟩, .slice AA 2 cA] 26)).alloc (.cells #[.int .i64 11, .int .i64 0, .int .i64 0, .int .i64 0, .string ⟨#[]⟩, .string ⟨#[]⟩, .slice AB 2 cB] 26)).alloc (.cells #[.int .i64 8, .int .i64 0, .int .i64 0, .int .i64 0, .string ⟨#[]⟩, .string ⟨#[]⟩, .slice AC 2 cC] 26)) (w3.heap.size + 1 + 1) 26 _ := own_three0 _ _
 have x0 := o1.cell 0
 have x1 := o1.cell 1
 have x2 := o1.cell 2
 have x3 := o1.cell 3
 have x4 := o1.cell 4
 have x5 := o1.cell 5
 have x6 := o1.cell 6
 have y0 := o2.cell 0
 have y1 := o2.cell 1
 have y2 := o2.cell 2
 have y3 := o2.cell 3
 have y4 := o2.cell 4
 have y5 := o2.cell 5
 have y6 := o2.cell 6
 have R1 := r1.step ((m1.trans (m2.mono m1.size)).trans (m3.mono (m1.trans (m2.mono m1.size)).size)) (Nat.le_refl _)
 have R2 := r2.step ((m1.trans (m2.mono m1.size)).trans (m3.mono (m1.trans (m2.mono m1.size)).size)) (Nat.le_refl _)
 have R3 := q3.step ((m1.trans (m2.mono m1.size)).trans (m3.mono (m1.trans (m2.mono m1.size)).size)) (Nat.le_refl _)
 have B0 : Below w.heap.size w w3 := (hb1.trans (hb2.mono hb1.size)).trans (hb3.mono (hb1.trans (hb2.mono hb1.size)).size)
 have BV := B0.trans (((m1.trans (m2.mono m1.size)).trans (m3.mono (m1.trans (m2.mono m1.size)).size)).mono B0.size)
 clear r1 r2 q1 q2 q3 m1 m2 m3 hb1 hb2 hb3 B0
 go_wp2_with fail
 clear x0 x1 x2 x3 x4 x5 x6 y0 y1 y2 y3 y4 y5 y6
 generalize (((w3.alloc (.cells #[.int .i64 10, .int .i64 0, .int .i64 0, .int .i64 0, .string ⟨#[]⟩, .string ⟨#[]⟩, .slice AA 2 cA] 26)).alloc (.cells #[.int .i64 11, .int .i64 0, .int .i64 0, .int .i64 0, .string ⟨#[]⟩, .string ⟨#[]⟩, .slice AB 2 cB] 26)).alloc (.cells #[.int .i64 8, .int .i64 0, .int .i64 0, .int .i64 0, .string ⟨#[]⟩, .string ⟨#[]⟩, .slice AC 2 cC] 26)) = v at o1 o2 o3 R1 R2 R3 BV ⊢
 generalize w3.heap.size = g1 at o1 o2 o3 ⊢
 generalize g1 + 1 = g2 at o2 o3 ⊢
 generalize g2 + 1 = g3 at o3 ⊢
 clear w1 w2 w3
 have t4 := anS 2 (cpX 10 0 5) (cpX 11 1 5) (.agg #[.int .i64 10, .int .i64 0, .int .i64 0, .int .i64 0, .string ⟨#[]⟩, .string ⟨#[]⟩, .slice AA 2 cA]) (.agg #[.int .i64 11, .int .i64 0, .int .i64 0, .int .i64 0, .string ⟨#[]⟩, .string ⟨#[]⟩, .slice AB 2 cB]) v ⟨AA, cA, rfl, R1⟩ ⟨AB, cB, rfl, R2⟩
 with_reducible refine t4.mono ?_
 rintro e w4 ⟨AD, cD, rfl, q4, hb4⟩
 clear t4
 have t5 := winS 1 AD cD w4 q4
 go_wp2_with fail
 with_reducible refine t5.mono ?_
 rintro e w5 ⟨rfl, hb5⟩
 clear t5 q4
 go_wp2_with fail
 have m6 := bel_mk w5 (.cells #[.int .i64 5, .int .i64 6] 55)
 have o4 := Own.new w5 55 #[.int .i64 5, .int .i64 6]
 have b6 := (hb4.trans (hb5.mono hb4.size)).trans (m6.mono (hb4.trans (hb5.mono hb4.size)).size)
 replace o1 := o1.below b6 o1.lt
 replace o2 := o2.below b6 o2.lt
 replace o3 := o3.below b6 o3.lt
 replace R1 := R1.step b6 (Nat.le_refl _)
 replace R2 := R2.step b6 (Nat.le_refl _)
 replace R3 := R3.step b6 (Nat.le_refl _)
 replace BV := BV.trans (b6.mono BV.size)
 clear m6 b6 hb4 hb5
 generalize w5.alloc (.cells #[.int .i64 5, .int .i64 6] 55) = u at o1 o2 o3 o4 R1 R2 R3 BV ⊢
 generalize w5.heap.size = g4 at o4 ⊢
 clear w4 w5 v
 have HBV := Lib.hid BV
 have HA := Lib.hid (show ∀ W, Below u.heap.size u W → W.cell? ⟨g1, 0, none⟩ = some (.int .i64 10) ∧ W.cell? ⟨g1, 1, none⟩ = some (.int .i64 0) ∧ W.cell? ⟨g1, 2, none⟩ = some (.int .i64 0) ∧ W.cell? ⟨g1, 3, none⟩ = some (.int .i64 0) ∧ W.cell? ⟨g1, 4, none⟩ = some (.string ⟨#[]⟩) ∧ W.cell? ⟨g1, 5, none⟩ = some (.string ⟨#[]⟩) ∧ W.cell? ⟨g1, 6, none⟩ = some (.slice AA 2 cA) from fun W h => ⟨((o1.below h o1.lt).cell 0), ((o1.below h o1.lt).cell 1), ((o1.below h o1.lt).cell 2), ((o1.below h o1.lt).cell 3), ((o1.below h o1.lt).cell 4), ((o1.below h o1.lt).cell 5), ((o1.below h o1.lt).cell 6)⟩)
 have HB := Lib.hid (show ∀ W, Below u.heap.size u W → W.cell? ⟨g2, 0, none⟩ = some (.int .i64 11) ∧ W.cell? ⟨g2, 1, none⟩ = some (.int .i64 0) ∧ W.cell? ⟨g2, 2, none⟩ = some (.int .i64 0) ∧ W.cell? ⟨g2, 3, none⟩ = some (.int .i64 0) ∧ W.cell? ⟨g2, 4, none⟩ = some (.string ⟨#[]⟩) ∧ W.cell? ⟨g2, 5, none⟩ = some (.string ⟨#[]⟩) ∧ W.cell? ⟨g2, 6, none⟩ = some (.slice AB 2 cB) from fun W h => ⟨((o2.below h o2.lt).cell 0), ((o2.below h o2.lt).cell 1), ((o2.below h o2.lt).cell 2), ((o2.below h o2.lt).cell 3), ((o2.below h o2.lt).cell 4), ((o2.below h o2.lt).cell 5), ((o2.below h o2.lt).cell 6)⟩)
 have HC := Lib.hid (show ∀ W, Below u.heap.size u W → W.cell? ⟨g3, 0, none⟩ = some (.int .i64 8) ∧ W.cell? ⟨g3, 1, none⟩ = some (.int .i64 0) ∧ W.cell? ⟨g3, 2, none⟩ = some (.int .i64 0) ∧ W.cell? ⟨g3, 3, none⟩ = some (.int .i64 0) ∧ W.cell? ⟨g3, 4, none⟩ = some (.string ⟨#[]⟩) ∧ W.cell? ⟨g3, 5, none⟩ = some (.string ⟨#[]⟩) ∧ W.cell? ⟨g3, 6, none⟩ = some (.slice AC 2 cC) from fun W h => ⟨((o3.below h o3.lt).cell 0), ((o3.below h o3.lt).cell 1), ((o3.below h o3.lt).cell 2), ((o3.below h o3.lt).cell 3), ((o3.below h o3.lt).cell 4), ((o3.below h o3.lt).cell 5), ((o3.below h o3.lt).cell 6)⟩)
 have HP := Lib.hid (show ∀ W, Below u.heap.size u W → W.cell? ⟨g4, 0, none⟩ = some (.int .i64 5) ∧ W.cell? ⟨g4, 1, none⟩ = some (.int .i64 6) from fun W h => ⟨((o4.below h o4.lt).cell 0), ((o4.below h o4.lt).cell 1)⟩)
 have HRA := Lib.hid (show ∀ W, Below u.heap.size u W → RdE W 0 W.heap.size 2 (.slice AA 2 cA) [colX 0, numE 5] from fun W h => R1.step h (Nat.le_refl _))
 have HRB := Lib.hid (show ∀ W, Below u.heap.size u W → RdE W 0 W.heap.size 2 (.slice AB 2 cB) [colX 1, numE 5] from fun W h => R2.step h (Nat.le_refl _))
 have HRC := Lib.hid (show ∀ W, Below u.heap.size u W → RdE W 0 W.heap.size 2 (.slice AC 2 cC) [colX 2, numE 0] from fun W h => R3.step h (Nat.le_refl _))
 clear o1 o2 o3 o4 R1 R2 R3 BV
 refine wp_region_invV (w := u) (fun x => { tmps := #[.bool false, .pointer (some ⟨g1, 0, none⟩), .pointer (some ⟨g2, 0, none⟩), .pointer (some ⟨g3, 0, none⟩), .pointer (some ⟨g4, 0, none⟩), .bool true, x 6, undef, undef, .agg #[.int .i64 10, .int .i64 0, .int .i64 0, .int .i64 0, .string ⟨#[]⟩, .string ⟨#[]⟩, .slice AA 2 cA], .agg #[.int .i64 11, .int .i64 0, .int .i64 0, .int .i64 0, .string ⟨#[]⟩, .string ⟨#[]⟩, .slice AB 2 cB], .agg #[.int .i64 8, .int .i64 0, .int .i64 0, .int .i64 0, .string ⟨#[]⟩, .string ⟨#[]⟩, .slice AC 2 cC], .tuple #[.agg #[.int .i64 5, .int .i64 6], .bool true], .agg #[.int .i64 10, .int .i64 0, .int .i64 0, .int .i64 0, .string ⟨#[]⟩, .string ⟨#[]⟩, .slice AA 2 cA], .agg #[.int .i64 11, .int .i64 0, .int .i64 0, .int .i64 0, .string ⟨#[]⟩, .string ⟨#[]⟩, .slice AB 2 cB], .agg #[.int .i64 5, .int .i64 0, .int .i64 0, .int .i64 0, .string ⟨#[]⟩, .string ⟨#[]⟩, .slice AD 2 cD], .tuple #[.agg #[.int .i64 5, .int .i64 6], .bool true], .agg #[.int .i64 5, .int .i64 6], .bool true, x 0, x 1, x 2, x 3, x 4, x 5, undef, undef, undef, undef, undef, undef, undef, undef, undef, undef, undef, undef, undef, undef, undef, undef, undef, undef, undef, undef, undef, undef, undef, undef, undef, undef, undef, undef, undef, undef, undef, undef, undef, undef, undef, undef, undef, undef, undef, undef, undef, undef, undef, undef, undef, undef, undef, undef, undef, undef, undef, undef, undef, undef, undef, undef, undef, undef, undef, undef, undef, undef, undef, undef, undef, undef, undef, undef, undef], defers := [] }) [isF (.agg #[.int .i64 10, .int .i64 0, .int .i64 0, .int .i64 0, .string ⟨#[]⟩, .string ⟨#[]⟩, .slice AA 2 cA]), isF (.agg #[.int .i64 11, .int .i64 0, .int .i64 0, .int .i64 0, .string ⟨#[]⟩, .string ⟨#[]⟩, .slice AB 2 cB]), exF 3 (anX (cpX 10 0 5) (cpX 11 1 5)), isF (.agg #[.int .i64 8, .int .i64 0, .int .i64 0, .int .i64 0, .string ⟨#[]⟩, .string ⟨#[]⟩, .slice AC 2 cC]), exF 4 (anX (anX (cpX 10 0 5) (cpX 11 1 5)) (cpX 8 2 0)), lsF, lsF] (fun j => undef) (by kernel_rfl) (by kernel_rfl) (by rfl) ?_ ?_ ?_
 ·intro x i o v ho
  have hi : i < 7 := (Array.getElem?_eq_some_iff.1 ho).1
  have hi2 : i = 0 ∨ i = 1 ∨ i = 2 ∨ i = 3 ∨ i = 4 ∨ i = 5 ∨ i = 6 := by omega
  rcases hi2 with rfl | rfl | rfl | rfl | rfl | rfl | rfl
  all_goals (obtain rfl := Option.some.inj ho; rfl)
 ·intro i o ho x W hb hd K hK
  have hi : i < 7 := (Array.getElem?_eq_some_iff.1 ho).1
  have hi2 : i = 0 ∨ i = 1 ∨ i = 2 ∨ i = 3 ∨ i = 4 ∨ i = 5 ∨ i = 6 := by omega
  clear hi
  rcases hi2 with rfl | rfl | rfl | rfl | rfl | rfl | rfl
  ·obtain rfl := Option.some.inj ho
   obtain ⟨k0, k1, k2, k3, k4, k5, k6⟩ := HA.out W hb
   clear hd
   rw [if_pos (by rfl)]
   try dsimp only at hK ⊢
   go_simp
   exact hK.out _ W (Below.refl _ _) rfl
  ·obtain rfl := Option.some.inj ho
   obtain ⟨k0, k1, k2, k3, k4, k5, k6⟩ := HB.out W hb
   clear hd
   rw [if_pos (by rfl)]
   try dsimp only at hK ⊢
   go_simp
   exact hK.out _ W (Below.refl _ _) rfl
  ·obtain rfl := Option.some.inj ho
   have h0 : x 0 = .agg #[.int .i64 10, .int .i64 0, .int .i64 0, .int .i64 0, .string ⟨#[]⟩, .string ⟨#[]⟩, .slice AA 2 cA] := hd 0 (by kernel_rfl)
   simp only [h0] at hK ⊢
   have h1 : x 1 = .agg #[.int .i64 11, .int .i64 0, .int .i64 0, .int .i64 0, .string ⟨#[]⟩, .string ⟨#[]⟩, .slice AB 2 cB] := hd 1 (by kernel_rfl)
   simp only [h1] at hK ⊢
   clear hd
   rw [if_pos (by rfl)]
   try dsimp only at hK ⊢
   go_simp
   (go_at_call 41; refine (pAnL_any 2 (cpX 10 0 5) (cpX 11 1 5) (.agg #[.int .i64 10, .int .i64 0, .int .i64 0, .int .i64 0, .string ⟨#[]⟩, .string ⟨#[]⟩, .slice AA 2 cA]) (.agg #[.int .i64 11, .int .i64 0, .int .i64 0, .int .i64 0, .string ⟨#[]⟩, .string ⟨#[]⟩, .slice AB 2 cB]) W ⟨AA, cA, rfl, (HRA.out W hb).up (by decide)⟩ ⟨AB, cB, rfl, (HRB.out W hb).up (by decide)⟩).mono ?_; rintro e W1 ⟨u, rfl, hu, hb1⟩; exact hK.out _ W1 hb1 hu)
  ·obtain rfl := Option.some.inj ho
   obtain ⟨k0, k1, k2, k3, k4, k5, k6⟩ := HC.out W hb
   clear hd
   rw [if_pos (by rfl)]
   try dsimp only at hK ⊢
   go_simp
   exact hK.out _ W (Below.refl _ _) rfl
  ·obtain rfl := Option.some.inj ho
   have h2 : IsE 3 (anX (cpX 10 0 5) (cpX 11 1 5)) (x 2) W := hd 2 (by kernel_rfl)
   obtain ⟨A2, c2, e2, q2⟩ := h2
   have f2 : x 2 = .agg #[.int .i64 5, .int .i64 0, .int .i64 0, .int .i64 0, .string ⟨#[]⟩, .string ⟨#[]⟩, .slice A2 2 c2] := e2
   have q2 := Lib.hid (show RdE W 0 W.heap.size 3 (.slice A2 2 c2) [cpX 10 0 5, cpX 11 1 5] from q2)
   clear e2
   simp only [f2] at hK ⊢
   clear f2
   have h3 : x 3 = .agg #[.int .i64 8, .int .i64 0, .int .i64 0, .int .i64 0, .string ⟨#[]⟩, .string ⟨#[]⟩, .slice AC 2 cC] := hd 3 (by kernel_rfl)
   simp only [h3] at hK ⊢
   clear hd
   rw [if_pos (by rfl)]
   try dsimp only at hK ⊢
   go_simp
   (go_at_call 41; refine (pAnL_any 3 (anX (cpX 10 0 5) (cpX 11 1 5)) (cpX 8 2 0) (.agg #[.int .i64 5, .int .i64 0, .int .i64 0, .int .i64 0, .string ⟨#[]⟩, .string ⟨#[]⟩, .slice A2 2 c2]) (.agg #[.int .i64 8, .int .i64 0, .int .i64 0, .int .i64 0, .string ⟨#[]⟩, .string ⟨#[]⟩, .slice AC 2 cC]) W ⟨A2, c2, rfl, q2.out⟩ ⟨AC, cC, rfl, (HRC.out W hb).up (by decide)⟩).mono ?_; rintro e W1 ⟨u, rfl, hu, hb1⟩; exact hK.out _ W1 hb1 hu)
  ·obtain rfl := Option.some.inj ho
   have h4 : IsE 4 (anX (anX (cpX 10 0 5) (cpX 11 1 5)) (cpX 8 2 0)) (x 4) W := hd 4 (by kernel_rfl)
   obtain ⟨A4, c4, e4, q4⟩ := h4
   have f4 : x 4 = .agg #[.int .i64 5, .int .i64 0, .int .i64 0, .int .i64 0, .string ⟨#[]⟩, .string ⟨#[]⟩, .slice A4 2 c4] := e4
   have q4 := Lib.hid (show RdE W 0 W.heap.size 4 (.slice A4 2 c4) [anX (cpX 10 0 5) (cpX 11 1 5), cpX 8 2 0] from q4)
   clear e4
   simp only [f4] at hK ⊢
   clear f4
   clear hd
   rw [if_pos (by rfl)]
   try dsimp only at hK ⊢
   go_simp
   (go_at_call 42; refine (conjS A4 c4 W q4.out).mono ?_; rintro e W1 ⟨v, rfl, hu, hb1⟩; exact hK.out _ W1 hb1 hu)
  ·obtain rfl := Option.some.inj ho
   have h5 : RdE W 0 W.heap.size 6 (x 5) LsE := hd 5 (by kernel_rfl)
   obtain ⟨A5, c5, e5, _⟩ := h5.slice
   simp only [e5] at hK ⊢
   rw [e5] at h5
   replace h5 := Lib.hid h5
   clear e5
   clear hd
   rw [if_pos (by rfl)]
   try dsimp only at hK ⊢
   go_simp
   exact hK.out _ W (Below.refl _ _) h5.out
 ·intro x v hb hf
  have h6 : RdE v 0 v.heap.size 6 (x 6) LsE := hf 6 (by decide)
  obtain ⟨AL, cL, e6, _⟩ := h6.slice
  rw [e6] at h6
  clear hf
  try dsimp only
  rw [e6]
  clear e6
  generalize x 0 = z19
  generalize x 1 = z20
  generalize x 2 = z21
  generalize x 3 = z22
  generalize x 4 = z23
  generalize x 5 = z24
  clear x
  have HA := Lib.hid (fun W (h : Below v.heap.size v W) => HA.out W (hb.trans (h.mono hb.size)))
  have HB := Lib.hid (fun W (h : Below v.heap.size v W) => HB.out W (hb.trans (h.mono hb.size)))
  have HC := Lib.hid (fun W (h : Below v.heap.size v W) => HC.out W (hb.trans (h.mono hb.size)))
  have HP := Lib.hid (fun W (h : Below v.heap.size v W) => HP.out W (hb.trans (h.mono hb.size)))
  have HRA := Lib.hid (fun W (h : Below v.heap.size v W) => HRA.out W (hb.trans (h.mono hb.size)))
  have HRB := Lib.hid (fun W (h : Below v.heap.size v W) => HRB.out W (hb.trans (h.mono hb.size)))
  have HRC := Lib.hid (fun W (h : Below v.heap.size v W) => HRC.out W (hb.trans (h.mono hb.size)))
  have HBV := Lib.hid (HBV.out.trans (hb.mono HBV.out.size))
  clear hb
  have t6 := cpS 7 0 3 v
  go_wp2_with fail
  with_reducible refine t6.mono ?_
  rintro e w7 ⟨AE, cE, rfl, q7, hb7⟩
  clear t6
  obtain ⟨A', c', hv', _, hc⟩ := q7
  obtain ⟨ad, ua, rfl, _, hab, hxb, hrb⟩ := hc 1 (numE 3) rfl
  injection hv' with hv1 hv2 hv3
  subst hv1 hv3
  obtain ⟨AF, cF, rfl, _⟩ := hrb.slice
  clear hc
  rw [show (1 : Nat) * 7 = 7 from rfl, show ad.add 7 = ⟨ad.block, ad.off + 7, none⟩ by unfold Addr.add; simp] at hxb
  replace hxb : w7.cell? ⟨ad.block, ad.off + 7, none⟩ = some (.int .i64 1) ∧ w7.cell? ⟨ad.block, ad.off + 7 + 1, none⟩ = some (.int .i64 0) ∧ w7.cell? ⟨ad.block, ad.off + 7 + 2, none⟩ = some (.int .i64 1) ∧ w7.cell? ⟨ad.block, ad.off + 7 + 3, none⟩ = some (.int .i64 3) ∧ w7.cell? ⟨ad.block, ad.off + 7 + 4, none⟩ = some (.string ⟨#[]⟩) ∧ w7.cell? ⟨ad.block, ad.off + 7 + 5, none⟩ = some (.string ⟨#[]⟩) ∧ w7.cell? ⟨ad.block, ad.off + 7 + 6, none⟩ = some (.slice AF 0 cF) := hxb
  obtain ⟨y0, y1, y2, y3, y4, y5, y6⟩ := hxb
  go_wp2_with fail
  rw [fld_ex]
  go_wp2_with fail
  clear y0 y1 y2 y3 y4 y5 y6
  have m8 := bel_mk w7 (.cells #[.int .i64 1, .int .i64 0, .int .i64 1, .int .i64 3, .string ⟨#[]⟩, .string ⟨#[]⟩, .slice AF 0 cF, .int .i64 2, .int .i64 0, .int .i64 0, .int .i64 0, .string ⟨#[]⟩, .string ⟨#[]⟩, .slice none 0 0] 26)
  have m9 := bel_mk (w7.alloc (.cells #[.int .i64 1, .int .i64 0, .int .i64 1, .int .i64 3, .string ⟨#[]⟩, .string ⟨#[]⟩, .slice AF 0 cF, .int .i64 2, .int .i64 0, .int .i64 0, .int .i64 0, .string ⟨#[]⟩, .string ⟨#[]⟩, .slice none 0 0] 26)) (.cells #[.int .i64 9, .int .i64 0, .int .i64 0, .int .i64 0, .string ⟨#[]⟩, .string ⟨#[]⟩, .slice (some ⟨w7.heap.size, 0, none⟩) 2 2] 26)
  have b8 := m8.trans (m9.mono m8.size)
  have o7 : Own ((w7.alloc (.cells #[.int .i64 1, .int .i64 0, .int .i64 1, .int .i64 3, .string ⟨#[]⟩, .string ⟨#[]⟩, .slice AF 0 cF, .int .i64 2, .int .i64 0, .int .i64 0, .int .i64 0, .string ⟨#[]⟩, .string ⟨#[]⟩, .slice none 0 0] 26)).alloc (.cells #[.int .i64 9, .int .i64 0, .int .i64 0, .int .i64 0, .string ⟨#[]⟩, .string ⟨#[]⟩, .slice (some ⟨w7.heap.size, 0, none⟩) 2 2] 26)) (w7.heap.size + 1) 26 _ := Va.own_two _
  have r7 : RdE ((w7.alloc (.cells #[.int .i64 1, .int .i64 0, .int .i64 1, .int .i64 3, .string ⟨#[]⟩, .string ⟨#[]⟩, .slice AF 0 cF, .int .i64 2, .int .i64 0, .int .i64 0, .int .i64 0, .string ⟨#[]⟩, .string ⟨#[]⟩, .slice none 0 0] 26)).alloc (.cells #[.int .i64 9, .int .i64 0, .int .i64 0, .int .i64 0, .string ⟨#[]⟩, .string ⟨#[]⟩, .slice (some ⟨w7.heap.size, 0, none⟩) 2 2] 26)) 0 ((w7.alloc (.cells #[.int .i64 1, .int .i64 0, .int .i64 1, .int .i64 3, .string ⟨#[]⟩, .string ⟨#[]⟩, .slice AF 0 cF, .int .i64 2, .int .i64 0, .int .i64 0, .int .i64 0, .string ⟨#[]⟩, .string ⟨#[]⟩, .slice none 0 0] 26)).alloc (.cells #[.int .i64 9, .int .i64 0, .int .i64 0, .int .i64 0, .string ⟨#[]⟩, .string ⟨#[]⟩, .slice (some ⟨w7.heap.size, 0, none⟩) 2 2] 26)).heap.size 2 (.slice (some ⟨w7.heap.size, 0, none⟩) 2 2) [numE 3, colX 0] :=
   rdE_two (a := numE 3) (b := colX 0) (Aa := AF) (ca := cF) (Ab := none) (cb := 0) (hrb.step b8 (Nat.le_refl _)) (rdE_nil _ 0 _ 1 (by decide)) ((Own.new w7 _ _).alloc _)
  have b9 := hb7.trans (b8.mono hb7.size)
  clear m8 m9 b8 hrb hb7 hab
  generalize (w7.alloc (.cells #[.int .i64 1, .int .i64 0, .int .i64 1, .int .i64 3, .string ⟨#[]⟩, .string ⟨#[]⟩, .slice AF 0 cF, .int .i64 2, .int .i64 0, .int .i64 0, .int .i64 0, .string ⟨#[]⟩, .string ⟨#[]⟩, .slice none 0 0] 26)).alloc (.cells #[.int .i64 9, .int .i64 0, .int .i64 0, .int .i64 0, .string ⟨#[]⟩, .string ⟨#[]⟩, .slice (some ⟨w7.heap.size, 0, none⟩) 2 2] 26) = u8 at o7 r7 b9 ⊢
  generalize w7.heap.size = g6 at o7 r7 ⊢
  generalize g6 + 1 = g7 at o7 ⊢
  clear w7
  replace h6 := h6.step b9 (Nat.le_refl _)
  have HC := Lib.hid (fun W (h : Below u8.heap.size u8 W) => HC.out W (b9.trans (h.mono b9.size)))
  have HP := Lib.hid (fun W (h : Below u8.heap.size u8 W) => HP.out W (b9.trans (h.mono b9.size)))
  have HRC := Lib.hid (fun W (h : Below u8.heap.size u8 W) => HRC.out W (b9.trans (h.mono b9.size)))
  have HBV := Lib.hid (HBV.out.trans (b9.mono HBV.out.size))
  have HL6 := Lib.hid (show ∀ W, Below u8.heap.size u8 W → RdE W 0 W.heap.size 6 (.slice AL 3 cL) LsE from fun W h => h6.step h (Nat.le_refl _))
  have HM := Lib.hid (show ∀ W, Below u8.heap.size u8 W → W.cell? ⟨g7, 0, none⟩ = some (.int .i64 9) ∧ W.cell? ⟨g7, 1, none⟩ = some (.int .i64 0) ∧ W.cell? ⟨g7, 2, none⟩ = some (.int .i64 0) ∧ W.cell? ⟨g7, 3, none⟩ = some (.int .i64 0) ∧ W.cell? ⟨g7, 4, none⟩ = some (.string ⟨#[]⟩) ∧ W.cell? ⟨g7, 5, none⟩ = some (.string ⟨#[]⟩) ∧ W.cell? ⟨g7, 6, none⟩ = some (.slice (some ⟨g6, 0, none⟩) 2 2) from fun W h => ⟨((o7.below h o7.lt).cell 0), ((o7.below h o7.lt).cell 1), ((o7.below h o7.lt).cell 2), ((o7.below h o7.lt).cell 3), ((o7.below h o7.lt).cell 4), ((o7.below h o7.lt).cell 5), ((o7.below h o7.lt).cell 6)⟩)
  have HRM := Lib.hid (show ∀ W, Below u8.heap.size u8 W → RdE W 0 W.heap.size 2 (.slice (some ⟨g6, 0, none⟩) 2 2) [numE 3, colX 0] from fun W h => r7.step h (Nat.le_refl _))
  clear HA HB HRA HRB b9 h6 o7 r7
  refine wp_region_invV (w := u8) (fun x => { tmps := #[.bool false, .pointer (some ⟨g1, 0, none⟩), .pointer (some ⟨g2, 0, none⟩), .pointer (some ⟨g3, 0, none⟩), .pointer (some ⟨g4, 0, none⟩), .bool true, .slice AL 3 cL, .pointer (some ⟨g7, 0, none⟩), x 4, .agg #[.int .i64 10, .int .i64 0, .int .i64 0, .int .i64 0, .string ⟨#[]⟩, .string ⟨#[]⟩, .slice AA 2 cA], .agg #[.int .i64 11, .int .i64 0, .int .i64 0, .int .i64 0, .string ⟨#[]⟩, .string ⟨#[]⟩, .slice AB 2 cB], .agg #[.int .i64 8, .int .i64 0, .int .i64 0, .int .i64 0, .string ⟨#[]⟩, .string ⟨#[]⟩, .slice AC 2 cC], .tuple #[.agg #[.int .i64 5, .int .i64 6], .bool true], .agg #[.int .i64 10, .int .i64 0, .int .i64 0, .int .i64 0, .string ⟨#[]⟩, .string ⟨#[]⟩, .slice AA 2 cA], .agg #[.int .i64 11, .int .i64 0, .int .i64 0, .int .i64 0, .string ⟨#[]⟩, .string ⟨#[]⟩, .slice AB 2 cB], .agg #[.int .i64 5, .int .i64 0, .int .i64 0, .int .i64 0, .string ⟨#[]⟩, .string ⟨#[]⟩, .slice AD 2 cD], .tuple #[.agg #[.int .i64 5, .int .i64 6], .bool true], .agg #[.int .i64 5, .int .i64 6], .bool true, z19, z20, z21, z22, z23, z24, .agg #[.int .i64 7, .int .i64 0, .int .i64 0, .int .i64 0, .string ⟨#[]⟩, .string ⟨#[]⟩, .slice (some ad) 2 cE], .slice (some ad) 2 cE, .pointer (some ⟨ad.block, ad.off + 7, none⟩), .agg #[.int .i64 1, .int .i64 0, .int .i64 1, .int .i64 3, .string ⟨#[]⟩, .string ⟨#[]⟩, .slice AF 0 cF], .agg #[.int .i64 2, .int .i64 0, .int .i64 0, .int .i64 0, .string ⟨#[]⟩, .string ⟨#[]⟩, .slice none 0 0], .slice (some ⟨g6, 0, none⟩) 2 2, .agg #[.int .i64 9, .int .i64 0, .int .i64 0, .int .i64 0, .string ⟨#[]⟩, .string ⟨#[]⟩, .slice (some ⟨g6, 0, none⟩) 2 2], x 0, x 1, x 2, x 3, undef, undef, undef, undef, undef, undef, undef, undef, undef, undef, undef, undef, undef, undef, undef, undef, undef, undef, undef, undef, undef, undef, undef, undef, undef, undef, undef, undef, undef, undef, undef, undef, undef, undef, undef, undef, undef, undef, undef, undef, undef, undef, undef, undef, undef, undef, undef, undef, undef, undef, undef, undef, undef, undef, undef, undef, undef, undef], defers := [] }) [isF (.agg #[.int .i64 9, .int .i64 0, .int .i64 0, .int .i64 0, .string ⟨#[]⟩, .string ⟨#[]⟩, .slice (some ⟨g6, 0, none⟩) 2 2]), exF 2 (cpX 10 0 4), exF 3 (anX (miX) (cpX 10 0 4)), qsF, qsF] (fun j => undef) (by kernel_rfl) (by kernel_rfl) (by rfl) ?_ ?_ ?_
  ·intro x i o v ho
   have hi : i < 5 := (Array.getElem?_eq_some_iff.1 ho).1
   have hi2 : i = 0 ∨ i = 1 ∨ i = 2 ∨ i = 3 ∨ i = 4 := by omega
   rcases hi2 with rfl | rfl | rfl | rfl | rfl
   all_goals (obtain rfl := Option.some.inj ho; rfl)
  ·intro i o ho x W hb hd K hK
   have hi : i < 5 := (Array.getElem?_eq_some_iff.1 ho).1
   have hi2 : i = 0 ∨ i = 1 ∨ i = 2 ∨ i = 3 ∨ i = 4 := by omega
   clear hi
   rcases hi2 with rfl | rfl | rfl | rfl | rfl
   ·obtain rfl := Option.some.inj ho
    obtain ⟨k0, k1, k2, k3, k4, k5, k6⟩ := HM.out W hb
    clear hd
    rw [if_pos (by rfl)]
    try dsimp only at hK ⊢
    go_simp
    exact hK.out _ W (Below.refl _ _) rfl
   ·obtain rfl := Option.some.inj ho
    clear hd
    rw [if_pos (by rfl)]
    try dsimp only at hK ⊢
    go_simp
    (go_at_call 39; refine (pCpL_any 10 0 4 W).mono ?_; rintro e W1 ⟨u, rfl, hu, hb1⟩; exact hK.out _ W1 hb1 hu)
   ·obtain rfl := Option.some.inj ho
    have h0 : x 0 = .agg #[.int .i64 9, .int .i64 0, .int .i64 0, .int .i64 0, .string ⟨#[]⟩, .string ⟨#[]⟩, .slice (some ⟨g6, 0, none⟩) 2 2] := hd 0 (by kernel_rfl)
    simp only [h0] at hK ⊢
    have h1 : IsE 2 (cpX 10 0 4) (x 1) W := hd 1 (by kernel_rfl)
    obtain ⟨A1, c1, e1, q1⟩ := h1
    have f1 : x 1 = .agg #[.int .i64 10, .int .i64 0, .int .i64 0, .int .i64 0, .string ⟨#[]⟩, .string ⟨#[]⟩, .slice A1 2 c1] := e1
    have q1 := Lib.hid (show RdE W 0 W.heap.size 2 (.slice A1 2 c1) [colX 0, numE 4] from q1)
    clear e1
    simp only [f1] at hK ⊢
    clear f1
    clear hd
    rw [if_pos (by rfl)]
    try dsimp only at hK ⊢
    go_simp
    (go_at_call 41; refine (pAnL_any 2 (miX) (cpX 10 0 4) (.agg #[.int .i64 9, .int .i64 0, .int .i64 0, .int .i64 0, .string ⟨#[]⟩, .string ⟨#[]⟩, .slice (some ⟨g6, 0, none⟩) 2 2]) (.agg #[.int .i64 10, .int .i64 0, .int .i64 0, .int .i64 0, .string ⟨#[]⟩, .string ⟨#[]⟩, .slice A1 2 c1]) W ⟨(some ⟨g6, 0, none⟩), 2, rfl, HRM.out W hb⟩ ⟨A1, c1, rfl, q1.out⟩).mono ?_; rintro e W1 ⟨u, rfl, hu, hb1⟩; exact hK.out _ W1 hb1 hu)
   ·obtain rfl := Option.some.inj ho
    have h2 : IsE 3 (anX miX (cpX 10 0 4)) (x 2) W := hd 2 (by kernel_rfl)
    obtain ⟨A2, c2, e2, q2⟩ := h2
    have f2 : x 2 = .agg #[.int .i64 5, .int .i64 0, .int .i64 0, .int .i64 0, .string ⟨#[]⟩, .string ⟨#[]⟩, .slice A2 2 c2] := e2
    have q2 := Lib.hid (show RdE W 0 W.heap.size 3 (.slice A2 2 c2) [miX, cpX 10 0 4] from q2)
    clear e2
    simp only [f2] at hK ⊢
    clear f2
    clear hd
    rw [if_pos (by rfl)]
    try dsimp only at hK ⊢
    go_simp
    (go_at_call 43; refine (condsS A2 c2 W q2.out).mono ?_; rintro e W1 ⟨v, rfl, hu, hb1⟩; exact hK.out _ W1 hb1 hu)
   ·obtain rfl := Option.some.inj ho
    have h3 : RdQ W 0 W.heap.size (x 3) QsE := hd 3 (by kernel_rfl)
    obtain ⟨A3, c3, e3, _⟩ := id h3
    simp only [e3] at hK ⊢
    rw [e3] at h3
    replace h3 := Lib.hid h3
    clear e3
    clear hd
    rw [if_pos (by rfl)]
    try dsimp only at hK ⊢
    go_simp
    exact hK.out _ W (Below.refl _ _) h3.out
  ·intro x y hb hf
   have h4 : RdQ y 0 y.heap.size (x 4) QsE := hf 4 (by decide)
   obtain ⟨AQ, cQ, e4, _⟩ := id h4
   rw [e4] at h4
   clear hf
   try dsimp only
   rw [e4]
   clear e4
   generalize x 0 = z32
   generalize x 1 = z33
   generalize x 2 = z34
   generalize x 3 = z35
   clear x
   have HC := Lib.hid (fun W (h : Below y.heap.size y W) => HC.out W (hb.trans (h.mono hb.size)))
   have HP := Lib.hid (fun W (h : Below y.heap.size y W) => HP.out W (hb.trans (h.mono hb.size)))
   have HRC := Lib.hid (fun W (h : Below y.heap.size y W) => HRC.out W (hb.trans (h.mono hb.size)))
   have HM := Lib.hid (fun W (h : Below y.heap.size y W) => HM.out W (hb.trans (h.mono hb.size)))
   have HRM := Lib.hid (fun W (h : Below y.heap.size y W) => HRM.out W (hb.trans (h.mono hb.size)))
   have HL6 := Lib.hid (fun W (h : Below y.heap.size y W) => HL6.out W (hb.trans (h.mono hb.size)))
   have HBV := Lib.hid (HBV.out.trans (hb.mono HBV.out.size))
   clear hb
   obtain ⟨A', c', hv', _, hq⟩ := h4
   obtain ⟨aq, rfl, _, haq, p0, p1, p2, p3, p4⟩ := hq 0 ⟨11, 0, (1, 3, ⟨#[]⟩)⟩ rfl
   obtain ⟨aq2, e2, _, _, n0, n1, n2, n3, n4⟩ := hq 1 ⟨10, 0, (1, 4, ⟨#[]⟩)⟩ rfl
   injection hv' with hv1 hv2 hv3
   subst hv1 hv3
   injection e2 with e2
   subst e2
   clear hq hv2
   rw [show (0 : Nat) * 5 = 0 from rfl, show aq.add 0 = aq by unfold Addr.add; simp] at p0
   rw [show (1 : Nat) * 5 = 5 from rfl, show aq.add 5 = ⟨aq.block, aq.off + 5, none⟩ by unfold Addr.add; simp] at n0
   have HQ := Lib.hid (show ∀ W, Below y.heap.size y W → W.cell? aq = some (.int .i64 11) ∧ W.cell? ⟨aq.block, aq.off + 3, none⟩ = some (.int .i64 3) ∧ W.cell? ⟨aq.block, aq.off + 5, none⟩ = some (.int .i64 10) from fun W h => ⟨(h.cell (p := aq) haq).trans p0, (h.cell (p := ⟨aq.block, aq.off + 3, none⟩) haq).trans p3, (h.cell (p := ⟨aq.block, aq.off + 5, none⟩) haq).trans n0⟩)
   clear p0 p1 p2 p3 p4 n0 n1 n2 n3 n4 haq
   obtain ⟨A', c', hv', _, hl⟩ := HL6.out y (Below.refl _ _)
   obtain ⟨al, us, rfl, _, hal, hxl, hrl⟩ := hl 2 (cpX 8 2 0) rfl
   injection hv' with hv1 hv2 hv3
   subst hv1 hv3
   obtain ⟨AS, cS, rfl, _⟩ := hrl.slice
   rw [show (2 : Nat) * 7 = 14 from rfl, show al.add 14 = ⟨al.block, al.off + 14, none⟩ by unfold Addr.add; simp] at hxl
   have HL2 := Lib.hid (show ∀ W, Below y.heap.size y W → W.cell? ⟨al.block, al.off + 14, none⟩ = some (.int .i64 8) ∧ W.cell? ⟨al.block, al.off + 14 + 1, none⟩ = some (.int .i64 0) ∧ W.cell? ⟨al.block, al.off + 14 + 2, none⟩ = some (.int .i64 0) ∧ W.cell? ⟨al.block, al.off + 14 + 3, none⟩ = some (.int .i64 0) ∧ W.cell? ⟨al.block, al.off + 14 + 4, none⟩ = some (.string ⟨#[]⟩) ∧ W.cell? ⟨al.block, al.off + 14 + 5, none⟩ = some (.string ⟨#[]⟩) ∧ W.cell? ⟨al.block, al.off + 14 + 6, none⟩ = some (.slice AS 2 cS) from fun W h => hxl.below h hal)
   have HRS := Lib.hid (show ∀ W, Below y.heap.size y W → RdE W 0 W.heap.size 5 (.slice AS 2 cS) [colX 2, numE 0] from fun W h => hrl.step h (Nat.le_refl _))
   clear hl hxl hrl hal hv2 HL6
   go_wp2_with fail
   refine wp_region_invV (w := y) (fun x => { tmps := #[x 58, .pointer (some ⟨g1, 0, none⟩), .pointer (some ⟨g2, 0, none⟩), .pointer (some ⟨g3, 0, none⟩), .pointer (some ⟨g4, 0, none⟩), .bool true, .slice (some al) 3 cL, .pointer (some ⟨g7, 0, none⟩), .slice (some aq) 2 cQ, .agg #[.int .i64 10, .int .i64 0, .int .i64 0, .int .i64 0, .string ⟨#[]⟩, .string ⟨#[]⟩, .slice AA 2 cA], .agg #[.int .i64 11, .int .i64 0, .int .i64 0, .int .i64 0, .string ⟨#[]⟩, .string ⟨#[]⟩, .slice AB 2 cB], .agg #[.int .i64 8, .int .i64 0, .int .i64 0, .int .i64 0, .string ⟨#[]⟩, .string ⟨#[]⟩, .slice AC 2 cC], .tuple #[.agg #[.int .i64 5, .int .i64 6], .bool true], .agg #[.int .i64 10, .int .i64 0, .int .i64 0, .int .i64 0, .string ⟨#[]⟩, .string ⟨#[]⟩, .slice AA 2 cA], .agg #[.int .i64 11, .int .i64 0, .int .i64 0, .int .i64 0, .string ⟨#[]⟩, .string ⟨#[]⟩, .slice AB 2 cB], .agg #[.int .i64 5, .int .i64 0, .int .i64 0, .int .i64 0, .string ⟨#[]⟩, .string ⟨#[]⟩, .slice AD 2 cD], .tuple #[.agg #[.int .i64 5, .int .i64 6], .bool true], .agg #[.int .i64 5, .int .i64 6], .bool true, z19, z20, z21, z22, z23, z24, .agg #[.int .i64 7, .int .i64 0, .int .i64 0, .int .i64 0, .string ⟨#[]⟩, .string ⟨#[]⟩, .slice (some ad) 2 cE], .slice (some ad) 2 cE, .pointer (some ⟨ad.block, ad.off + 7, none⟩), .agg #[.int .i64 1, .int .i64 0, .int .i64 1, .int .i64 3, .string ⟨#[]⟩, .string ⟨#[]⟩, .slice AF 0 cF], .agg #[.int .i64 2, .int .i64 0, .int .i64 0, .int .i64 0, .string ⟨#[]⟩, .string ⟨#[]⟩, .slice none 0 0], .slice (some ⟨g6, 0, none⟩) 2 2, .agg #[.int .i64 9, .int .i64 0, .int .i64 0, .int .i64 0, .string ⟨#[]⟩, .string ⟨#[]⟩, .slice (some ⟨g6, 0, none⟩) 2 2], z32, z33, z34, z35, x 0, x 1, x 2, x 3, x 4, x 5, x 6, x 7, x 8, x 9, x 10, x 11, x 12, x 13, x 14, x 15, x 16, x 17, x 18, x 19, x 20, x 21, x 22, x 23, x 24, x 25, x 26, x 27, x 28, x 29, x 30, x 31, x 32, x 33, x 34, x 35, x 36, x 37, x 38, x 39, x 40, x 41, x 42, x 43, x 44, x 45, x 46, x 47, x 48, x 49, x 50, x 51, x 52, x 53, x 54, x 55, x 56, x 57], defers := [] }) [isF (.bool true), isF (.bool true), isF (.agg #[.int .i64 5, .int .i64 6]), isF (.agg #[.int .i64 5, .int .i64 6]), isF (.bool true), isF (.bool true), isF (.bool true), isF (.slice (some al) 3 cL), isF (.int .i64 3), isF (.bool true), isF (.bool true), isF (.bool true), isF (.slice (some al) 3 cL), isF (.pointer (some ⟨al.block, al.off + 14, none⟩)), isF (.agg #[.int .i64 8, .int .i64 0, .int .i64 0, .int .i64 0, .string ⟨#[]⟩, .string ⟨#[]⟩, .slice AS 2 cS]), isF (.agg #[.int .i64 8, .int .i64 0, .int .i64 0, .int .i64 0, .string ⟨#[]⟩, .string ⟨#[]⟩, .slice AC 2 cC]), isF (.bool true), isF (.bool true), isF (.bool true), isF (.slice (some aq) 2 cQ), isF (.int .i64 2), isF (.bool true), isF (.bool true), isF (.bool true), isF (.slice (some aq) 2 cQ), isF (.pointer (some aq)), isF (.pointer (some aq)), isF (.int .i64 11), isF (.bool true), isF (.bool true), isF (.bool true), isF (.slice (some aq) 2 cQ), isF (.pointer (some aq)), isF (.pointer (some ⟨aq.block, aq.off + 2, none⟩)), isF (.pointer (some ⟨aq.block, aq.off + 3, none⟩)), isF (.int .i64 3), isF (.bool true), isF (.bool true), isF (.bool true), isF (.slice (some aq) 2 cQ), isF (.pointer (some ⟨aq.block, aq.off + 5, none⟩)), isF (.pointer (some ⟨aq.block, aq.off + 5, none⟩)), isF (.int .i64 10), isF (.bool true), isF (.bool true), isF (.bool true), isF (.agg #[.int .i64 9, .int .i64 0, .int .i64 0, .int .i64 0, .string ⟨#[]⟩, .string ⟨#[]⟩, .slice (some ⟨g6, 0, none⟩) 2 2]), exF 2 (cpX 10 0 4), exF 3 (anX (miX) (cpX 10 0 4)), isF (.bool false), isF (.bool true), isF (.bool true), isF (.bool true), isF (.agg #[.int .i64 9, .int .i64 0, .int .i64 0, .int .i64 0, .string ⟨#[]⟩, .string ⟨#[]⟩, .slice (some ⟨g6, 0, none⟩) 2 2]), exF 2 (cpX 9 0 4), exF 3 (anX (miX) (cpX 9 0 4)), isF (.bool true), isF (.bool true), isF (.bool true)] (fun j => if j = 58 then .bool false else undef) (by kernel_rfl) (by kernel_rfl) (by rfl) ?_ ?_ ?_
   ·intro x i o v ho
    have hi : i < 59 := (Array.getElem?_eq_some_iff.1 ho).1
    have hi2 : i = 0 ∨ i = 1 ∨ i = 2 ∨ i = 3 ∨ i = 4 ∨ i = 5 ∨ i = 6 ∨ i = 7 ∨ i = 8 ∨ i = 9 ∨ i = 10 ∨ i = 11 ∨ i = 12 ∨ i = 13 ∨ i = 14 ∨ i = 15 ∨ i = 16 ∨ i = 17 ∨ i = 18 ∨ i = 19 ∨ i = 20 ∨ i = 21 ∨ i = 22 ∨ i = 23 ∨ i = 24 ∨ i = 25 ∨ i = 26 ∨ i = 27 ∨ i = 28 ∨ i = 29 ∨ i = 30 ∨ i = 31 ∨ i = 32 ∨ i = 33 ∨ i = 34 ∨ i = 35 ∨ i = 36 ∨ i = 37 ∨ i = 38 ∨ i = 39 ∨ i = 40 ∨ i = 41 ∨ i = 42 ∨ i = 43 ∨ i = 44 ∨ i = 45 ∨ i = 46 ∨ i = 47 ∨ i = 48 ∨ i = 49 ∨ i = 50 ∨ i = 51 ∨ i = 52 ∨ i = 53 ∨ i = 54 ∨ i = 55 ∨ i = 56 ∨ i = 57 ∨ i = 58 := by omega
    rcases hi2 with rfl | rfl | rfl | rfl | rfl | rfl | rfl | rfl | rfl | rfl | rfl | rfl | rfl | rfl | rfl | rfl | rfl | rfl | rfl | rfl | rfl | rfl | rfl | rfl | rfl | rfl | rfl | rfl | rfl | rfl | rfl | rfl | rfl | rfl | rfl | rfl | rfl | rfl | rfl | rfl | rfl | rfl | rfl | rfl | rfl | rfl | rfl | rfl | rfl | rfl | rfl | rfl | rfl | rfl | rfl | rfl | rfl | rfl | rfl
    all_goals (obtain rfl := Option.some.inj ho; rfl)
   ·intro i o ho x W hb hd K hK
    have hi : i < 59 := (Array.getElem?_eq_some_iff.1 ho).1
    have hi2 : i = 0 ∨ i = 1 ∨ i = 2 ∨ i = 3 ∨ i = 4 ∨ i = 5 ∨ i = 6 ∨ i = 7 ∨ i = 8 ∨ i = 9 ∨ i = 10 ∨ i = 11 ∨ i = 12 ∨ i = 13 ∨ i = 14 ∨ i = 15 ∨ i = 16 ∨ i = 17 ∨ i = 18 ∨ i = 19 ∨ i = 20 ∨ i = 21 ∨ i = 22 ∨ i = 23 ∨ i = 24 ∨ i = 25 ∨ i = 26 ∨ i = 27 ∨ i = 28 ∨ i = 29 ∨ i = 30 ∨ i = 31 ∨ i = 32 ∨ i = 33 ∨ i = 34 ∨ i = 35 ∨ i = 36 ∨ i = 37 ∨ i = 38 ∨ i = 39 ∨ i = 40 ∨ i = 41 ∨ i = 42 ∨ i = 43 ∨ i = 44 ∨ i = 45 ∨ i = 46 ∨ i = 47 ∨ i = 48 ∨ i = 49 ∨ i = 50 ∨ i = 51 ∨ i = 52 ∨ i = 53 ∨ i = 54 ∨ i = 55 ∨ i = 56 ∨ i = 57 ∨ i = 58 := by omega
    clear hi
    rcases hi2 with rfl | rfl | rfl | rfl | rfl | rfl | rfl | rfl | rfl | rfl | rfl | rfl | rfl | rfl | rfl | rfl | rfl | rfl | rfl | rfl | rfl | rfl | rfl | rfl | rfl | rfl | rfl | rfl | rfl | rfl | rfl | rfl | rfl | rfl | rfl | rfl | rfl | rfl | rfl | rfl | rfl | rfl | rfl | rfl | rfl | rfl | rfl | rfl | rfl | rfl | rfl | rfl | rfl | rfl | rfl | rfl | rfl | rfl | rfl
    ·obtain rfl := Option.some.inj ho
     clear hd
     rw [if_pos (by rfl)]
     try dsimp only at hK ⊢
     go_simp
     exact hK.out _ W (Below.refl _ _) rfl
    ·obtain rfl := Option.some.inj ho
     have h0 : x 0 = .bool true := hd 0 (by kernel_rfl)
     simp only [h0] at hK ⊢
     clear hd
     rw [if_pos (by rfl)]
     try dsimp only at hK ⊢
     go_simp
     exact hK.out _ W (Below.refl _ _) rfl
    ·obtain rfl := Option.some.inj ho
     have h1 : x 1 = .bool true := hd 1 (by kernel_rfl)
     simp only [h1] at hK ⊢
     obtain ⟨k0, k1⟩ := HP.out W hb
     clear hd
     rw [if_pos (by rfl)]
     try dsimp only at hK ⊢
     go_simp
     exact hK.out _ W (Below.refl _ _) rfl
    ·obtain rfl := Option.some.inj ho
     have h1 : x 1 = .bool true := hd 1 (by kernel_rfl)
     simp only [h1] at hK ⊢
     clear hd
     rw [if_pos (by rfl)]
     try dsimp only at hK ⊢
     go_simp
     exact hK.out _ W (Below.refl _ _) rfl
    ·obtain rfl := Option.some.inj ho
     have h1 : x 1 = .bool true := hd 1 (by kernel_rfl)
     simp only [h1] at hK ⊢
     have h2 : x 2 = .agg #[.int .i64 5, .int .i64 6] := hd 2 (by kernel_rfl)
     simp only [h2] at hK ⊢
     have h3 : x 3 = .agg #[.int .i64 5, .int .i64 6] := hd 3 (by kernel_rfl)
     simp only [h3] at hK ⊢
     have q := fun W => per_eql W
     clear hd
     rw [if_pos (by rfl)]
     try dsimp only at hK ⊢
     go_simp
     exact hK.out _ W (Below.refl _ _) rfl
    ·obtain rfl := Option.some.inj ho
     have h1 : x 1 = .bool true := hd 1 (by kernel_rfl)
     simp only [h1] at hK ⊢
     have h4 : x 4 = .bool true := hd 4 (by kernel_rfl)
     simp only [h4] at hK ⊢
     clear hd
     rw [if_pos (by rfl)]
     try dsimp only at hK ⊢
     go_simp
     exact hK.out _ W (Below.refl _ _) rfl
    ·obtain rfl := Option.some.inj ho
     have h5 : x 5 = .bool true := hd 5 (by kernel_rfl)
     simp only [h5] at hK ⊢
     clear hd
     rw [if_pos (by rfl)]
     try dsimp only at hK ⊢
     go_simp
     exact hK.out _ W (Below.refl _ _) rfl
    ·obtain rfl := Option.some.inj ho
     have h6 : x 6 = .bool true := hd 6 (by kernel_rfl)
     simp only [h6] at hK ⊢
     clear hd
     rw [if_pos (by rfl)]
     try dsimp only at hK ⊢
     go_simp
     exact hK.out _ W (Below.refl _ _) rfl
    ·obtain rfl := Option.some.inj ho
     have h6 : x 6 = .bool true := hd 6 (by kernel_rfl)
     simp only [h6] at hK ⊢
     have h7 : x 7 = .slice (some al) 3 cL := hd 7 (by kernel_rfl)
     simp only [h7] at hK ⊢
     clear hd
     rw [if_pos (by rfl)]
     try dsimp only at hK ⊢
     go_simp
     exact hK.out _ W (Below.refl _ _) rfl
    ·obtain rfl := Option.some.inj ho
     have h6 : x 6 = .bool true := hd 6 (by kernel_rfl)
     simp only [h6] at hK ⊢
     have h8 : x 8 = .int .i64 3 := hd 8 (by kernel_rfl)
     simp only [h8] at hK ⊢
     clear hd
     rw [if_pos (by rfl)]
     try dsimp only at hK ⊢
     go_simp
     exact hK.out _ W (Below.refl _ _) rfl
    ·obtain rfl := Option.some.inj ho
     have h6 : x 6 = .bool true := hd 6 (by kernel_rfl)
     simp only [h6] at hK ⊢
     have h9 : x 9 = .bool true := hd 9 (by kernel_rfl)
     simp only [h9] at hK ⊢
     clear hd
     rw [if_pos (by rfl)]
     try dsimp only at hK ⊢
     go_simp
     exact hK.out _ W (Below.refl _ _) rfl
    ·obtain rfl := Option.some.inj ho
     have h10 : x 10 = .bool true := hd 10 (by kernel_rfl)
     simp only [h10] at hK ⊢
     clear hd
     rw [if_pos (by rfl)]
     try dsimp only at hK ⊢
     go_simp
     exact hK.out _ W (Below.refl _ _) rfl
    ·obtain rfl := Option.some.inj ho
     have h11 : x 11 = .bool true := hd 11 (by kernel_rfl)
     simp only [h11] at hK ⊢
     clear hd
     rw [if_pos (by rfl)]
     try dsimp only at hK ⊢
     go_simp
     exact hK.out _ W (Below.refl _ _) rfl
    ·obtain rfl := Option.some.inj ho
     have h11 : x 11 = .bool true := hd 11 (by kernel_rfl)
     simp only [h11] at hK ⊢
     have h12 : x 12 = .slice (some al) 3 cL := hd 12 (by kernel_rfl)
     simp only [h12] at hK ⊢
     clear hd
     rw [if_pos (by rfl)]
     try dsimp only at hK ⊢
     go_simp
     exact hK.out _ W (Below.refl _ _) rfl
    ·obtain rfl := Option.some.inj ho
     have h11 : x 11 = .bool true := hd 11 (by kernel_rfl)
     simp only [h11] at hK ⊢
     have h13 : x 13 = .pointer (some ⟨al.block, al.off + 14, none⟩) := hd 13 (by kernel_rfl)
     simp only [h13] at hK ⊢
     obtain ⟨k0, k1, k2, k3, k4, k5, k6⟩ := HL2.out W hb
     clear hd
     rw [if_pos (by rfl)]
     try dsimp only at hK ⊢
     go_simp
     exact hK.out _ W (Below.refl _ _) rfl
    ·obtain rfl := Option.some.inj ho
     have h11 : x 11 = .bool true := hd 11 (by kernel_rfl)
     simp only [h11] at hK ⊢
     obtain ⟨k0, k1, k2, k3, k4, k5, k6⟩ := HC.out W hb
     clear hd
     rw [if_pos (by rfl)]
     try dsimp only at hK ⊢
     go_simp
     exact hK.out _ W (Below.refl _ _) rfl
    ·obtain rfl := Option.some.inj ho
     have h11 : x 11 = .bool true := hd 11 (by kernel_rfl)
     simp only [h11] at hK ⊢
     have h14 : x 14 = .agg #[.int .i64 8, .int .i64 0, .int .i64 0, .int .i64 0, .string ⟨#[]⟩, .string ⟨#[]⟩, .slice AS 2 cS] := hd 14 (by kernel_rfl)
     simp only [h14] at hK ⊢
     have h15 : x 15 = .agg #[.int .i64 8, .int .i64 0, .int .i64 0, .int .i64 0, .string ⟨#[]⟩, .string ⟨#[]⟩, .slice AC 2 cC] := hd 15 (by kernel_rfl)
     simp only [h15] at hK ⊢
     clear hd
     rw [if_pos (by rfl)]
     try dsimp only at hK ⊢
     go_simp
     (go_at_call 44; refine (sameS AS AC cS cC W (HRS.out W hb) ((HRC.out W hb).up (by decide))).mono ?_; rintro e W1 ⟨rfl, hb1⟩; exact hK.out _ W1 hb1 rfl)
    ·obtain rfl := Option.some.inj ho
     have h11 : x 11 = .bool true := hd 11 (by kernel_rfl)
     simp only [h11] at hK ⊢
     have h16 : x 16 = .bool true := hd 16 (by kernel_rfl)
     simp only [h16] at hK ⊢
     clear hd
     rw [if_pos (by rfl)]
     try dsimp only at hK ⊢
     go_simp
     exact hK.out _ W (Below.refl _ _) rfl
    ·obtain rfl := Option.some.inj ho
     have h17 : x 17 = .bool true := hd 17 (by kernel_rfl)
     simp only [h17] at hK ⊢
     clear hd
     rw [if_pos (by rfl)]
     try dsimp only at hK ⊢
     go_simp
     exact hK.out _ W (Below.refl _ _) rfl
    ·obtain rfl := Option.some.inj ho
     have h18 : x 18 = .bool true := hd 18 (by kernel_rfl)
     simp only [h18] at hK ⊢
     clear hd
     rw [if_pos (by rfl)]
     try dsimp only at hK ⊢
     go_simp
     exact hK.out _ W (Below.refl _ _) rfl
    ·obtain rfl := Option.some.inj ho
     have h18 : x 18 = .bool true := hd 18 (by kernel_rfl)
     simp only [h18] at hK ⊢
     have h19 : x 19 = .slice (some aq) 2 cQ := hd 19 (by kernel_rfl)
     simp only [h19] at hK ⊢
     clear hd
     rw [if_pos (by rfl)]
     try dsimp only at hK ⊢
     go_simp
     exact hK.out _ W (Below.refl _ _) rfl
    ·obtain rfl := Option.some.inj ho
     have h18 : x 18 = .bool true := hd 18 (by kernel_rfl)
     simp only [h18] at hK ⊢
     have h20 : x 20 = .int .i64 2 := hd 20 (by kernel_rfl)
     simp only [h20] at hK ⊢
     clear hd
     rw [if_pos (by rfl)]
     try dsimp only at hK ⊢
     go_simp
     exact hK.out _ W (Below.refl _ _) rfl
    ·obtain rfl := Option.some.inj ho
     have h18 : x 18 = .bool true := hd 18 (by kernel_rfl)
     simp only [h18] at hK ⊢
     have h21 : x 21 = .bool true := hd 21 (by kernel_rfl)
     simp only [h21] at hK ⊢
     clear hd
     rw [if_pos (by rfl)]
     try dsimp only at hK ⊢
     go_simp
     exact hK.out _ W (Below.refl _ _) rfl
    ·obtain rfl := Option.some.inj ho
     have h22 : x 22 = .bool true := hd 22 (by kernel_rfl)
     simp only [h22] at hK ⊢
     clear hd
     rw [if_pos (by rfl)]
     try dsimp only at hK ⊢
     go_simp
     exact hK.out _ W (Below.refl _ _) rfl
    ·obtain rfl := Option.some.inj ho
     have h23 : x 23 = .bool true := hd 23 (by kernel_rfl)
     simp only [h23] at hK ⊢
     clear hd
     rw [if_pos (by rfl)]
     try dsimp only at hK ⊢
     go_simp
     exact hK.out _ W (Below.refl _ _) rfl
    ·obtain rfl := Option.some.inj ho
     have h23 : x 23 = .bool true := hd 23 (by kernel_rfl)
     simp only [h23] at hK ⊢
     have h24 : x 24 = .slice (some aq) 2 cQ := hd 24 (by kernel_rfl)
     simp only [h24] at hK ⊢
     clear hd
     rw [if_pos (by rfl)]
     try dsimp only at hK ⊢
     go_simp
     exact hK.out _ W (Below.refl _ _) rfl
    ·obtain rfl := Option.some.inj ho
     have h23 : x 23 = .bool true := hd 23 (by kernel_rfl)
     simp only [h23] at hK ⊢
     have h25 : x 25 = .pointer (some aq) := hd 25 (by kernel_rfl)
     simp only [h25] at hK ⊢
     clear hd
     rw [if_pos (by rfl)]
     try dsimp only at hK ⊢
     go_simp
     exact hK.out _ W (Below.refl _ _) rfl
    ·obtain rfl := Option.some.inj ho
     have h23 : x 23 = .bool true := hd 23 (by kernel_rfl)
     simp only [h23] at hK ⊢
     have h26 : x 26 = .pointer (some aq) := hd 26 (by kernel_rfl)
     simp only [h26] at hK ⊢
     obtain ⟨k0, k1, k2⟩ := HQ.out W hb
     clear hd
     rw [if_pos (by rfl)]
     try dsimp only at hK ⊢
     go_simp
     exact hK.out _ W (Below.refl _ _) rfl
    ·obtain rfl := Option.some.inj ho
     have h23 : x 23 = .bool true := hd 23 (by kernel_rfl)
     simp only [h23] at hK ⊢
     have h27 : x 27 = .int .i64 11 := hd 27 (by kernel_rfl)
     simp only [h27] at hK ⊢
     clear hd
     rw [if_pos (by rfl)]
     try dsimp only at hK ⊢
     go_simp
     exact hK.out _ W (Below.refl _ _) rfl
    ·obtain rfl := Option.some.inj ho
     have h23 : x 23 = .bool true := hd 23 (by kernel_rfl)
     simp only [h23] at hK ⊢
     have h28 : x 28 = .bool true := hd 28 (by kernel_rfl)
     simp only [h28] at hK ⊢
     clear hd
     rw [if_pos (by rfl)]
     try dsimp only at hK ⊢
     go_simp
     exact hK.out _ W (Below.refl _ _) rfl
    ·obtain rfl := Option.some.inj ho
     have h29 : x 29 = .bool true := hd 29 (by kernel_rfl)
     simp only [h29] at hK ⊢
     clear hd
     rw [if_pos (by rfl)]
     try dsimp only at hK ⊢
     go_simp
     exact hK.out _ W (Below.refl _ _) rfl
    ·obtain rfl := Option.some.inj ho
     have h30 : x 30 = .bool true := hd 30 (by kernel_rfl)
     simp only [h30] at hK ⊢
     clear hd
     rw [if_pos (by rfl)]
     try dsimp only at hK ⊢
     go_simp
     exact hK.out _ W (Below.refl _ _) rfl
    ·obtain rfl := Option.some.inj ho
     have h30 : x 30 = .bool true := hd 30 (by kernel_rfl)
     simp only [h30] at hK ⊢
     have h31 : x 31 = .slice (some aq) 2 cQ := hd 31 (by kernel_rfl)
     simp only [h31] at hK ⊢
     clear hd
     rw [if_pos (by rfl)]
     try dsimp only at hK ⊢
     go_simp
     exact hK.out _ W (Below.refl _ _) rfl
    ·obtain rfl := Option.some.inj ho
     have h30 : x 30 = .bool true := hd 30 (by kernel_rfl)
     simp only [h30] at hK ⊢
     have h32 : x 32 = .pointer (some aq) := hd 32 (by kernel_rfl)
     simp only [h32] at hK ⊢
     clear hd
     rw [if_pos (by rfl)]
     try dsimp only at hK ⊢
     go_simp
     exact hK.out _ W (Below.refl _ _) rfl
    ·obtain rfl := Option.some.inj ho
     have h30 : x 30 = .bool true := hd 30 (by kernel_rfl)
     simp only [h30] at hK ⊢
     have h33 : x 33 = .pointer (some ⟨aq.block, aq.off + 2, none⟩) := hd 33 (by kernel_rfl)
     simp only [h33] at hK ⊢
     clear hd
     rw [if_pos (by rfl)]
     try dsimp only at hK ⊢
     go_simp
     exact hK.out _ W (Below.refl _ _) rfl
    ·obtain rfl := Option.some.inj ho
     have h30 : x 30 = .bool true := hd 30 (by kernel_rfl)
     simp only [h30] at hK ⊢
     have h34 : x 34 = .pointer (some ⟨aq.block, aq.off + 3, none⟩) := hd 34 (by kernel_rfl)
     simp only [h34] at hK ⊢
     obtain ⟨k0, k1, k2⟩ := HQ.out W hb
     clear hd
     rw [if_pos (by rfl)]
     try dsimp only at hK ⊢
     go_simp
     exact hK.out _ W (Below.refl _ _) rfl
    ·obtain rfl := Option.some.inj ho
     have h30 : x 30 = .bool true := hd 30 (by kernel_rfl)
     simp only [h30] at hK ⊢
     have h35 : x 35 = .int .i64 3 := hd 35 (by kernel_rfl)
     simp only [h35] at hK ⊢
     clear hd
     rw [if_pos (by rfl)]
     try dsimp only at hK ⊢
     go_simp
     exact hK.out _ W (Below.refl _ _) rfl
    ·obtain rfl := Option.some.inj ho
     have h30 : x 30 = .bool true := hd 30 (by kernel_rfl)
     simp only [h30] at hK ⊢
     have h36 : x 36 = .bool true := hd 36 (by kernel_rfl)
     simp only [h36] at hK ⊢
     clear hd
     rw [if_pos (by rfl)]
     try dsimp only at hK ⊢
     go_simp
     exact hK.out _ W (Below.refl _ _) rfl
    ·obtain rfl := Option.some.inj ho
     have h37 : x 37 = .bool true := hd 37 (by kernel_rfl)
     simp only [h37] at hK ⊢
     clear hd
     rw [if_pos (by rfl)]
     try dsimp only at hK ⊢
     go_simp
     exact hK.out _ W (Below.refl _ _) rfl
    ·obtain rfl := Option.some.inj ho
     have h38 : x 38 = .bool true := hd 38 (by kernel_rfl)
     simp only [h38] at hK ⊢
     clear hd
     rw [if_pos (by rfl)]
     try dsimp only at hK ⊢
     go_simp
     exact hK.out _ W (Below.refl _ _) rfl
    ·obtain rfl := Option.some.inj ho
     have h38 : x 38 = .bool true := hd 38 (by kernel_rfl)
     simp only [h38] at hK ⊢
     have h39 : x 39 = .slice (some aq) 2 cQ := hd 39 (by kernel_rfl)
     simp only [h39] at hK ⊢
     clear hd
     rw [if_pos (by rfl)]
     try dsimp only at hK ⊢
     go_simp
     exact hK.out _ W (Below.refl _ _) rfl
    ·obtain rfl := Option.some.inj ho
     have h38 : x 38 = .bool true := hd 38 (by kernel_rfl)
     simp only [h38] at hK ⊢
     have h40 : x 40 = .pointer (some ⟨aq.block, aq.off + 5, none⟩) := hd 40 (by kernel_rfl)
     simp only [h40] at hK ⊢
     clear hd
     rw [if_pos (by rfl)]
     try dsimp only at hK ⊢
     go_simp
     exact hK.out _ W (Below.refl _ _) rfl
    ·obtain rfl := Option.some.inj ho
     have h38 : x 38 = .bool true := hd 38 (by kernel_rfl)
     simp only [h38] at hK ⊢
     have h41 : x 41 = .pointer (some ⟨aq.block, aq.off + 5, none⟩) := hd 41 (by kernel_rfl)
     simp only [h41] at hK ⊢
     obtain ⟨k0, k1, k2⟩ := HQ.out W hb
     clear hd
     rw [if_pos (by rfl)]
     try dsimp only at hK ⊢
     go_simp
     exact hK.out _ W (Below.refl _ _) rfl
    ·obtain rfl := Option.some.inj ho
     have h38 : x 38 = .bool true := hd 38 (by kernel_rfl)
     simp only [h38] at hK ⊢
     have h42 : x 42 = .int .i64 10 := hd 42 (by kernel_rfl)
     simp only [h42] at hK ⊢
     clear hd
     rw [if_pos (by rfl)]
     try dsimp only at hK ⊢
     go_simp
     exact hK.out _ W (Below.refl _ _) rfl
    ·obtain rfl := Option.some.inj ho
     have h38 : x 38 = .bool true := hd 38 (by kernel_rfl)
     simp only [h38] at hK ⊢
     have h43 : x 43 = .bool true := hd 43 (by kernel_rfl)
     simp only [h43] at hK ⊢
     clear hd
     rw [if_pos (by rfl)]
     try dsimp only at hK ⊢
     go_simp
     exact hK.out _ W (Below.refl _ _) rfl
    ·obtain rfl := Option.some.inj ho
     have h44 : x 44 = .bool true := hd 44 (by kernel_rfl)
     simp only [h44] at hK ⊢
     clear hd
     rw [if_pos (by rfl)]
     try dsimp only at hK ⊢
     go_simp
     exact hK.out _ W (Below.refl _ _) rfl
    ·obtain rfl := Option.some.inj ho
     have h45 : x 45 = .bool true := hd 45 (by kernel_rfl)
     simp only [h45] at hK ⊢
     obtain ⟨k0, k1, k2, k3, k4, k5, k6⟩ := HM.out W hb
     clear hd
     rw [if_pos (by rfl)]
     try dsimp only at hK ⊢
     go_simp
     exact hK.out _ W (Below.refl _ _) rfl
    ·obtain rfl := Option.some.inj ho
     have h45 : x 45 = .bool true := hd 45 (by kernel_rfl)
     simp only [h45] at hK ⊢
     clear hd
     rw [if_pos (by rfl)]
     try dsimp only at hK ⊢
     go_simp
     (go_at_call 39; refine (pCpL_any 10 0 4 W).mono ?_; rintro e W1 ⟨u, rfl, hu, hb1⟩; exact hK.out _ W1 hb1 hu)
    ·obtain rfl := Option.some.inj ho
     have h45 : x 45 = .bool true := hd 45 (by kernel_rfl)
     simp only [h45] at hK ⊢
     have h46 : x 46 = .agg #[.int .i64 9, .int .i64 0, .int .i64 0, .int .i64 0, .string ⟨#[]⟩, .string ⟨#[]⟩, .slice (some ⟨g6, 0, none⟩) 2 2] := hd 46 (by kernel_rfl)
     simp only [h46] at hK ⊢
     have h47 : IsE 2 (cpX 10 0 4) (x 47) W := hd 47 (by kernel_rfl)
     obtain ⟨A47, c47, e47, q47⟩ := h47
     have f47 : x 47 = .agg #[.int .i64 10, .int .i64 0, .int .i64 0, .int .i64 0, .string ⟨#[]⟩, .string ⟨#[]⟩, .slice A47 2 c47] := e47
     have q47 := Lib.hid (show RdE W 0 W.heap.size 2 (.slice A47 2 c47) [colX 0, numE 4] from q47)
     clear e47
     simp only [f47] at hK ⊢
     clear f47
     clear hd
     rw [if_pos (by rfl)]
     try dsimp only at hK ⊢
     go_simp
     (go_at_call 41; refine (pAnL_any 2 (miX) (cpX 10 0 4) (.agg #[.int .i64 9, .int .i64 0, .int .i64 0, .int .i64 0, .string ⟨#[]⟩, .string ⟨#[]⟩, .slice (some ⟨g6, 0, none⟩) 2 2]) (.agg #[.int .i64 10, .int .i64 0, .int .i64 0, .int .i64 0, .string ⟨#[]⟩, .string ⟨#[]⟩, .slice A47 2 c47]) W ⟨(some ⟨g6, 0, none⟩), 2, rfl, HRM.out W hb⟩ ⟨A47, c47, rfl, q47.out⟩).mono ?_; rintro e W1 ⟨u, rfl, hu, hb1⟩; exact hK.out _ W1 hb1 hu)
    ·obtain rfl := Option.some.inj ho
     have h45 : x 45 = .bool true := hd 45 (by kernel_rfl)
     simp only [h45] at hK ⊢
     have h48 : IsE 3 (anX miX (cpX 10 0 4)) (x 48) W := hd 48 (by kernel_rfl)
     obtain ⟨A48, c48, e48, q48⟩ := h48
     have f48 : x 48 = .agg #[.int .i64 5, .int .i64 0, .int .i64 0, .int .i64 0, .string ⟨#[]⟩, .string ⟨#[]⟩, .slice A48 2 c48] := e48
     have q48 := Lib.hid (show RdE W 0 W.heap.size 3 (.slice A48 2 c48) [miX, cpX 10 0 4] from q48)
     clear e48
     simp only [f48] at hK ⊢
     clear f48
     clear hd
     rw [if_pos (by rfl)]
     try dsimp only at hK ⊢
     go_simp
     (go_at_call 45; refine (nev10S A48 c48 W q48.out).mono ?_; rintro e W1 ⟨rfl, hb1⟩; exact hK.out _ W1 hb1 rfl)
    ·obtain rfl := Option.some.inj ho
     have h45 : x 45 = .bool true := hd 45 (by kernel_rfl)
     simp only [h45] at hK ⊢
     have h49 : x 49 = .bool false := hd 49 (by kernel_rfl)
     simp only [h49] at hK ⊢
     clear hd
     rw [if_pos (by rfl)]
     try dsimp only at hK ⊢
     go_simp
     exact hK.out _ W (Below.refl _ _) rfl
    ·obtain rfl := Option.some.inj ho
     have h45 : x 45 = .bool true := hd 45 (by kernel_rfl)
     simp only [h45] at hK ⊢
     have h50 : x 50 = .bool true := hd 50 (by kernel_rfl)
     simp only [h50] at hK ⊢
     clear hd
     rw [if_pos (by rfl)]
     try dsimp only at hK ⊢
     go_simp
     exact hK.out _ W (Below.refl _ _) rfl
    ·obtain rfl := Option.some.inj ho
     have h51 : x 51 = .bool true := hd 51 (by kernel_rfl)
     simp only [h51] at hK ⊢
     clear hd
     rw [if_pos (by rfl)]
     try dsimp only at hK ⊢
     go_simp
     exact hK.out _ W (Below.refl _ _) rfl
    ·obtain rfl := Option.some.inj ho
     have h52 : x 52 = .bool true := hd 52 (by kernel_rfl)
     simp only [h52] at hK ⊢
     obtain ⟨k0, k1, k2, k3, k4, k5, k6⟩ := HM.out W hb
     clear hd
     rw [if_pos (by rfl)]
     try dsimp only at hK ⊢
     go_simp
     exact hK.out _ W (Below.refl _ _) rfl
    ·obtain rfl := Option.some.inj ho
     have h52 : x 52 = .bool true := hd 52 (by kernel_rfl)
     simp only [h52] at hK ⊢
     clear hd
     rw [if_pos (by rfl)]
     try dsimp only at hK ⊢
     go_simp
     (go_at_call 39; refine (pCpL_any 9 0 4 W).mono ?_; rintro e W1 ⟨u, rfl, hu, hb1⟩; exact hK.out _ W1 hb1 hu)
    ·obtain rfl := Option.some.inj ho
     have h52 : x 52 = .bool true := hd 52 (by kernel_rfl)
     simp only [h52] at hK ⊢
     have h53 : x 53 = .agg #[.int .i64 9, .int .i64 0, .int .i64 0, .int .i64 0, .string ⟨#[]⟩, .string ⟨#[]⟩, .slice (some ⟨g6, 0, none⟩) 2 2] := hd 53 (by kernel_rfl)
     simp only [h53] at hK ⊢
     have h54 : IsE 2 (cpX 9 0 4) (x 54) W := hd 54 (by kernel_rfl)
     obtain ⟨A54, c54, e54, q54⟩ := h54
     have f54 : x 54 = .agg #[.int .i64 9, .int .i64 0, .int .i64 0, .int .i64 0, .string ⟨#[]⟩, .string ⟨#[]⟩, .slice A54 2 c54] := e54
     have q54 := Lib.hid (show RdE W 0 W.heap.size 2 (.slice A54 2 c54) [colX 0, numE 4] from q54)
     clear e54
     simp only [f54] at hK ⊢
     clear f54
     clear hd
     rw [if_pos (by rfl)]
     try dsimp only at hK ⊢
     go_simp
     (go_at_call 41; refine (pAnL_any 2 (miX) (cpX 9 0 4) (.agg #[.int .i64 9, .int .i64 0, .int .i64 0, .int .i64 0, .string ⟨#[]⟩, .string ⟨#[]⟩, .slice (some ⟨g6, 0, none⟩) 2 2]) (.agg #[.int .i64 9, .int .i64 0, .int .i64 0, .int .i64 0, .string ⟨#[]⟩, .string ⟨#[]⟩, .slice A54 2 c54]) W ⟨(some ⟨g6, 0, none⟩), 2, rfl, HRM.out W hb⟩ ⟨A54, c54, rfl, q54.out⟩).mono ?_; rintro e W1 ⟨u, rfl, hu, hb1⟩; exact hK.out _ W1 hb1 hu)
    ·obtain rfl := Option.some.inj ho
     have h52 : x 52 = .bool true := hd 52 (by kernel_rfl)
     simp only [h52] at hK ⊢
     have h55 : IsE 3 (anX miX (cpX 9 0 4)) (x 55) W := hd 55 (by kernel_rfl)
     obtain ⟨A55, c55, e55, q55⟩ := h55
     have f55 : x 55 = .agg #[.int .i64 5, .int .i64 0, .int .i64 0, .int .i64 0, .string ⟨#[]⟩, .string ⟨#[]⟩, .slice A55 2 c55] := e55
     have q55 := Lib.hid (show RdE W 0 W.heap.size 3 (.slice A55 2 c55) [miX, cpX 9 0 4] from q55)
     clear e55
     simp only [f55] at hK ⊢
     clear f55
     clear hd
     rw [if_pos (by rfl)]
     try dsimp only at hK ⊢
     go_simp
     (go_at_call 45; refine (nev9S A55 c55 W q55.out).mono ?_; rintro e W1 ⟨rfl, hb1⟩; exact hK.out _ W1 hb1 rfl)
    ·obtain rfl := Option.some.inj ho
     have h52 : x 52 = .bool true := hd 52 (by kernel_rfl)
     simp only [h52] at hK ⊢
     have h56 : x 56 = .bool true := hd 56 (by kernel_rfl)
     simp only [h56] at hK ⊢
     clear hd
     rw [if_pos (by rfl)]
     try dsimp only at hK ⊢
     go_simp
     exact hK.out _ W (Below.refl _ _) rfl
    ·obtain rfl := Option.some.inj ho
     have h57 : x 57 = .bool true := hd 57 (by kernel_rfl)
     simp only [h57] at hK ⊢
     clear hd
     rw [if_pos (by rfl)]
     try dsimp only at hK ⊢
     go_simp
     exact hK.out _ W (Below.refl _ _) rfl
   ·intro x U hb hf
    have h58 : x 58 = .bool true := hf 58 (by decide)
    have BU := Lib.hid (HBV.out.trans (hb.mono HBV.out.size))
    clear hf hb
    try dsimp only
    rw [h58]
    clear h58
    generalize x 0 = t0
    generalize x 1 = t1
    generalize x 2 = t2
    generalize x 3 = t3
    generalize x 4 = t4
    generalize x 5 = t5
    generalize x 6 = t6
    generalize x 7 = t7
    generalize x 8 = t8
    generalize x 9 = t9
    generalize x 10 = t10
    generalize x 11 = t11
    generalize x 12 = t12
    generalize x 13 = t13
    generalize x 14 = t14
    generalize x 15 = t15
    generalize x 16 = t16
    generalize x 17 = t17
    generalize x 18 = t18
    generalize x 19 = t19
    generalize x 20 = t20
    generalize x 21 = t21
    generalize x 22 = t22
    generalize x 23 = t23
    generalize x 24 = t24
    generalize x 25 = t25
    generalize x 26 = t26
    generalize x 27 = t27
    generalize x 28 = t28
    generalize x 29 = t29
    generalize x 30 = t30
    generalize x 31 = t31
    generalize x 32 = t32
    generalize x 33 = t33
    generalize x 34 = t34
    generalize x 35 = t35
    generalize x 36 = t36
    generalize x 37 = t37
    generalize x 38 = t38
    generalize x 39 = t39
    generalize x 40 = t40
    generalize x 41 = t41
    generalize x 42 = t42
    generalize x 43 = t43
    generalize x 44 = t44
    generalize x 45 = t45
    generalize x 46 = t46
    generalize x 47 = t47
    generalize x 48 = t48
    generalize x 49 = t49
    generalize x 50 = t50
    generalize x 51 = t51
    generalize x 52 = t52
    generalize x 53 = t53
    generalize x 54 = t54
    generalize x 55 = t55
    generalize x 56 = t56
    generalize x 57 = t57
    clear x
    go_wp2
    go_ret
    exact ⟨rfl, BU.out⟩
end Go.Proofs.YtdhemhmgenhmaaaGreat
