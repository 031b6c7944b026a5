import Derived.Test.YthnmcpfmljibeaaQM
import Derived.Test.YthnmcpfmljibeaaMW
import Derived.Test.YthnmcpfmljibeaaMT
import Derived.WalkKit
import Derived.WalkSpells
import Derived.WalkLawsBesides
import Derived.Deep.QuietTactic
import Derived.BigQuiet
import Derived.Handy
import Derived.Lib.Hide
/-
  The reference's own test of an expression's fields; its depth. Conditions: at most 2 to the 40th arguments, a bounded depth.
-/
namespace Go.Proofs.Ythnmcpfmljibeaa
set_option maxRecDepth 100000
set_option linter.unusedVariables false
set_option linter.unusedSimpArgs false
open Go.RowKit

theorem ar_lo {op : Int} (h : knw op = true) : arLo op = opLo op := by unfold arLo; rw [if_pos h]
theorem ar_hi {op : Int} (h : knw op = true) {l : Nat} (hl : l ≤ 1099511627776) : ((l : Int) ≤ arHi op ↔ (l : Int) ≤ opHi op) := by
  unfold arHi
  by_cases h1 : op = 5 ∨ op = 6 ∨ op = 23
  · rw [if_pos h1]
    have h2 : opHi op = 9223372036854775807 := by rcases h1 with rfl | rfl | rfl <;> rfl
    omega
  · rw [if_neg h1, if_pos h]
theorem wf_no {op n k m : Int} {s nm : ByteArray} {l : Nat} (h : knw op = false ∨ ¬ opLo op ≤ l ∨ ¬ (l : Int) ≤ opHi op ∨ (nm.toList == []) = false) : wfE op n k m s nm l = false := by
  unfold wfE
  rcases h with h | h | h | h
  · rw [h]; rfl
  · rw [decide_eq_false h]; simp
  · rw [decide_eq_false h]; simp
  · have : fldE op n k m s nm = false := by unfold fldE; rw [h]; simp
    rw [this]; simp
theorem wf_yes {op n k m : Int} {s nm : ByteArray} {l : Nat} (h1 : knw op = true) (h2 : opLo op ≤ l) (h3 : (l : Int) ≤ opHi op) : wfE op n k m s nm l = fldE op n k m s nm := by
  unfold wfE
  rw [h1, decide_eq_true h2, decide_eq_true h3]; simp
set_option maxRecDepth 100000 in
set_option maxHeartbeats 12800000 in
theorem rFormed_any (op n k m : Int) (s nm : ByteArray) (A : Option Addr) (l c : Nat) (w : World) (hl : l ≤ 1099511627776) :
    Calls Try.prog 26 #[.agg #[.int .i64 op, .int .i64 n, .int .i64 k, .int .i64 m, .string s, .string nm, .slice A l c]] w fun e w' => e = .returned (.bool (wfE op n k m s nm l)) ∧ Below w.heap.size w w' := by
  have hA := fun W => rArity_any op W
  have HB := Lib.hid (bel_mk w (.cells #[.int .i64 op, .int .i64 n, .int .i64 k, .int .i64 m, .string s, .string nm, .slice A l c] 26))
  have HO := Lib.hid (Own.new w 26 #[.int .i64 op, .int .i64 n, .int .i64 k, .int .i64 m, .string s, .string nm, .slice A l c])
  cases hK : knw op
  · have HF := Lib.hid (wf_no (op := op) (n := n) (k := k) (m := m) (s := s) (nm := nm) (l := l) (.inl hK))
    rw [show arLo op = -1 by unfold arLo; rw [hK]; rfl] at hA
    generalize arHi op = b at *
    have HA := Lib.hid hA
    clear hA hK
    go_enter Try.func26, Try.ntmps26
    go_wp2_with fail
    with_reducible refine (HA.out _).mono ?_
    rintro e w1 ⟨rfl, hb1⟩
    have o1 := HO.out.below hb1 HO.out.lt
    have z1 := o1.lt
    have x0 := o1.cell 0
    have x1 := o1.cell 1
    have x2 := o1.cell 2
    have x3 := o1.cell 3
    have x4 := o1.cell 4
    have x5 := o1.cell 5
    have x6 := o1.cell 6
    have B1 := Lib.hid (HB.out.trans (hb1.mono HB.out.size))
    clear hb1 HA HB HO
    go_wp2
    go_ret
    exact ⟨by rw [HF.out]; rfl, B1.out⟩
  rw [ar_lo hK] at hA
  have hhi := ar_hi hK hl
  generalize arHi op = b at *
  have HA := Lib.hid hA
  clear hA
  by_cases h1 : opLo op ≤ l
  rotate_left
  · have HF := Lib.hid (wf_no (op := op) (n := n) (k := k) (m := m) (s := s) (nm := nm) (l := l) (.inr (.inl h1)))
    have h1b : (l : Int) < opLo op := by omega
    have h1c : ¬ opLo op < 0 := by omega
    generalize opLo op = a at *
    clear hK h1
    go_enter Try.func26, Try.ntmps26
    go_wp2_with fail
    with_reducible refine (HA.out _).mono ?_
    rintro e w1 ⟨rfl, hb1⟩
    have o1 := HO.out.below hb1 HO.out.lt
    have z1 := o1.lt
    have x0 := o1.cell 0
    have x1 := o1.cell 1
    have x2 := o1.cell 2
    have x3 := o1.cell 3
    have x4 := o1.cell 4
    have x5 := o1.cell 5
    have x6 := o1.cell 6
    have B1 := Lib.hid (HB.out.trans (hb1.mono HB.out.size))
    clear hb1 HA HB HO
    go_wp2
    go_ret
    exact ⟨by rw [HF.out]; rfl, B1.out⟩
  have hlo : ¬ opLo op < 0 := by unfold opLo; repeat' split <;> omega
  have h1b : ¬ (l : Int) < opLo op := by omega
  by_cases h2 : (l : Int) ≤ b
  rotate_left
  · have HF := Lib.hid (wf_no (op := op) (n := n) (k := k) (m := m) (s := s) (nm := nm) (l := l) (.inr (.inr (.inl (fun h => h2 (hhi.2 h))))))
    have h2b : b < l := by omega
    generalize opLo op = a at *
    clear hK h1 h2 hhi
    go_enter Try.func26, Try.ntmps26
    go_wp2_with fail
    with_reducible refine (HA.out _).mono ?_
    rintro e w1 ⟨rfl, hb1⟩
    have o1 := HO.out.below hb1 HO.out.lt
    have z1 := o1.lt
    have x0 := o1.cell 0
    have x1 := o1.cell 1
    have x2 := o1.cell 2
    have x3 := o1.cell 3
    have x4 := o1.cell 4
    have x5 := o1.cell 5
    have x6 := o1.cell 6
    have B1 := Lib.hid (HB.out.trans (hb1.mono HB.out.size))
    clear hb1 HA HB HO
    go_wp2
    go_ret
    exact ⟨by rw [HF.out]; rfl, B1.out⟩
  have h2b : ¬ b < (l : Int) := by omega
  cases hnm : nm.toList == []
  · have HF := Lib.hid (wf_no (op := op) (n := n) (k := k) (m := m) (s := s) (nm := nm) (l := l) (.inr (.inr (.inr hnm))))
    generalize opLo op = a at *
    clear hK h1 h2 hhi
    go_enter Try.func26, Try.ntmps26
    go_wp2_with fail
    with_reducible refine (HA.out _).mono ?_
    rintro e w1 ⟨rfl, hb1⟩
    have o1 := HO.out.below hb1 HO.out.lt
    have z1 := o1.lt
    have x0 := o1.cell 0
    have x1 := o1.cell 1
    have x2 := o1.cell 2
    have x3 := o1.cell 3
    have x4 := o1.cell 4
    have x5 := o1.cell 5
    have x6 := o1.cell 6
    have B1 := Lib.hid (HB.out.trans (hb1.mono HB.out.size))
    clear hb1 HA HB HO
    go_wp2
    go_ret
    exact ⟨by rw [HF.out]; rfl, B1.out⟩
  have hwf := wf_yes (n := n) (k := k) (m := m) (s := s) (nm := nm) hK h1 (hhi.1 h2)
  rw [hwf]
  unfold fldE
  rw [hnm]
  generalize opLo op = a at *
  have HN := Lib.hid (show ∀ W, Calls Try.prog 34 #[] W fun e w' => e = .returned (.agg #[.int .i64 0, .int .i64 0, .string ⟨#[]⟩]) ∧ Below W.heap.size W w' from fun W => Va.rNull_any W)
  have hV := fun W => Va.rValid_any k m s W
  unfold Va.vV at hV
  have qe := fun W => Va.eql_val k m s 0 0 ⟨#[]⟩ W
  clear hK h1 h2 hhi hwf
  by_cases o1 : op = 1
  · subst o1
    rw [if_pos rfl]
    clear qe
    cases hv : Va.vldV k m s <;> rw [hv] at hV <;> have HV := Lib.hid hV <;> clear hV
    · by_cases hn : n = 0
      · subst hn
        go_enter Try.func26, Try.ntmps26
        go_wp2_with fail
        with_reducible refine (HA.out _).mono ?_
        rintro e w1 ⟨rfl, hb1⟩
        have o1 := HO.out.below hb1 HO.out.lt
        have z1 := o1.lt
        have x0 := o1.cell 0
        have x1 := o1.cell 1
        have x2 := o1.cell 2
        have x3 := o1.cell 3
        have x4 := o1.cell 4
        have x5 := o1.cell 5
        have x6 := o1.cell 6
        have B1 := Lib.hid (HB.out.trans (hb1.mono HB.out.size))
        clear hb1 HA HB HO
        go_wp2_with fail
        with_reducible refine (HV.out _).mono ?_
        rintro e w2 ⟨rfl, hb2⟩
        go_wp2
        go_ret
        exact ⟨rfl, B1.out.trans (hb2.mono B1.out.size)⟩
      · have e1 : (n == 0) = false := by simp [hn]
        rw [e1]
        go_enter Try.func26, Try.ntmps26
        go_wp2_with fail
        with_reducible refine (HA.out _).mono ?_
        rintro e w1 ⟨rfl, hb1⟩
        have o1 := HO.out.below hb1 HO.out.lt
        have z1 := o1.lt
        have x0 := o1.cell 0
        have x1 := o1.cell 1
        have x2 := o1.cell 2
        have x3 := o1.cell 3
        have x4 := o1.cell 4
        have x5 := o1.cell 5
        have x6 := o1.cell 6
        have B1 := Lib.hid (HB.out.trans (hb1.mono HB.out.size))
        clear hb1 HA HB HO
        go_wp2
        go_ret
        exact ⟨rfl, B1.out⟩
    · by_cases hn : n = 0
      · subst hn
        go_enter Try.func26, Try.ntmps26
        go_wp2_with fail
        with_reducible refine (HA.out _).mono ?_
        rintro e w1 ⟨rfl, hb1⟩
        have o1 := HO.out.below hb1 HO.out.lt
        have z1 := o1.lt
        have x0 := o1.cell 0
        have x1 := o1.cell 1
        have x2 := o1.cell 2
        have x3 := o1.cell 3
        have x4 := o1.cell 4
        have x5 := o1.cell 5
        have x6 := o1.cell 6
        have B1 := Lib.hid (HB.out.trans (hb1.mono HB.out.size))
        clear hb1 HA HB HO
        go_wp2_with fail
        with_reducible refine (HV.out _).mono ?_
        rintro e w2 ⟨rfl, hb2⟩
        go_wp2
        go_ret
        exact ⟨rfl, B1.out.trans (hb2.mono B1.out.size)⟩
      · have e1 : (n == 0) = false := by simp [hn]
        rw [e1]
        go_enter Try.func26, Try.ntmps26
        go_wp2_with fail
        with_reducible refine (HA.out _).mono ?_
        rintro e w1 ⟨rfl, hb1⟩
        have o1 := HO.out.below hb1 HO.out.lt
        have z1 := o1.lt
        have x0 := o1.cell 0
        have x1 := o1.cell 1
        have x2 := o1.cell 2
        have x3 := o1.cell 3
        have x4 := o1.cell 4
        have x5 := o1.cell 5
        have x6 := o1.cell 6
        have B1 := Lib.hid (HB.out.trans (hb1.mono HB.out.size))
        clear hb1 HA HB HO
        go_wp2
        go_ret
        exact ⟨rfl, B1.out⟩
  rw [if_neg o1]
  clear hV
  have j1 : (op == 1) = false := by simpa using o1
  generalize Va.eqV k m s 0 0 ⟨#[]⟩ = bq at *
  by_cases o24 : op = 24
  · subst o24
    rw [if_pos rfl]
    unfold idxB
    by_cases hn0 : 0 ≤ n
    · by_cases hn1 : n < 13
      · rw [decide_eq_true hn0, decide_eq_true hn1]
        cases bq
        all_goals
          have HF := Lib.hid (rfl : true = true)
          go_enter Try.func26, Try.ntmps26
          go_wp2_with fail
          with_reducible refine (HA.out _).mono ?_
          rintro e w1 ⟨rfl, hb1⟩
          have o1 := HO.out.below hb1 HO.out.lt
          have z1 := o1.lt
          have x0 := o1.cell 0
          have x1 := o1.cell 1
          have x2 := o1.cell 2
          have x3 := o1.cell 3
          have x4 := o1.cell 4
          have x5 := o1.cell 5
          have x6 := o1.cell 6
          have B1 := Lib.hid (HB.out.trans (hb1.mono HB.out.size))
          clear hb1 HA HB HO
          go_wp2_with fail
          have q0 : ∀ r : After w1, r.w.cell? ⟨w.heap.size, 0, none⟩ = some (.int .i64 24) := after_cell z1 x0
          have q1 : ∀ r : After w1, r.w.cell? ⟨w.heap.size, 1, none⟩ = some (.int .i64 n) := after_cell z1 x1
          have q2 : ∀ r : After w1, r.w.cell? ⟨w.heap.size, 2, none⟩ = some (.int .i64 k) := after_cell z1 x2
          have q3 : ∀ r : After w1, r.w.cell? ⟨w.heap.size, 3, none⟩ = some (.int .i64 m) := after_cell z1 x3
          have q4 : ∀ r : After w1, r.w.cell? ⟨w.heap.size, 4, none⟩ = some (.string s) := after_cell z1 x4
          (refine wp_region_after (by kernel_rfl) (by kernel_rfl) ?_; (repeat (go_big_quiet_step ((go_at_call 34; exact calls_after (HN.out _))))); refine wpQuiet_nil ?_; intro wq hw0; obtain ⟨⟨wq0, hbq⟩, hw1⟩ := hw0; subst hw1; (try dsimp only))
          go_wp2
          go_ret
          exact ⟨by first | rfl | (simp; done) | (simp; omega), B1.out.trans (hbq.mono B1.out.size)⟩
      · rw [decide_eq_false hn1]
        cases bq
        all_goals
          have HF := Lib.hid (rfl : true = true)
          go_enter Try.func26, Try.ntmps26
          go_wp2_with fail
          with_reducible refine (HA.out _).mono ?_
          rintro e w1 ⟨rfl, hb1⟩
          have o1 := HO.out.below hb1 HO.out.lt
          have z1 := o1.lt
          have x0 := o1.cell 0
          have x1 := o1.cell 1
          have x2 := o1.cell 2
          have x3 := o1.cell 3
          have x4 := o1.cell 4
          have x5 := o1.cell 5
          have x6 := o1.cell 6
          have B1 := Lib.hid (HB.out.trans (hb1.mono HB.out.size))
          clear hb1 HA HB HO
          go_wp2_with fail
          have q0 : ∀ r : After w1, r.w.cell? ⟨w.heap.size, 0, none⟩ = some (.int .i64 24) := after_cell z1 x0
          have q1 : ∀ r : After w1, r.w.cell? ⟨w.heap.size, 1, none⟩ = some (.int .i64 n) := after_cell z1 x1
          have q2 : ∀ r : After w1, r.w.cell? ⟨w.heap.size, 2, none⟩ = some (.int .i64 k) := after_cell z1 x2
          have q3 : ∀ r : After w1, r.w.cell? ⟨w.heap.size, 3, none⟩ = some (.int .i64 m) := after_cell z1 x3
          have q4 : ∀ r : After w1, r.w.cell? ⟨w.heap.size, 4, none⟩ = some (.string s) := after_cell z1 x4
          (refine wp_region_after (by kernel_rfl) (by kernel_rfl) ?_; (repeat (go_big_quiet_step ((go_at_call 34; exact calls_after (HN.out _))))); refine wpQuiet_nil ?_; intro wq hw0; obtain ⟨⟨wq0, hbq⟩, hw1⟩ := hw0; subst hw1; (try dsimp only))
          go_wp2
          go_ret
          exact ⟨by first | rfl | (simp; done) | (simp; omega), B1.out.trans (hbq.mono B1.out.size)⟩
    · rw [decide_eq_false hn0]
      have hd0 : decide (0 ≤ n) = false := decide_eq_false hn0
      have hd1 : decide (n ≥ 0) = false := decide_eq_false hn0
      have hneg : n < 0 := by omega
      cases bq
      all_goals
        have HF := Lib.hid (rfl : true = true)
        go_enter Try.func26, Try.ntmps26
        go_wp2_with fail
        with_reducible refine (HA.out _).mono ?_
        rintro e w1 ⟨rfl, hb1⟩
        have o1 := HO.out.below hb1 HO.out.lt
        have z1 := o1.lt
        have x0 := o1.cell 0
        have x1 := o1.cell 1
        have x2 := o1.cell 2
        have x3 := o1.cell 3
        have x4 := o1.cell 4
        have x5 := o1.cell 5
        have x6 := o1.cell 6
        have B1 := Lib.hid (HB.out.trans (hb1.mono HB.out.size))
        clear hb1 HA HB HO
        go_wp2_with fail
        have q0 : ∀ r : After w1, r.w.cell? ⟨w.heap.size, 0, none⟩ = some (.int .i64 24) := after_cell z1 x0
        have q1 : ∀ r : After w1, r.w.cell? ⟨w.heap.size, 1, none⟩ = some (.int .i64 n) := after_cell z1 x1
        have q2 : ∀ r : After w1, r.w.cell? ⟨w.heap.size, 2, none⟩ = some (.int .i64 k) := after_cell z1 x2
        have q3 : ∀ r : After w1, r.w.cell? ⟨w.heap.size, 3, none⟩ = some (.int .i64 m) := after_cell z1 x3
        have q4 : ∀ r : After w1, r.w.cell? ⟨w.heap.size, 4, none⟩ = some (.string s) := after_cell z1 x4
        (refine wp_region_after (by kernel_rfl) (by kernel_rfl) ?_; (repeat (go_big_quiet_step ((go_at_call 34; exact calls_after (HN.out _))))); refine wpQuiet_nil ?_; intro wq hw0; obtain ⟨⟨wq0, hbq⟩, hw1⟩ := hw0; subst hw1; (try dsimp only))
        go_wp2
        go_ret
        exact ⟨by first | rfl | (simp; done) | (simp; omega), B1.out.trans (hbq.mono B1.out.size)⟩
  rw [if_neg o24]
  have j24 : (op == 24) = false := by simpa using o24
  by_cases o2 : op = 2
  · subst o2
    rw [if_pos rfl]
    cases bq
    all_goals
      have HF := Lib.hid (rfl : true = true)
      go_enter Try.func26, Try.ntmps26
      go_wp2_with fail
      with_reducible refine (HA.out _).mono ?_
      rintro e w1 ⟨rfl, hb1⟩
      have o1 := HO.out.below hb1 HO.out.lt
      have z1 := o1.lt
      have x0 := o1.cell 0
      have x1 := o1.cell 1
      have x2 := o1.cell 2
      have x3 := o1.cell 3
      have x4 := o1.cell 4
      have x5 := o1.cell 5
      have x6 := o1.cell 6
      have B1 := Lib.hid (HB.out.trans (hb1.mono HB.out.size))
      clear hb1 HA HB HO
      go_wp2_with fail
      have q0 : ∀ r : After w1, r.w.cell? ⟨w.heap.size, 0, none⟩ = some (.int .i64 2) := after_cell z1 x0
      have q1 : ∀ r : After w1, r.w.cell? ⟨w.heap.size, 1, none⟩ = some (.int .i64 n) := after_cell z1 x1
      have q2 : ∀ r : After w1, r.w.cell? ⟨w.heap.size, 2, none⟩ = some (.int .i64 k) := after_cell z1 x2
      have q3 : ∀ r : After w1, r.w.cell? ⟨w.heap.size, 3, none⟩ = some (.int .i64 m) := after_cell z1 x3
      have q4 : ∀ r : After w1, r.w.cell? ⟨w.heap.size, 4, none⟩ = some (.string s) := after_cell z1 x4
      (refine wp_region_after (by kernel_rfl) (by kernel_rfl) ?_; (repeat (go_big_quiet_step ((go_at_call 34; exact calls_after (HN.out _))))); refine wpQuiet_nil ?_; intro wq hw0; obtain ⟨⟨wq0, hbq⟩, hw1⟩ := hw0; subst hw1; (try dsimp only))
      go_wp2
      go_ret
      exact ⟨by first | rfl | (simp; done) | (simp; omega), B1.out.trans (hbq.mono B1.out.size)⟩
  rw [if_neg o2]
  have j2 : (op == 2) = false := by simpa using o2
  by_cases hn : n = 0
  · subst hn
    have jn : ((0 : Int) == 0) = true := rfl
    rw [jn]
    cases bq
    all_goals
      have HF := Lib.hid (rfl : true = true)
      go_enter Try.func26, Try.ntmps26
      go_wp2_with fail
      with_reducible refine (HA.out _).mono ?_
      rintro e w1 ⟨rfl, hb1⟩
      have o1 := HO.out.below hb1 HO.out.lt
      have z1 := o1.lt
      have x0 := o1.cell 0
      have x1 := o1.cell 1
      have x2 := o1.cell 2
      have x3 := o1.cell 3
      have x4 := o1.cell 4
      have x5 := o1.cell 5
      have x6 := o1.cell 6
      have B1 := Lib.hid (HB.out.trans (hb1.mono HB.out.size))
      clear hb1 HA HB HO
      go_wp2_with fail
      have q0 : ∀ r : After w1, r.w.cell? ⟨w.heap.size, 0, none⟩ = some (.int .i64 op) := after_cell z1 x0
      have q1 : ∀ r : After w1, r.w.cell? ⟨w.heap.size, 1, none⟩ = some (.int .i64 0) := after_cell z1 x1
      have q2 : ∀ r : After w1, r.w.cell? ⟨w.heap.size, 2, none⟩ = some (.int .i64 k) := after_cell z1 x2
      have q3 : ∀ r : After w1, r.w.cell? ⟨w.heap.size, 3, none⟩ = some (.int .i64 m) := after_cell z1 x3
      have q4 : ∀ r : After w1, r.w.cell? ⟨w.heap.size, 4, none⟩ = some (.string s) := after_cell z1 x4
      (refine wp_region_after (by kernel_rfl) (by kernel_rfl) ?_; (repeat (go_big_quiet_step ((go_at_call 34; exact calls_after (HN.out _))))); refine wpQuiet_nil ?_; intro wq hw0; obtain ⟨⟨wq0, hbq⟩, hw1⟩ := hw0; subst hw1; (try dsimp only))
      go_wp2
      go_ret
      exact ⟨by first | rfl | (simp; done) | (simp; omega), B1.out.trans (hbq.mono B1.out.size)⟩
  · have jn : (n == 0) = false := by simpa using hn
    rw [jn]
    cases bq
    all_goals
      have HF := Lib.hid (rfl : true = true)
      go_enter Try.func26, Try.ntmps26
      go_wp2_with fail
      with_reducible refine (HA.out _).mono ?_
      rintro e w1 ⟨rfl, hb1⟩
      have o1 := HO.out.below hb1 HO.out.lt
      have z1 := o1.lt
      have x0 := o1.cell 0
      have x1 := o1.cell 1
      have x2 := o1.cell 2
      have x3 := o1.cell 3
      have x4 := o1.cell 4
      have x5 := o1.cell 5
      have x6 := o1.cell 6
      have B1 := Lib.hid (HB.out.trans (hb1.mono HB.out.size))
      clear hb1 HA HB HO
      go_wp2_with fail
      have q0 : ∀ r : After w1, r.w.cell? ⟨w.heap.size, 0, none⟩ = some (.int .i64 op) := after_cell z1 x0
      have q1 : ∀ r : After w1, r.w.cell? ⟨w.heap.size, 1, none⟩ = some (.int .i64 n) := after_cell z1 x1
      have q2 : ∀ r : After w1, r.w.cell? ⟨w.heap.size, 2, none⟩ = some (.int .i64 k) := after_cell z1 x2
      have q3 : ∀ r : After w1, r.w.cell? ⟨w.heap.size, 3, none⟩ = some (.int .i64 m) := after_cell z1 x3
      have q4 : ∀ r : After w1, r.w.cell? ⟨w.heap.size, 4, none⟩ = some (.string s) := after_cell z1 x4
      (refine wp_region_after (by kernel_rfl) (by kernel_rfl) ?_; (repeat (go_big_quiet_step ((go_at_call 34; exact calls_after (HN.out _))))); refine wpQuiet_nil ?_; intro wq hw0; obtain ⟨⟨wq0, hbq⟩, hw1⟩ := hw0; subst hw1; (try dsimp only))
      go_wp2
      go_ret
      exact ⟨by first | rfl | (simp; done) | (simp; omega), B1.out.trans (hbq.mono B1.out.size)⟩
end Go.Proofs.Ythnmcpfmljibeaa
/-
  The reference's depth of an expression; kinds of results. Conditions: lengths, a bounded depth.
-/
namespace Go.Proofs.Ythnmcpfmljibeaa
set_option maxRecDepth 100000
set_option linter.unusedVariables false
set_option linter.unusedSimpArgs false
open Go.RowKit

end Go.Proofs.Ythnmcpfmljibeaa
