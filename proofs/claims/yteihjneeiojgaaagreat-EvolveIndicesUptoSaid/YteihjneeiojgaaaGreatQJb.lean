import Derived.Test.YteihjneeiojgaaaGreatQJ
import Derived.Test.YteihjneeiojgaaaGreatMW
import Derived.Test.YteihjneeiojgaaaGreatMT
import Derived.WalkKit
import Derived.WalkSpells
import Derived.WalkLawsBesides
import Derived.Deep.QuietTactic
import Derived.BigQuiet
import Derived.Handy
import Derived.Lib.Hide
import Derived.Test.YteihjneeiojgaaaGreatQM
/-
  The reference's own test of an expression's fields; its depth. Conditions: at most 2 to the 40th arguments, a bounded depth.
-/
namespace Go.Proofs.YteihjneeiojgaaaGreat
set_option maxRecDepth 100000
set_option linter.unusedVariables false
set_option linter.unusedSimpArgs false
open Go.RowKit

theorem ar_lo {op : Int} (h : knw op = true) : arLo op = opLo op := by unfold arLo; rw [if_pos h]
theorem ar_hi {op : Int} (h : knw op = true) {l : Nat} (hl : l ≤ 1099511627776) : ((l : Int) ≤ arHi op ↔ (l : Int) ≤ opHi op) := by
  unfold arHi
  by_cases h1 : op = 5 ∨ op = 6 ∨ op = 23
  · rw [if_pos h1]
    have h2 : opHi op = 9223372036854775807 := by rcases h1 with rfl | rfl | rfl <;> rfl
    omega
  · rw [if_neg h1, if_pos h]
theorem wf_no {op n k m : Int} {s nm : ByteArray} {l : Nat} (h : knw op = false ∨ ¬ opLo op ≤ l ∨ ¬ (l : Int) ≤ opHi op ∨ (nm.toList == []) = false) : wfE op n k m s nm l = false := by
  unfold wfE
  rcases h with h | h | h | h
  · rw [h]; rfl
  · rw [decide_eq_false h]; simp
  · rw [decide_eq_false h]; simp
  · have : fldE op n k m s nm = false := by unfold fldE; rw [h]; simp
    rw [this]; simp
theorem wf_yes {op n k m : Int} {s nm : ByteArray} {l : Nat} (h1 : knw op = true) (h2 : opLo op ≤ l) (h3 : (l : Int) ≤ opHi op) : wfE op n k m s nm l = fldE op n k m s nm := by
  unfold wfE
  rw [h1, decide_eq_true h2, decide_eq_true h3]; simp
set_option maxRecDepth 100000 in
set_option maxHeartbeats 12800000 in
theorem rFormed_any (op n k m : Int) (s nm : ByteArray) (A : Option Addr) (l c : Nat) (w : World) (hl : l ≤ 1099511627776) :
    Calls Tryz.prog 104 #[.agg #[.int .i64 op, .int .i64 n, .int .i64 k, .int .i64 m, .string s, .string nm, .slice A l c]] w fun e w' => e = .returned (.bool (wfE op n k m s nm l)) ∧ Below w.heap.size w w' := by
  have hA := fun W => rArity_any op W
  have HB := Lib.hid (bel_mk w (.cells #[.int .i64 op, .int .i64 n, .int .i64 k, .int .i64 m, .string s, .string nm, .slice A l c] 73))
  have HO := Lib.hid (Own.new w 73 #[.int .i64 op, .int .i64 n, .int .i64 k, .int .i64 m, .string s, .string nm, .slice A l c])
  cases hK : knw op
  · have HF := Lib.hid (wf_no (op := op) (n := n) (k := k) (m := m) (s := s) (nm := nm) (l := l) (.inl hK))
    rw [show arLo op = -1 by unfold arLo; rw [hK]; rfl] at hA
    generalize arHi op = b at *
    have HA := Lib.hid hA
    clear hA hK
    go_enter Tryz.func104, Tryz.ntmps104
    go_wp2_with fail
    with_reducible refine (HA.out _).mono ?_
    rintro e w1 ⟨rfl, hb1⟩
    have o1 := HO.out.below hb1 HO.out.lt
    have z1 := o1.lt
    have x0 := o1.cell 0
    have x1 := o1.cell 1
    have x2 := o1.cell 2
    have x3 := o1.cell 3
    have x4 := o1.cell 4
    have x5 := o1.cell 5
    have x6 := o1.cell 6
    have B1 := Lib.hid (HB.out.trans (hb1.mono HB.out.size))
    clear hb1 HA HB HO
    go_wp2
    go_ret
    exact ⟨by rw [HF.out]; rfl, B1.out⟩
  rw [ar_lo hK] at hA
  have hhi := ar_hi hK hl
  generalize arHi op = b at *
  have HA := Lib.hid hA
  clear hA
  by_cases h1 : opLo op ≤ l
  rotate_left
  · have HF := Lib.hid (wf_no (op := op) (n := n) (k := k) (m := m) (s := s) (nm := nm) (l := l) (.inr (.inl h1)))
    have h1b : (l : Int) < opLo op := by omega
    have h1c : ¬ opLo op < 0 := by omega
    generalize opLo op = a at *
    clear hK h1
    go_enter Tryz.func104, Tryz.ntmps104
    go_wp2_with fail
    with_reducible refine (HA.out _).mono ?_
    rintro e w1 ⟨rfl, hb1⟩
    have o1 := HO.out.below hb1 HO.out.lt
    have z1 := o1.lt
    have x0 := o1.cell 0
    have x1 := o1.cell 1
    have x2 := o1.cell 2
    have x3 := o1.cell 3
    have x4 := o1.cell 4
    have x5 := o1.cell 5
    have x6 := o1.cell 6
    have B1 := Lib.hid (HB.out.trans (hb1.mono HB.out.size))
    clear hb1 HA HB HO
    go_wp2
    go_ret
    exact ⟨by rw [HF.out]; rfl, B1.out⟩
  have hlo : ¬ opLo op < 0 := by unfold opLo; repeat' split <;> omega
  have h1b : ¬ (l : Int) < opLo op := by omega
  by_cases h2 : (l : Int) ≤ b
  rotate_left
  · have HF := Lib.hid (wf_no (op := op) (n := n) (k := k) (m := m) (s := s) (nm := nm) (l := l) (.inr (.inr (.inl (fun h => h2 (hhi.2 h))))))
    have h2b : b < l := by omega
    generalize opLo op = a at *
    clear hK h1 h2 hhi
    go_enter Tryz.func104, Tryz.ntmps104
    go_wp2_with fail
    with_reducible refine (HA.out _).mono ?_
    rintro e w1 ⟨rfl, hb1⟩
    have o1 := HO.out.below hb1 HO.out.lt
    have z1 := o1.lt
    have x0 := o1.cell 0
    have x1 := o1.cell 1
    have x2 := o1.cell 2
    have x3 := o1.cell 3
    have x4 := o1.cell 4
    have x5 := o1.cell 5
    have x6 := o1.cell 6
    have B1 := Lib.hid (HB.out.trans (hb1.mono HB.out.size))
    clear hb1 HA HB HO
    go_wp2
    go_ret
    exact ⟨by rw [HF.out]; rfl, B1.out⟩
  have h2b : ¬ b < (l : Int) := by omega
  cases hnm : nm.toList == []
  · have HF := Lib.hid (wf_no (op := op) (n := n) (k := k) (m := m) (s := s) (nm := nm) (l := l) (.inr (.inr (.inr hnm))))
    generalize opLo op = a at *
    clear hK h1 h2 hhi
    go_enter Tryz.func104, Tryz.ntmps104
    go_wp2_with fail
    with_reducible refine (HA.out _).mono ?_
    rintro e w1 ⟨rfl, hb1⟩
    have o1 := HO.out.below hb1 HO.out.lt
    have z1 := o1.lt
    have x0 := o1.cell 0
    have x1 := o1.cell 1
    have x2 := o1.cell 2
    have x3 := o1.cell 3
    have x4 := o1.cell 4
    have x5 := o1.cell 5
    have x6 := o1.cell 6
    have B1 := Lib.hid (HB.out.trans (hb1.mono HB.out.size))
    clear hb1 HA HB HO
    go_wp2
    go_ret
    exact ⟨by rw [HF.out]; rfl, B1.out⟩
  have hwf := wf_yes (n := n) (k := k) (m := m) (s := s) (nm := nm) hK h1 (hhi.1 h2)
  rw [hwf]
  unfold fldE
  rw [hnm]
  generalize opLo op = a at *
  have HN := Lib.hid (show ∀ W, Calls Tryz.prog 84 #[] W fun e w' => e = .returned (.agg #[.int .i64 0, .int .i64 0, .string ⟨#[]⟩]) ∧ Below W.heap.size W w' from fun W => Va.rNull_any W)
  have hV := fun W => Va.rValid_any k m s W
  unfold Va.vV at hV
  have qe := fun W => Va.eql_val k m s 0 0 ⟨#[]⟩ W
  clear hK h1 h2 hhi hwf
  by_cases o1 : op = 1
  · subst o1
    rw [if_pos rfl]
    clear qe
    cases hv : Va.vldV k m s <;> rw [hv] at hV <;> have HV := Lib.hid hV <;> clear hV
    · by_cases hn : n = 0
      · subst hn
        go_enter Tryz.func104, Tryz.ntmps104
        go_wp2_with fail
        with_reducible refine (HA.out _).mono ?_
        rintro e w1 ⟨rfl, hb1⟩
        have o1 := HO.out.below hb1 HO.out.lt
        have z1 := o1.lt
        have x0 := o1.cell 0
        have x1 := o1.cell 1
        have x2 := o1.cell 2
        have x3 := o1.cell 3
        have x4 := o1.cell 4
        have x5 := o1.cell 5
        have x6 := o1.cell 6
        have B1 := Lib.hid (HB.out.trans (hb1.mono HB.out.size))
        clear hb1 HA HB HO
        go_wp2_with fail
        with_reducible refine (HV.out _).mono ?_
        rintro e w2 ⟨rfl, hb2⟩
        go_wp2
        go_ret
        exact ⟨rfl, B1.out.trans (hb2.mono B1.out.size)⟩
      · have e1 : (n == 0) = false := by simp [hn]
        rw [e1]
        go_enter Tryz.func104, Tryz.ntmps104
        go_wp2_with fail
        with_reducible refine (HA.out _).mono ?_
        rintro e w1 ⟨rfl, hb1⟩
        have o1 := HO.out.below hb1 HO.out.lt
        have z1 := o1.lt
        have x0 := o1.cell 0
        have x1 := o1.cell 1
        have x2 := o1.cell 2
        have x3 := o1.cell 3
        have x4 := o1.cell 4
        have x5 := o1.cell 5
        have x6 := o1.cell 6
        have B1 := Lib.hid (HB.out.trans (hb1.mono HB.out.size))
        clear hb1 HA HB HO
        go_wp2
        go_ret
        exact ⟨rfl, B1.out⟩
    · by_cases hn : n = 0
      · subst hn
        go_enter Tryz.func104, Tryz.ntmps104
        go_wp2_with fail
        with_reducible refine (HA.out _).mono ?_
        rintro e w1 ⟨rfl, hb1⟩
        have o1 := HO.out.below hb1 HO.out.lt
        have z1 := o1.lt
        have x0 := o1.cell 0
        have x1 := o1.cell 1
        have x2 := o1.cell 2
        have x3 := o1.cell 3
        have x4 := o1.cell 4
        have x5 := o1.cell 5
        have x6 := o1.cell 6
        have B1 := Lib.hid (HB.out.trans (hb1.mono HB.out.size))
        clear hb1 HA HB HO
        go_wp2_with fail
        with_reducible refine (HV.out _).mono ?_
        rintro e w2 ⟨rfl, hb2⟩
        go_wp2
        go_ret
        exact ⟨rfl, B1.out.trans (hb2.mono B1.out.size)⟩
      · have e1 : (n == 0) = false := by simp [hn]
        rw [e1]
        go_enter Tryz.func104, Tryz.ntmps104
        go_wp2_with fail
        with_reducible refine (HA.out _).mono ?_
        rintro e w1 ⟨rfl, hb1⟩
        have o1 := HO.out.below hb1 HO.out.lt
        have z1 := o1.lt
        have x0 := o1.cell 0
        have x1 := o1.cell 1
        have x2 := o1.cell 2
        have x3 := o1.cell 3
        have x4 := o1.cell 4
        have x5 := o1.cell 5
        have x6 := o1.cell 6
        have B1 := Lib.hid (HB.out.trans (hb1.mono HB.out.size))
        clear hb1 HA HB HO
        go_wp2
        go_ret
        exact ⟨rfl, B1.out⟩
  rw [if_neg o1]
  clear hV
  have j1 : (op == 1) = false := by simpa using o1
  generalize Va.eqV k m s 0 0 ⟨#[]⟩ = bq at *
  by_cases o24 : op = 24
  · subst o24
    rw [if_pos rfl]
    unfold idxB
    by_cases hn0 : 0 ≤ n
    · by_cases hn1 : n < 13
      · rw [decide_eq_true hn0, decide_eq_true hn1]
        cases bq
        all_goals
          have HF := Lib.hid (rfl : true = true)
          go_enter Tryz.func104, Tryz.ntmps104
          go_wp2_with fail
          with_reducible refine (HA.out _).mono ?_
          rintro e w1 ⟨rfl, hb1⟩
          have o1 := HO.out.below hb1 HO.out.lt
          have z1 := o1.lt
          have x0 := o1.cell 0
          have x1 := o1.cell 1
          have x2 := o1.cell 2
          have x3 := o1.cell 3
          have x4 := o1.cell 4
          have x5 := o1.cell 5
          have x6 := o1.cell 6
          have B1 := Lib.hid (HB.out.trans (hb1.mono HB.out.size))
          clear hb1 HA HB HO
          go_wp2_with fail
          have q0 : ∀ r : After w1, r.w.cell? ⟨w.heap.size, 0, none⟩ = some (.int .i64 24) := after_cell z1 x0
          have q1 : ∀ r : After w1, r.w.cell? ⟨w.heap.size, 1, none⟩ = some (.int .i64 n) := after_cell z1 x1
          have q2 : ∀ r : After w1, r.w.cell? ⟨w.heap.size, 2, none⟩ = some (.int .i64 k) := after_cell z1 x2
          have q3 : ∀ r : After w1, r.w.cell? ⟨w.heap.size, 3, none⟩ = some (.int .i64 m) := after_cell z1 x3
          have q4 : ∀ r : After w1, r.w.cell? ⟨w.heap.size, 4, none⟩ = some (.string s) := after_cell z1 x4
          (refine wp_region_after (by kernel_rfl) (by kernel_rfl) ?_; (repeat (go_big_quiet_step ((go_at_call 84; exact calls_after (HN.out _))))); refine wpQuiet_nil ?_; intro wq hw0; obtain ⟨⟨wq0, hbq⟩, hw1⟩ := hw0; subst hw1; (try dsimp only))
          go_wp2
          go_ret
          exact ⟨by first | rfl | (simp; done) | (simp; omega), B1.out.trans (hbq.mono B1.out.size)⟩
      · rw [decide_eq_false hn1]
        cases bq
        all_goals
          have HF := Lib.hid (rfl : true = true)
          go_enter Tryz.func104, Tryz.ntmps104
          go_wp2_with fail
          with_reducible refine (HA.out _).mono ?_
          rintro e w1 ⟨rfl, hb1⟩
          have o1 := HO.out.below hb1 HO.out.lt
          have z1 := o1.lt
          have x0 := o1.cell 0
          have x1 := o1.cell 1
          have x2 := o1.cell 2
          have x3 := o1.cell 3
          have x4 := o1.cell 4
          have x5 := o1.cell 5
          have x6 := o1.cell 6
          have B1 := Lib.hid (HB.out.trans (hb1.mono HB.out.size))
          clear hb1 HA HB HO
          go_wp2_with fail
          have q0 : ∀ r : After w1, r.w.cell? ⟨w.heap.size, 0, none⟩ = some (.int .i64 24) := after_cell z1 x0
          have q1 : ∀ r : After w1, r.w.cell? ⟨w.heap.size, 1, none⟩ = some (.int .i64 n) := after_cell z1 x1
          have q2 : ∀ r : After w1, r.w.cell? ⟨w.heap.size, 2, none⟩ = some (.int .i64 k) := after_cell z1 x2
          have q3 : ∀ r : After w1, r.w.cell? ⟨w.heap.size, 3, none⟩ = some (.int .i64 m) := after_cell z1 x3
          have q4 : ∀ r : After w1, r.w.cell? ⟨w.heap.size, 4, none⟩ = some (.string s) := after_cell z1 x4
          (refine wp_region_after (by kernel_rfl) (by kernel_rfl) ?_; (repeat (go_big_quiet_step ((go_at_call 84; exact calls_after (HN.out _))))); refine wpQuiet_nil ?_; intro wq hw0; obtain ⟨⟨wq0, hbq⟩, hw1⟩ := hw0; subst hw1; (try dsimp only))
          go_wp2
          go_ret
          exact ⟨by first | rfl | (simp; done) | (simp; omega), B1.out.trans (hbq.mono B1.out.size)⟩
    · rw [decide_eq_false hn0]
      have hd0 : decide (0 ≤ n) = false := decide_eq_false hn0
      have hd1 : decide (n ≥ 0) = false := decide_eq_false hn0
      have hneg : n < 0 := by omega
      cases bq
      all_goals
        have HF := Lib.hid (rfl : true = true)
        go_enter Tryz.func104, Tryz.ntmps104
        go_wp2_with fail
        with_reducible refine (HA.out _).mono ?_
        rintro e w1 ⟨rfl, hb1⟩
        have o1 := HO.out.below hb1 HO.out.lt
        have z1 := o1.lt
        have x0 := o1.cell 0
        have x1 := o1.cell 1
        have x2 := o1.cell 2
        have x3 := o1.cell 3
        have x4 := o1.cell 4
        have x5 := o1.cell 5
        have x6 := o1.cell 6
        have B1 := Lib.hid (HB.out.trans (hb1.mono HB.out.size))
        clear hb1 HA HB HO
        go_wp2_with fail
        have q0 : ∀ r : After w1, r.w.cell? ⟨w.heap.size, 0, none⟩ = some (.int .i64 24) := after_cell z1 x0
        have q1 : ∀ r : After w1, r.w.cell? ⟨w.heap.size, 1, none⟩ = some (.int .i64 n) := after_cell z1 x1
        have q2 : ∀ r : After w1, r.w.cell? ⟨w.heap.size, 2, none⟩ = some (.int .i64 k) := after_cell z1 x2
        have q3 : ∀ r : After w1, r.w.cell? ⟨w.heap.size, 3, none⟩ = some (.int .i64 m) := after_cell z1 x3
        have q4 : ∀ r : After w1, r.w.cell? ⟨w.heap.size, 4, none⟩ = some (.string s) := after_cell z1 x4
        (refine wp_region_after (by kernel_rfl) (by kernel_rfl) ?_; (repeat (go_big_quiet_step ((go_at_call 84; exact calls_after (HN.out _))))); refine wpQuiet_nil ?_; intro wq hw0; obtain ⟨⟨wq0, hbq⟩, hw1⟩ := hw0; subst hw1; (try dsimp only))
        go_wp2
        go_ret
        exact ⟨by first | rfl | (simp; done) | (simp; omega), B1.out.trans (hbq.mono B1.out.size)⟩
  rw [if_neg o24]
  have j24 : (op == 24) = false := by simpa using o24
  by_cases o2 : op = 2
  · subst o2
    rw [if_pos rfl]
    cases bq
    all_goals
      have HF := Lib.hid (rfl : true = true)
      go_enter Tryz.func104, Tryz.ntmps104
      go_wp2_with fail
      with_reducible refine (HA.out _).mono ?_
      rintro e w1 ⟨rfl, hb1⟩
      have o1 := HO.out.below hb1 HO.out.lt
      have z1 := o1.lt
      have x0 := o1.cell 0
      have x1 := o1.cell 1
      have x2 := o1.cell 2
      have x3 := o1.cell 3
      have x4 := o1.cell 4
      have x5 := o1.cell 5
      have x6 := o1.cell 6
      have B1 := Lib.hid (HB.out.trans (hb1.mono HB.out.size))
      clear hb1 HA HB HO
      go_wp2_with fail
      have q0 : ∀ r : After w1, r.w.cell? ⟨w.heap.size, 0, none⟩ = some (.int .i64 2) := after_cell z1 x0
      have q1 : ∀ r : After w1, r.w.cell? ⟨w.heap.size, 1, none⟩ = some (.int .i64 n) := after_cell z1 x1
      have q2 : ∀ r : After w1, r.w.cell? ⟨w.heap.size, 2, none⟩ = some (.int .i64 k) := after_cell z1 x2
      have q3 : ∀ r : After w1, r.w.cell? ⟨w.heap.size, 3, none⟩ = some (.int .i64 m) := after_cell z1 x3
      have q4 : ∀ r : After w1, r.w.cell? ⟨w.heap.size, 4, none⟩ = some (.string s) := after_cell z1 x4
      (refine wp_region_after (by kernel_rfl) (by kernel_rfl) ?_; (repeat (go_big_quiet_step ((go_at_call 84; exact calls_after (HN.out _))))); refine wpQuiet_nil ?_; intro wq hw0; obtain ⟨⟨wq0, hbq⟩, hw1⟩ := hw0; subst hw1; (try dsimp only))
      go_wp2
      go_ret
      exact ⟨by first | rfl | (simp; done) | (simp; omega), B1.out.trans (hbq.mono B1.out.size)⟩
  rw [if_neg o2]
  have j2 : (op == 2) = false := by simpa using o2
  by_cases hn : n = 0
  · subst hn
    have jn : ((0 : Int) == 0) = true := rfl
    rw [jn]
    cases bq
    all_goals
      have HF := Lib.hid (rfl : true = true)
      go_enter Tryz.func104, Tryz.ntmps104
      go_wp2_with fail
      with_reducible refine (HA.out _).mono ?_
      rintro e w1 ⟨rfl, hb1⟩
      have o1 := HO.out.below hb1 HO.out.lt
      have z1 := o1.lt
      have x0 := o1.cell 0
      have x1 := o1.cell 1
      have x2 := o1.cell 2
      have x3 := o1.cell 3
      have x4 := o1.cell 4
      have x5 := o1.cell 5
      have x6 := o1.cell 6
      have B1 := Lib.hid (HB.out.trans (hb1.mono HB.out.size))
      clear hb1 HA HB HO
      go_wp2_with fail
      have q0 : ∀ r : After w1, r.w.cell? ⟨w.heap.size, 0, none⟩ = some (.int .i64 op) := after_cell z1 x0
      have q1 : ∀ r : After w1, r.w.cell? ⟨w.heap.size, 1, none⟩ = some (.int .i64 0) := after_cell z1 x1
      have q2 : ∀ r : After w1, r.w.cell? ⟨w.heap.size, 2, none⟩ = some (.int .i64 k) := after_cell z1 x2
      have q3 : ∀ r : After w1, r.w.cell? ⟨w.heap.size, 3, none⟩ = some (.int .i64 m) := after_cell z1 x3
      have q4 : ∀ r : After w1, r.w.cell? ⟨w.heap.size, 4, none⟩ = some (.string s) := after_cell z1 x4
      (refine wp_region_after (by kernel_rfl) (by kernel_rfl) ?_; (repeat (go_big_quiet_step ((go_at_call 84; exact calls_after (HN.out _))))); refine wpQuiet_nil ?_; intro wq hw0; obtain ⟨⟨wq0, hbq⟩, hw1⟩ := hw0; subst hw1; (try dsimp only))
      go_wp2
      go_ret
      exact ⟨by first | rfl | (simp; done) | (simp; omega), B1.out.trans (hbq.mono B1.out.size)⟩
  · have jn : (n == 0) = false := by simpa using hn
    rw [jn]
    cases bq
    all_goals
      have HF := Lib.hid (rfl : true = true)
      go_enter Tryz.func104, Tryz.ntmps104
      go_wp2_with fail
      with_reducible refine (HA.out _).mono ?_
      rintro e w1 ⟨rfl, hb1⟩
      have o1 := HO.out.below hb1 HO.out.lt
      have z1 := o1.lt
      have x0 := o1.cell 0
      have x1 := o1.cell 1
      have x2 := o1.cell 2
      have x3 := o1.cell 3
      have x4 := o1.cell 4
      have x5 := o1.cell 5
      have x6 := o1.cell 6
      have B1 := Lib.hid (HB.out.trans (hb1.mono HB.out.size))
      clear hb1 HA HB HO
      go_wp2_with fail
      have q0 : ∀ r : After w1, r.w.cell? ⟨w.heap.size, 0, none⟩ = some (.int .i64 op) := after_cell z1 x0
      have q1 : ∀ r : After w1, r.w.cell? ⟨w.heap.size, 1, none⟩ = some (.int .i64 n) := after_cell z1 x1
      have q2 : ∀ r : After w1, r.w.cell? ⟨w.heap.size, 2, none⟩ = some (.int .i64 k) := after_cell z1 x2
      have q3 : ∀ r : After w1, r.w.cell? ⟨w.heap.size, 3, none⟩ = some (.int .i64 m) := after_cell z1 x3
      have q4 : ∀ r : After w1, r.w.cell? ⟨w.heap.size, 4, none⟩ = some (.string s) := after_cell z1 x4
      (refine wp_region_after (by kernel_rfl) (by kernel_rfl) ?_; (repeat (go_big_quiet_step ((go_at_call 84; exact calls_after (HN.out _))))); refine wpQuiet_nil ?_; intro wq hw0; obtain ⟨⟨wq0, hbq⟩, hw1⟩ := hw0; subst hw1; (try dsimp only))
      go_wp2
      go_ret
      exact ⟨by first | rfl | (simp; done) | (simp; omega), B1.out.trans (hbq.mono B1.out.size)⟩
end Go.Proofs.YteihjneeiojgaaaGreat
/-
  The reference's depth of an expression; kinds of results. Conditions: lengths, a bounded depth.
-/
namespace Go.Proofs.YteihjneeiojgaaaGreat
set_option maxRecDepth 100000
set_option linter.unusedVariables false
set_option linter.unusedSimpArgs false
open Go.RowKit

set_option maxRecDepth 100000 in
set_option maxHeartbeats 6400000 in
theorem rDep_any : ∀ (d : Nat) (e : Ex) (u : Value) (w : World) (L : Nat), RdE w L w.heap.size d u e.args → d ≤ 9223372036854775000 →
    Calls Tryz.prog 91 #[exV e u] w fun e' w' => e' = .returned (.int .i64 (depE d e : Nat)) ∧ Below w.heap.size w w'
  | 0, e, u, w, L, h, _ => h.elim
  | d + 1, e, u, w, L, h, hd => by
    have IH := Lib.hid (rDep_any d)
    obtain ⟨op, n, ⟨v1, v2, v3⟩, nm, es⟩ := e
    rw [depE_succ]
    unfold exV
    dsimp only at h ⊢
    obtain ⟨A, c, rfl, hl, hc⟩ := h
    have HC := Lib.hid hc
    clear hc
    have HO := Lib.hid (Own.new w 73 #[.int .i64 op, .int .i64 n, .int .i64 v1, .int .i64 v2, .string v3, .string nm, .slice A es.length c])
    have HB := Lib.hid (bel_mk w (.cells #[.int .i64 op, .int .i64 n, .int .i64 v1, .int .i64 v2, .string v3, .string nm, .slice A es.length c] 73))
    go_enter Tryz.func91, Tryz.ntmps91
    go_wp2
    go_loopw [3, 4] (fun m i wr => ∃ k : Nat, k ≤ es.length ∧ i = .int .i64 k ∧ m = .int .i64 (mxE d (es.take k) : Nat) ∧ Hid (Own wr w.heap.size 73 #[.int .i64 op, .int .i64 n, .int .i64 v1, .int .i64 v2, .string v3, .string nm, .slice A es.length c]) ∧ Below w.heap.size w wr) (fun _ i _ => es.length - (intOf i).toNat)
    case atStart => exact ⟨0, Nat.zero_le _, rfl, rfl, HO, HB.out⟩
    case round =>
      clear HO HB
      obtain ⟨k, hk, rfl, rfl, HO, hbr⟩ := hrel
      have hbz := hbr.size
      have x6 := HO.out.cell 6
      by_cases hlt : k < es.length
      · have hki : (k : Int) < es.length := by omega
        obtain ⟨ad, x, rfl, _, hab, hxc, hxr⟩ := HC.out k _ (List.getElem?_eq_getElem hlt)
        obtain ⟨A2, cc, rfl, hl2⟩ := hxr.slice
        have hx := hxc.below hbr (by rw [add_blk]; exact hab)
        have hm := mxE_succ d es k hlt
        have HR := (hxr.below hbr).more hbz (Nat.le_refl _)
        have hle := depE_le d es[k]
        clear hxc hxr
        generalize es[k] = y at *
        obtain ⟨c0, c1, c2, c3, c4, c5, c6⟩ := hx
        have hcall := IH.out y (.slice A2 y.args.length cc) wr L HR (by omega)
        unfold exV at hcall
        have HX := Lib.hid hcall
        have HM := Lib.hid (show ((mxE d (es.take (k + 1)) : Nat) : Int) = max ((mxE d (es.take k) : Nat) : Int) ((depE d y : Nat) : Int) by rw [hm]; push_cast; omega)
        clear hm hcall HR
        go_wp2_with fail
        with_reducible refine HX.out.mono ?_
        rintro e w1 ⟨rfl, hb1⟩
        have HO1 := Lib.hid (HO.out.below hb1 HO.out.lt)
        have HB1 := Lib.hid (hbr.trans (hb1.mono hbz))
        clear hb1 HX HO
        generalize ((depE d y : Nat) : Int) = q at *
        go_wp2
        all_goals
          go_round
          case rel => exact ⟨k + 1, by omega, by go_num, (by have := HM.out; congr 1; omega), HO1, HB1.out⟩
          case measure => simp [intOf]; omega
      · have hki : ¬ (k : Int) < es.length := by omega
        rw [List.take_of_length_le (by omega)]
        have hle := mxE_le d (depE_le d) es
        have HM := Lib.hid (show ((mxE d es + 1 : Nat) : Int) = ((mxE d es : Nat) : Int) + 1 by omega)
        have hq : ((mxE d es : Nat) : Int) ≤ 9223372036854775000 := by omega
        have hq0 : 0 ≤ ((mxE d es : Nat) : Int) := by omega
        go_wp2
        go_ret
        exact ⟨by first | rfl | (rw [HM.out]; rfl), hbr⟩
end Go.Proofs.YteihjneeiojgaaaGreat
