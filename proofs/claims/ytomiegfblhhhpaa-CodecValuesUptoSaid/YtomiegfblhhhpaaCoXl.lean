/-
  The walk of the statement CodecValues. Conditions: lengths.
-/
import Derived.Test.YtomiegfblhhhpaaCoX
import Derived.Test.YtomiegfblhhhpaaCoXr
import Derived.Test.YtomiegfblhhhpaaCoVr
import Derived.Test.YtomiegfblhhhpaaCoR
import Derived.Test.YtomiegfblhhhpaaCoEq
import Derived.Deep.RegionHeld3
import Derived.WalkKit
import Derived.WalkSpells
import Derived.WalkLawsBesides
import Derived.Deep.QuietTactic
import Derived.BigQuiet
import Derived.Handy
import Derived.Lib.Hide
namespace Go.Proofs.Ytomiegfblhhhpaa
open Go.RowKit

theorem eql_self (k n : Int) (s : ByteArray) (w : World) : (binOp .eql 35 (.agg #[.int .i64 k, .int .i64 n, .string s]) (.agg #[.int .i64 k, .int .i64 n, .string s])).run Try.prog w = .ok (.bool true) w := by
  rw [run_eql_struct, run_equalIn_struct w 9999 35 _ _ (by kernel_rfl) (by kernel_rfl)]
  simp [Program.fieldsOf, Op.eqFields, Try.underlying35, Try.underlying3, Try.underlying9, part, isAgg, go_sem]
set_option maxRecDepth 100000 in
set_option maxHeartbeats 12800000 in
theorem law_values (v : Value) (l : List UInt8) (kd m : Int) (s : ByteArray) (i : Int) (w : World) (L : Nat) (hv : RdB w L w.heap.size v l) (hvn : ∀ n c, v = .slice none n c → c = 0) (hl : l.length + s.size ≤ 140737488355100) :
    Calls Try.prog 5 #[v, .agg #[.int .i64 kd, .int .i64 m, .string s], .int .i64 i] w fun e w' => e = .returned (.bool true) ∧ Below w.heap.size w w' := by
  have HVD := Lib.hid (fun W => (rValid_any kd m s W : Calls Try.prog 23 #[.agg #[.int .i64 kd, .int .i64 m, .string s]] W fun e w' => e = .returned (.bool (okP (kd, m, s))) ∧ Below W.heap.size W w'))
  have H1 := Lib.hid (fun W (h : Below w.heap.size w W) => pVal_any v l i W L (hv.step h (Nat.le_refl _)))
  have H2 := Lib.hid (fun W (h : Below w.heap.size w W) => rVal_any v l i W L (hv.step h (Nat.le_refl _)))
  have hPQ : okP (kd, m, s) = true → (∀ W (h : Below w.heap.size w W), Calls Try.prog 24 #[v, .agg #[.int .i64 kd, .int .i64 m, .string s]] W (RetB W.heap.size W (l ++ encV (kd, m, s)))) ∧ (∀ W (h : Below w.heap.size w W), Calls Try.prog 25 #[v, .agg #[.int .i64 kd, .int .i64 m, .string s]] W (RetB W.heap.size W (l ++ encV (kd, m, s)))) ∧ (l ++ encV (kd, m, s)).length ≤ 9223372036854775807 := fun hok =>
    ⟨fun W h => PutValue_any v l (kd, m, s) hok W L (hv.step h (Nat.le_refl _)) (by dsimp only; omega), fun W h => rPutValue_any v l (kd, m, s) hok W L (hv.step h (Nat.le_refl _)) hvn (by dsimp only; omega), by have h1 := encV_len (kd, m, s) hok; dsimp only at h1; rw [List.length_append]; omega⟩
  obtain ⟨A, c, rfl, _⟩ := hv
  generalize hXX : valF l i = X at *
  clear hXX
  obtain ⟨e0, ⟨xk, xn, xs⟩, k⟩ := X
  generalize l ++ encV (kd, m, s) = R at *
  clear hvn hl
  unfold valR valV at H1 H2
  dsimp only at H1 H2
  have q := fun W => eql_self xk xn xs W
  have oP := Own.new w 35 #[.int .i64 kd, .int .i64 m, .string s]
  have bW := bel_mark w (.cells #[.int .i64 kd, .int .i64 m, .string s] 35)
  have sW : (w.alloc (.cells #[.int .i64 kd, .int .i64 m, .string s] 35)).heap.size = w.heap.size + 1 := by simp
  have h1 := H1.out _ bW
  clear H1
  cases hok : okP (kd, m, s)
  · rw [hok] at HVD
    clear hPQ
    clear hok
    go_enter Try.func5, Try.ntmps5
    go_wp2_with fail
    generalize w.alloc (.cells #[.int .i64 kd, .int .i64 m, .string s] 35) = W0 at *
    with_reducible refine h1.mono ?_
    rintro e w1 ⟨rfl, b1⟩
    have B1 := bW.trans (b1.mono bW.size)
    have p1 := (oP.below b1 (by omega)).alloc (.cells #[.int .i64 xk, .int .i64 xn, .string xs] 35)
    have q1 := Own.new w1 35 #[.int .i64 xk, .int .i64 xn, .string xs]
    have b2 := bel_mark w1 (.cells #[.int .i64 xk, .int .i64 xn, .string xs] 35)
    have B2 := B1.trans (b2.mono B1.size)
    have z1 := b1.size
    have s2 : (w1.alloc (.cells #[.int .i64 xk, .int .i64 xn, .string xs] 35)).heap.size = w1.heap.size + 1 := by simp
    have h2 := H2.out _ B2
    clear h1 H2 oP
    go_wp2_with fail
    generalize w1.alloc (.cells #[.int .i64 xk, .int .i64 xn, .string xs] 35) = W1 at *
    with_reducible refine h2.mono ?_
    rintro e w2 ⟨rfl, b3⟩
    have B3 := B2.trans (b3.mono B2.size)
    have z3 := b3.size
    have p2 := (p1.below b3 (by omega)).alloc (.cells #[.int .i64 xk, .int .i64 xn, .string xs] 35)
    have q2 := (q1.below b3 (by omega)).alloc (.cells #[.int .i64 xk, .int .i64 xn, .string xs] 35)
    have r2 := Own.new w2 35 #[.int .i64 xk, .int .i64 xn, .string xs]
    have b4 := bel_mark w2 (.cells #[.int .i64 xk, .int .i64 xn, .string xs] 35)
    have B4 := B3.trans (b4.mono B3.size)
    have s4 : (w2.alloc (.cells #[.int .i64 xk, .int .i64 xn, .string xs] 35)).heap.size = w2.heap.size + 1 := by simp
    clear h2 p1 q1
    go_wp2_with fail
    generalize w2.alloc (.cells #[.int .i64 xk, .int .i64 xn, .string xs] 35) = W2 at *
    have hp0 := p2.cell 0; have hp1 := p2.cell 1; have hp2 := p2.cell 2
    have hq0 := q2.cell 0; have hq1 := q2.cell 1; have hq2 := q2.cell 2
    have hr0 := r2.cell 0; have hr1 := r2.cell 1; have hr2 := r2.cell 2
    (try simp only [List.getElem?_toArray, List.getElem?_cons_zero, List.getElem?_cons_succ] at hp0 hp1 hp2 hq0 hq1 hq2 hr0 hr1 hr2)
    have f0 := fun p : After W2 => after_cell p2.lt hp0 p
    have f1 := fun p : After W2 => after_cell p2.lt hp1 p
    have f2 := fun p : After W2 => after_cell p2.lt hp2 p
    have f3 := fun p : After W2 => after_cell q2.lt hq0 p
    have f4 := fun p : After W2 => after_cell q2.lt hq1 p
    have f5 := fun p : After W2 => after_cell q2.lt hq2 p
    have f6 := fun p : After W2 => after_cell r2.lt hr0 p
    have f7 := fun p : After W2 => after_cell r2.lt hr1 p
    have f8 := fun p : After W2 => after_cell r2.lt hr2 p
    clear hp0 hp1 hp2 hq0 hq1 hq2 hr0 hr1 hr2 p2 q2 r2
    (refine wp_region_after (by kernel_rfl) (by kernel_rfl) ?_; (repeat (go_big_quiet_step ((first | (go_at_call 23; exact calls_after (HVD.out _)) | (go_at_call 16; exact calls_after (works_any _)))))); refine wpQuiet_nil ?_; intro wq hw0; obtain ⟨⟨wq0, hbq⟩, hw1⟩ := hw0; subst hw1; (try dsimp only))
    go_wp2
    go_ret
    exact ⟨rfl, B4.trans (hbq.mono B4.size)⟩
  · rw [hok] at HVD
    obtain ⟨HP0, HQ0, HVL0⟩ := hPQ hok
    have HP := Lib.hid HP0
    have HQ := Lib.hid HQ0
    have HVL := Lib.hid HVL0
    clear hPQ HP0 HQ0 HVL0
    clear hok
    go_enter Try.func5, Try.ntmps5
    go_wp2_with fail
    generalize w.alloc (.cells #[.int .i64 kd, .int .i64 m, .string s] 35) = W0 at *
    with_reducible refine h1.mono ?_
    rintro e w1 ⟨rfl, b1⟩
    have B1 := bW.trans (b1.mono bW.size)
    have p1 := (oP.below b1 (by omega)).alloc (.cells #[.int .i64 xk, .int .i64 xn, .string xs] 35)
    have q1 := Own.new w1 35 #[.int .i64 xk, .int .i64 xn, .string xs]
    have b2 := bel_mark w1 (.cells #[.int .i64 xk, .int .i64 xn, .string xs] 35)
    have B2 := B1.trans (b2.mono B1.size)
    have z1 := b1.size
    have s2 : (w1.alloc (.cells #[.int .i64 xk, .int .i64 xn, .string xs] 35)).heap.size = w1.heap.size + 1 := by simp
    have h2 := H2.out _ B2
    clear h1 H2 oP
    go_wp2_with fail
    generalize w1.alloc (.cells #[.int .i64 xk, .int .i64 xn, .string xs] 35) = W1 at *
    with_reducible refine h2.mono ?_
    rintro e w2 ⟨rfl, b3⟩
    have B3 := B2.trans (b3.mono B2.size)
    have z3 := b3.size
    have p2 := (p1.below b3 (by omega)).alloc (.cells #[.int .i64 xk, .int .i64 xn, .string xs] 35)
    have q2 := (q1.below b3 (by omega)).alloc (.cells #[.int .i64 xk, .int .i64 xn, .string xs] 35)
    have r2 := Own.new w2 35 #[.int .i64 xk, .int .i64 xn, .string xs]
    have b4 := bel_mark w2 (.cells #[.int .i64 xk, .int .i64 xn, .string xs] 35)
    have B4 := B3.trans (b4.mono B3.size)
    have s4 : (w2.alloc (.cells #[.int .i64 xk, .int .i64 xn, .string xs] 35)).heap.size = w2.heap.size + 1 := by simp
    clear h2 p1 q1
    go_wp2_with fail
    generalize w2.alloc (.cells #[.int .i64 xk, .int .i64 xn, .string xs] 35) = W2 at *
    have B5 : Below w.heap.size w W2.drew := B4.drew
    have HS : ∀ w', Below W2.drew.heap.size W2.drew w' → (Below W2.drew.heap.size W2.drew w' ∧ Below w.heap.size w w' ∧ w'.cell? ⟨w.heap.size, 0, none⟩ = some (.int .i64 kd) ∧ w'.cell? ⟨w.heap.size, 1, none⟩ = some (.int .i64 m) ∧ w'.cell? ⟨w.heap.size, 2, none⟩ = some (.string s) ∧ w'.cell? ⟨w1.heap.size, 0, none⟩ = some (.int .i64 xk) ∧ w'.cell? ⟨w1.heap.size, 1, none⟩ = some (.int .i64 xn) ∧ w'.cell? ⟨w1.heap.size, 2, none⟩ = some (.string xs) ∧ w'.cell? ⟨w2.heap.size, 0, none⟩ = some (.int .i64 xk) ∧ w'.cell? ⟨w2.heap.size, 1, none⟩ = some (.int .i64 xn) ∧ w'.cell? ⟨w2.heap.size, 2, none⟩ = some (.string xs)) := fun w' hb =>
      have hp := (show Own W2.drew _ _ _ from p2).below hb p2.lt
      have hq := (show Own W2.drew _ _ _ from q2).below hb q2.lt
      have hr := (show Own W2.drew _ _ _ from r2).below hb r2.lt
      ⟨hb, B5.trans (hb.mono B5.size), hp.cell 0, hp.cell 1, hp.cell 2, hq.cell 0, hq.cell 1, hq.cell 2, hr.cell 0, hr.cell 1, hr.cell 2⟩
    have HS := Lib.hid HS
    clear p2 q2 r2 B5 B4 b4 B3 b3 B2 b2 B1 b1 bW
    go_region_held3 (fun w' => Below W2.drew.heap.size W2.drew w' ∧ Below w.heap.size w w' ∧ w'.cell? ⟨w.heap.size, 0, none⟩ = some (.int .i64 kd) ∧ w'.cell? ⟨w.heap.size, 1, none⟩ = some (.int .i64 m) ∧ w'.cell? ⟨w.heap.size, 2, none⟩ = some (.string s) ∧ w'.cell? ⟨w1.heap.size, 0, none⟩ = some (.int .i64 xk) ∧ w'.cell? ⟨w1.heap.size, 1, none⟩ = some (.int .i64 xn) ∧ w'.cell? ⟨w1.heap.size, 2, none⟩ = some (.string xs) ∧ w'.cell? ⟨w2.heap.size, 0, none⟩ = some (.int .i64 xk) ∧ w'.cell? ⟨w2.heap.size, 1, none⟩ = some (.int .i64 xn) ∧ w'.cell? ⟨w2.heap.size, 2, none⟩ = some (.string xs))
      (first | (exact HS.out _ (Below.refl _ _)) | (go_split_ands; exact HS.out _ (Below.trans (by assumption) (Below.mono hb (Below.size (by assumption))))))
      ((first
        | (go_at_call 23; refine (HVD.out _).mono ?_; rintro e w7 ⟨rfl, hb⟩)
        | (go_at_call 24; go_split_ands; refine (HP.out _ (by assumption)).mono ?_; rintro e w3 ⟨v3, rfl, ho3, hb⟩; have R3 := Lib.hid (RdB.of_own ho3 HVL.out); clear ho3)
        | (go_at_call 25; go_split_ands; refine (HQ.out _ (by assumption)).mono ?_; rintro e w4 ⟨v4, rfl, ho4, hb⟩; have R4 := Lib.hid (RdB.of_own ho4 HVL.out); clear ho4)
        | (go_at_call 13; refine (equal_any v3 v4 R _ _ _ _ _ (R3.out.step hb (Nat.le_refl _)) R4.out).mono ?_; rintro e w5 ⟨rfl, rfl⟩; have hb := Below.refl w5.heap.size w5)
        | (go_at_call 16; refine (works_any _).mono ?_; rintro e w6 ⟨rfl, hb⟩)))
    go_wp2
    go_ret
    go_split_ands
    exact ⟨rfl, by assumption⟩
end Go.Proofs.Ytomiegfblhhhpaa
