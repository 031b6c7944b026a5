import Derived.Test.YtpiadcfejbnonaaQT
import Derived.Test.YtpiadcfejbnonaaQU
import Derived.WalkKit
import Derived.WalkSpells
import Derived.WalkLawsBesides
import Derived.Deep.QuietTactic
import Derived.BigQuiet
import Derived.Handy
import Derived.Lib.Hide
import Derived.Test.YtpiadcfejbnonaaQY
/-
  What the functions of the reference's Eval answer: kinds of values, comparisons, arithmetic. Conditions: numbers that are values.
-/
namespace Go.Proofs.Ytpiadcfejbnonaa
set_option linter.unusedVariables false
set_option linter.unusedSimpArgs false
set_option linter.unusedVariables false
set_option linter.unusedSimpArgs false
set_option linter.unusedVariables false
set_option linter.unusedSimpArgs false
set_option maxRecDepth 100000
open Go.RowKit

theorem fNull (w : World) : Calls Try.prog 28 #[] w fun e w' => e = .returned (valV nullP) ∧ Below w.heap.size w w' := Va.rNull_any w
theorem fInt (n : Int) (w : World) : Calls Try.prog 59 #[.int .i64 n] w fun e w' => e = .returned (valV (intP n)) ∧ Below w.heap.size w w' := by
  have h := Va.rInt_any n w
  rwa [nrm_eq] at h
theorem fText (s : ByteArray) (w : World) : Calls Try.prog 100 #[.string s] w fun e w' => e = .returned (valV (txtP s)) ∧ Below w.heap.size w w' := by
  have h := Va.rText_any s w
  rwa [nrm_eq] at h
theorem fBool (b : Bool) (w : World) : Calls Try.prog 61 #[.bool b] w fun e w' => e = .returned (valV (booP b)) ∧ Below w.heap.size w w' := Va.rBool_any b w
theorem fOf (t : Int) (w : World) : Calls Try.prog 53 #[.int .i64 t] w fun e w' => e = .returned (valV (ofP t)) ∧ Below w.heap.size w w' := by
  have h := Va.rOf_any t w
  rwa [of_eq] at h
theorem fTruth (p : Vl) (w : World) : Calls Try.prog 55 #[valV p] w fun e w' => e = .returned (.int .i64 (truP p)) ∧ Below w.heap.size w w' := Va.rTruth_any p.1 p.2.1 p.2.2 w
def areP (kd : Int) (l : List Vl) : Bool := l.all fun p => p.1 == kd
theorem areP_drop (kd : Int) (l : List Vl) (k : Nat) (p : Vl) (h : l[k]? = some p) : areP kd (l.drop k) = ((p.1 == kd) && areP kd (l.drop (k + 1))) := by
  obtain ⟨h1, rfl⟩ := List.getElem?_eq_some_iff.1 h
  rw [List.drop_eq_getElem_cons h1]
  rfl
set_option maxRecDepth 100000 in
set_option maxHeartbeats 3200000 in
theorem rAre_any (v : Value) (l : List Vl) (kd : Int) (w : World) (L : Nat) (hv : RdV w L w.heap.size v l) :
    Calls Try.prog 58 #[v, .int .i64 kd] w fun e w' => e = .returned (.bool (areP kd l)) ∧ Below w.heap.size w w' := by
  obtain ⟨A, c, rfl, hl, hc⟩ := hv
  have HC := Lib.hid hc
  clear hc
  go_enter Try.func58, Try.ntmps58
  go_wp2
  go_loopw [5] (fun i wr => ∃ (k : Nat), k ≤ l.length ∧ i = .int .i64 k ∧ Hid (areP kd l = areP kd (l.drop k)) ∧ Below w.heap.size w wr) (fun i _ => l.length - (intOf i).toNat)
  case atStart => exact ⟨0, Nat.zero_le _, rfl, Lib.hid rfl, Below.refl _ _⟩
  case round =>
    obtain ⟨k, hk, rfl, HR, hbr⟩ := hrel
    have hbz := hbr.size
    by_cases hlt : k < l.length
    · have hki : (k : Int) < l.length := by omega
      obtain ⟨ad, rfl, _, hab, c0, _, _⟩ := HC.out k _ (List.getElem?_eq_getElem hlt)
      have d0 := (hbr.cell (p := ad.add (k * 3)) (by rw [add_block]; exact hab)).trans c0
      have hj := areP_drop kd l k _ (List.getElem?_eq_getElem hlt)
      rw [← HR.out] at hj
      have HJ := Lib.hid hj
      clear hj c0 HR
      generalize l[k] = p at *
      obtain ⟨z, n, s⟩ := p
      dsimp only at d0 HJ
      by_cases z1 : z = kd
      · have e1 : (z != kd) = false := by simp [z1]
        have HF := Lib.hid (show areP kd l = areP kd (l.drop (k + 1)) by rw [HJ.out, show (z == kd) = true by simp [z1], Bool.true_and])
        clear HJ z1
        go_wp2
        go_round
        case rel => exact ⟨k + 1, by omega, by go_num, HF, hbr⟩
        case measure => simp [intOf]; omega
      · have e1 : (z != kd) = true := by simp [z1]
        have HF := Lib.hid (show areP kd l = false by rw [HJ.out, show (z == kd) = false by simp [z1], Bool.false_and])
        clear HJ z1
        go_wp2
        go_ret
        exact ⟨by rw [HF.out]; rfl, hbr⟩
    · have hki : ¬ (k : Int) < l.length := by omega
      have HF := Lib.hid (show areP kd l = true by rw [HR.out, List.drop_eq_nil_of_le (by omega)]; rfl)
      clear HR
      go_wp2
      go_ret
      exact ⟨by rw [HF.out]; rfl, hbr⟩
set_option maxRecDepth 100000 in
set_option maxHeartbeats 3200000 in
theorem rCmq_any (op k x k2 y : Int) (s s2 : ByteArray) (w : World) (hop : op = 7 ∨ op = 8 ∨ op = 9 ∨ op = 10 ∨ op = 11 ∨ op = 12) :
    Calls Try.prog 57 #[.int .i64 op, .agg #[.int .i64 k, .int .i64 x, .string s], .agg #[.int .i64 k2, .int .i64 y, .string s2]] w fun e w' => e = .returned (.int .i64 (cmqP op (k, x, s) (k2, y, s2))) ∧ Below w.heap.size w w' := by
  unfold cmqP eqlP lesP
  dsimp only
  have hE := fun W => Va.rEqual_any k x s k2 y s2 W
  have hL := fun W => Va.rLess_any k x s k2 y s2 W
  have hM := fun W => Va.rLess_any k2 y s2 k x s W
  unfold Va.vV at hE hL hM
  generalize Va.eqlV k x s k2 y s2 = E at *
  generalize Va.lesV k x s k2 y s2 = L at *
  generalize Va.lesV k2 y s2 k x s = M at *
  have hn := fun t W => Va.rNot_any t W
  rcases hop with rfl | rfl | rfl | rfl | rfl | rfl
  · go_enter Try.func57, Try.ntmps57
    go_wp2_with fail
    with_reducible refine (hE _).mono ?_
    rintro e w1 ⟨rfl, hb⟩
    go_wp2
    go_ret
    refine ⟨rfl, ?_⟩
    (repeat' (first | (with_reducible exact Below.refl _ _) | (with_reducible assumption) | (with_reducible refine Below.alloc ?_ ?_ _) | (with_reducible refine Below.drew ?_) | (with_reducible refine Below.setCell ?_ ?_ _) | (with_reducible refine Below.trans ?_ (Below.mono (by assumption) ?_)) | go_size))
  · go_enter Try.func57, Try.ntmps57
    go_wp2_with fail
    with_reducible refine (hE _).mono ?_
    rintro e w1 ⟨rfl, hb⟩
    go_wp2_with fail
    with_reducible refine (hn _ _).mono ?_
    rintro e w2 ⟨rfl, hb2⟩
    have hb3 := hb.trans (hb2.mono hb.size)
    go_wp2
    go_ret
    refine ⟨rfl, ?_⟩
    clear hb hb2
    (repeat' (first | (with_reducible exact Below.refl _ _) | (with_reducible assumption) | (with_reducible refine Below.alloc ?_ ?_ _) | (with_reducible refine Below.drew ?_) | (with_reducible refine Below.setCell ?_ ?_ _) | (with_reducible refine Below.trans ?_ (Below.mono (by assumption) ?_)) | go_size))
  · go_enter Try.func57, Try.ntmps57
    go_wp2_with fail
    with_reducible refine (hL _).mono ?_
    rintro e w1 ⟨rfl, hb⟩
    go_wp2
    go_ret
    refine ⟨rfl, ?_⟩
    (repeat' (first | (with_reducible exact Below.refl _ _) | (with_reducible assumption) | (with_reducible refine Below.alloc ?_ ?_ _) | (with_reducible refine Below.drew ?_) | (with_reducible refine Below.setCell ?_ ?_ _) | (with_reducible refine Below.trans ?_ (Below.mono (by assumption) ?_)) | go_size))
  · go_enter Try.func57, Try.ntmps57
    go_wp2_with fail
    with_reducible refine (hM _).mono ?_
    rintro e w1 ⟨rfl, hb⟩
    go_wp2_with fail
    with_reducible refine (hn _ _).mono ?_
    rintro e w2 ⟨rfl, hb2⟩
    have hb3 := hb.trans (hb2.mono hb.size)
    go_wp2
    go_ret
    refine ⟨rfl, ?_⟩
    clear hb hb2
    (repeat' (first | (with_reducible exact Below.refl _ _) | (with_reducible assumption) | (with_reducible refine Below.alloc ?_ ?_ _) | (with_reducible refine Below.drew ?_) | (with_reducible refine Below.setCell ?_ ?_ _) | (with_reducible refine Below.trans ?_ (Below.mono (by assumption) ?_)) | go_size))
  · go_enter Try.func57, Try.ntmps57
    go_wp2_with fail
    with_reducible refine (hM _).mono ?_
    rintro e w1 ⟨rfl, hb⟩
    go_wp2
    go_ret
    refine ⟨rfl, ?_⟩
    (repeat' (first | (with_reducible exact Below.refl _ _) | (with_reducible assumption) | (with_reducible refine Below.alloc ?_ ?_ _) | (with_reducible refine Below.drew ?_) | (with_reducible refine Below.setCell ?_ ?_ _) | (with_reducible refine Below.trans ?_ (Below.mono (by assumption) ?_)) | go_size))
  · go_enter Try.func57, Try.ntmps57
    go_wp2_with fail
    with_reducible refine (hL _).mono ?_
    rintro e w1 ⟨rfl, hb⟩
    go_wp2_with fail
    with_reducible refine (hn _ _).mono ?_
    rintro e w2 ⟨rfl, hb2⟩
    have hb3 := hb.trans (hb2.mono hb.size)
    go_wp2
    go_ret
    refine ⟨rfl, ?_⟩
    clear hb hb2
    (repeat' (first | (with_reducible exact Below.refl _ _) | (with_reducible assumption) | (with_reducible refine Below.alloc ?_ ?_ _) | (with_reducible refine Below.drew ?_) | (with_reducible refine Below.setCell ?_ ?_ _) | (with_reducible refine Below.trans ?_ (Below.mono (by assumption) ?_)) | go_size))
set_option maxHeartbeats 800000 in
theorem rAbs_any (n : Int) (w : World) (h1 : -1125899906842624 ≤ n) (h2 : n ≤ 1125899906842624) : Calls Try.prog 102 #[.int .i64 n] w fun e w' => e = .returned (.int .i64 (max n (-n))) ∧ Below w.heap.size w w' := by
  go_enter Try.func102, Try.ntmps102
  go_wp2
  all_goals
    go_ret
    refine ⟨by first | rfl | (simp; omega), ?_⟩
    (repeat' (first | (with_reducible exact Below.refl _ _) | (with_reducible assumption) | (with_reducible refine Below.alloc ?_ ?_ _) | (with_reducible refine Below.drew ?_) | (with_reducible refine Below.setCell ?_ ?_ _) | (with_reducible refine Below.trans ?_ (Below.mono (by assumption) ?_)) | go_size))
set_option maxRecDepth 100000 in
set_option maxHeartbeats 3200000 in
theorem rComp_any (op x y : Int) (s s2 : ByteArray) (w : World) (hx1 : -1125899906842624 ≤ x) (hx2 : x ≤ 1125899906842624) (hy1 : -1125899906842624 ≤ y) (hy2 : y ≤ 1125899906842624) (hop : op = 13 ∨ op = 14 ∨ op = 15 ∨ op = 16 ∨ op = 17) :
    Calls Try.prog 64 #[.int .i64 op, .int .i64 x, .int .i64 y] w fun e w' => e = .returned (valV (ariP op (1, x, s) (1, y, s2))) ∧ Below w.heap.size w w' := by
  have oB := own_onez w
  unfold ariP
  rw [if_pos ⟨rfl, rfl⟩]
  dsimp only
  rcases hop with rfl | rfl | rfl | hop
  · rw [if_pos rfl]
    have hI := fun W => fInt (x + y) W
    generalize intP (x + y) = r at *
    obtain ⟨r1, r2, r3⟩ := r
    unfold valV at *
    dsimp only at hI ⊢
    go_enter Try.func64, Try.ntmps64
    go_wp2_with fail
    with_reducible refine (hI _).mono ?_
    rintro e w1 ⟨rfl, hb1⟩
    have z1 := hb1.size
    simp only [World.size_alloc] at z1
    have o1 := oB.below hb1 (by simp only [World.size_alloc]; omega)
    have d0 := o1.cell 0; have e0 := o1.free 0; have d1 := o1.cell 1; have e1 := o1.free 1; have d2 := o1.cell 2; have e2 := o1.free 2; (try simp only [List.getElem?_toArray, List.getElem?_cons_zero, List.getElem?_cons_succ] at d0 d1 d2)
    go_wp2
    (try simp only [Exit.inBlock, Exit.then]); refine bodyPost_ret_by (results_cell_row1 (by rfl) _ _ (w.heap.size) _ (by rfl) (load_val (((o1.store 0 _).store 1 _).store 2 _))) ?_ ?_; (focus rfl); refine ⟨rfl, ?_⟩
    (repeat' (first | (with_reducible exact Below.refl _ _) | (with_reducible assumption) | (with_reducible refine Below.alloc ?_ ?_ _) | (with_reducible refine Below.drew ?_) | (with_reducible refine Below.setCell ?_ ?_ _) | (with_reducible refine Below.trans ?_ (Below.mono (by assumption) ?_)) | go_size))
  · rw [if_neg (by decide), if_pos rfl]
    have hI : ∀ W, Calls Try.prog 59 #[.int .i64 (x - y)] W fun e w' => e = .returned (valV (intP (x + -y))) ∧ Below W.heap.size W w' := fun W => by rw [← Int.sub_eq_add_neg]; exact fInt (x - y) W
    generalize intP (x + -y) = r at *
    obtain ⟨r1, r2, r3⟩ := r
    unfold valV at *
    dsimp only at hI ⊢
    go_enter Try.func64, Try.ntmps64
    go_wp2_with fail
    with_reducible refine (hI _).mono ?_
    rintro e w1 ⟨rfl, hb1⟩
    have z1 := hb1.size
    simp only [World.size_alloc] at z1
    have o1 := oB.below hb1 (by simp only [World.size_alloc]; omega)
    have d0 := o1.cell 0; have e0 := o1.free 0; have d1 := o1.cell 1; have e1 := o1.free 1; have d2 := o1.cell 2; have e2 := o1.free 2; (try simp only [List.getElem?_toArray, List.getElem?_cons_zero, List.getElem?_cons_succ] at d0 d1 d2)
    go_wp2
    (try simp only [Exit.inBlock, Exit.then]); refine bodyPost_ret_by (results_cell_row1 (by rfl) _ _ (w.heap.size) _ (by rfl) (load_val (((o1.store 0 _).store 1 _).store 2 _))) ?_ ?_; (focus rfl); refine ⟨rfl, ?_⟩
    (repeat' (first | (with_reducible exact Below.refl _ _) | (with_reducible assumption) | (with_reducible refine Below.alloc ?_ ?_ _) | (with_reducible refine Below.drew ?_) | (with_reducible refine Below.setCell ?_ ?_ _) | (with_reducible refine Below.trans ?_ (Below.mono (by assumption) ?_)) | go_size))
  · rw [if_neg (by decide), if_neg (by decide), if_pos rfl]
    unfold mulP
    have hN := fun W => fNull W
    have hX := fun W => rAbs_any x W hx1 hx2
    have hY := fun W => rAbs_any y W hy1 hy2
    by_cases x0 : x = 0
    · subst x0
      rw [if_neg (by simp)]
      simp only [Int.zero_mul]
      have hI : ∀ W, Calls Try.prog 59 #[.int .i64 0] W fun e w' => e = .returned (valV (intP 0)) ∧ Below W.heap.size W w' := fun W => fInt 0 W
      generalize intP 0 = r at *
      obtain ⟨r1, r2, r3⟩ := r
      unfold valV at *
      dsimp only at hI ⊢
      go_enter Try.func64, Try.ntmps64
      go_wp2_with fail
      with_reducible refine (hI _).mono ?_
      rintro e w1 ⟨rfl, hb1⟩
      have z1 := hb1.size
      simp only [World.size_alloc] at z1
      have o1 := oB.below hb1 (by simp only [World.size_alloc]; omega)
      have d0 := o1.cell 0; have e0 := o1.free 0; have d1 := o1.cell 1; have e1 := o1.free 1; have d2 := o1.cell 2; have e2 := o1.free 2; (try simp only [List.getElem?_toArray, List.getElem?_cons_zero, List.getElem?_cons_succ] at d0 d1 d2)
      go_wp2
      (try simp only [Exit.inBlock, Exit.then]); refine bodyPost_ret_by (results_cell_row1 (by rfl) _ _ (w.heap.size) _ (by rfl) (load_val (((o1.store 0 _).store 1 _).store 2 _))) ?_ ?_; (focus rfl); refine ⟨rfl, ?_⟩
      (repeat' (first | (with_reducible exact Below.refl _ _) | (with_reducible assumption) | (with_reducible refine Below.alloc ?_ ?_ _) | (with_reducible refine Below.drew ?_) | (with_reducible refine Below.setCell ?_ ?_ _) | (with_reducible refine Below.trans ?_ (Below.mono (by assumption) ?_)) | go_size))
    have e1 : (x != 0) = true := by simp [x0]
    have e0 : (x == 0) = false := by simp [x0]
    have hm0 : ¬ max x (-x) = 0 := by omega
    have hmp : 0 < max x (-x) := by omega
    have hmb : max x (-x) ≤ 1125899906842624 := by omega
    have hnb : max y (-y) ≤ 1125899906842624 := by omega
    by_cases hc : 1125899906842624 / max x (-x) < max y (-y)
    · rw [if_pos ⟨x0, hc⟩]
      unfold valV nullP at *
      dsimp only at hN ⊢
      go_enter Try.func64, Try.ntmps64
      go_wp2_with fail
      with_reducible refine (hY _).mono ?_
      rintro e w1 ⟨rfl, hb1⟩
      go_wp2_with fail
      with_reducible refine (hX _).mono ?_
      rintro e w2 ⟨rfl, hb2⟩
      have o1 := oB.below hb1 oB.lt
      have o2 := o1.below hb2 o1.lt
      have B2 := ((bel_mk w _).trans (hb1.mono (bel_mk w _).size)).trans (hb2.mono ((bel_mk w _).trans (hb1.mono (bel_mk w _).size)).size)
      clear hb1 hb2 o1
      go_wp2_with fail
      with_reducible refine (hN _).mono ?_
      rintro e w3 ⟨rfl, hb3⟩
      have o3 := o2.below hb3 o2.lt
      have B3 := B2.trans (hb3.mono B2.size)
      clear hb3 B2
      have d0 := o3.cell 0; have e0 := o3.free 0; have d1 := o3.cell 1; have e1 := o3.free 1; have d2 := o3.cell 2; have e2 := o3.free 2; (try simp only [List.getElem?_toArray, List.getElem?_cons_zero, List.getElem?_cons_succ] at d0 d1 d2)
      go_wp2
      (try simp only [Exit.inBlock, Exit.then]); refine bodyPost_ret_by (results_cell_row1 (by rfl) _ _ (w.heap.size) _ (by rfl) (load_val (((o3.store 0 _).store 1 _).store 2 _))) ?_ ?_; (focus rfl); refine ⟨rfl, ?_⟩
      (repeat' (first | (with_reducible exact Below.refl _ _) | (with_reducible assumption) | (with_reducible refine Below.alloc ?_ ?_ _) | (with_reducible refine Below.drew ?_) | (with_reducible refine Below.setCell ?_ ?_ _) | (with_reducible refine Below.trans ?_ (Below.mono (by assumption) ?_)) | go_size))
    · rw [if_neg (fun h => hc h.2)]
      have hw := wrap_mul (x := x) (y := y) (.inr (by omega))
      have hI := fun W => fInt (x * y) W
      generalize intP (x * y) = r at *
      obtain ⟨r1, r2, r3⟩ := r
      unfold valV at *
      dsimp only at hI ⊢
      go_enter Try.func64, Try.ntmps64
      go_wp2_with fail
      with_reducible refine (hY _).mono ?_
      rintro e w1 ⟨rfl, hb1⟩
      go_wp2_with fail
      with_reducible refine (hX _).mono ?_
      rintro e w2 ⟨rfl, hb2⟩
      have o1 := oB.below hb1 oB.lt
      have o2 := o1.below hb2 o1.lt
      have B2 := ((bel_mk w _).trans (hb1.mono (bel_mk w _).size)).trans (hb2.mono ((bel_mk w _).trans (hb1.mono (bel_mk w _).size)).size)
      clear hb1 hb2 o1
      go_wp2_with fail
      with_reducible refine (hI _).mono ?_
      rintro e w3 ⟨rfl, hb3⟩
      have o3 := o2.below hb3 o2.lt
      have B3 := B2.trans (hb3.mono B2.size)
      clear hb3 B2
      have d0 := o3.cell 0; have e0 := o3.free 0; have d1 := o3.cell 1; have e1 := o3.free 1; have d2 := o3.cell 2; have e2 := o3.free 2; (try simp only [List.getElem?_toArray, List.getElem?_cons_zero, List.getElem?_cons_succ] at d0 d1 d2)
      go_wp2
      (try simp only [Exit.inBlock, Exit.then]); refine bodyPost_ret_by (results_cell_row1 (by rfl) _ _ (w.heap.size) _ (by rfl) (load_val (((o3.store 0 _).store 1 _).store 2 _))) ?_ ?_; (focus rfl); refine ⟨rfl, ?_⟩
      (repeat' (first | (with_reducible exact Below.refl _ _) | (with_reducible assumption) | (with_reducible refine Below.alloc ?_ ?_ _) | (with_reducible refine Below.drew ?_) | (with_reducible refine Below.setCell ?_ ?_ _) | (with_reducible refine Below.trans ?_ (Below.mono (by assumption) ?_)) | go_size))
  rw [if_neg (by omega), if_neg (by omega), if_neg (by omega)]
  by_cases y0 : y = 0
  · subst y0
    rw [if_pos rfl]
    have hI := fun W => fNull W
    rcases hop with rfl | rfl
    all_goals
      generalize nullP = r at *
      obtain ⟨r1, r2, r3⟩ := r
      unfold valV at *
      dsimp only at hI ⊢
      go_enter Try.func64, Try.ntmps64
      go_wp2_with fail
      with_reducible refine (hI _).mono ?_
      rintro e w1 ⟨rfl, hb1⟩
      have z1 := hb1.size
      simp only [World.size_alloc] at z1
      have o1 := oB.below hb1 (by simp only [World.size_alloc]; omega)
      have d0 := o1.cell 0; have e0 := o1.free 0; have d1 := o1.cell 1; have e1 := o1.free 1; have d2 := o1.cell 2; have e2 := o1.free 2; (try simp only [List.getElem?_toArray, List.getElem?_cons_zero, List.getElem?_cons_succ] at d0 d1 d2)
      go_wp2
      (try simp only [Exit.inBlock, Exit.then]); refine bodyPost_ret_by (results_cell_row1 (by rfl) _ _ (w.heap.size) _ (by rfl) (load_val (((o1.store 0 _).store 1 _).store 2 _))) ?_ ?_; (focus rfl); refine ⟨rfl, ?_⟩
      (repeat' (first | (with_reducible exact Below.refl _ _) | (with_reducible assumption) | (with_reducible refine Below.alloc ?_ ?_ _) | (with_reducible refine Below.drew ?_) | (with_reducible refine Below.setCell ?_ ?_ _) | (with_reducible refine Below.trans ?_ (Below.mono (by assumption) ?_)) | go_size))
  have y1 : (y == 0) = false := by simp [y0]
  rw [if_neg y0]
  rcases hop with rfl | rfl
  · rw [if_pos rfl]
    have hI := fun W => fInt (wrap64 (x.tdiv y)) W
    generalize intP (wrap64 (x.tdiv y)) = r at *
    obtain ⟨r1, r2, r3⟩ := r
    unfold valV at *
    dsimp only at hI ⊢
    go_enter Try.func64, Try.ntmps64
    go_wp2_with fail
    with_reducible refine (hI _).mono ?_
    rintro e w1 ⟨rfl, hb1⟩
    have z1 := hb1.size
    simp only [World.size_alloc] at z1
    have o1 := oB.below hb1 (by simp only [World.size_alloc]; omega)
    have d0 := o1.cell 0; have e0 := o1.free 0; have d1 := o1.cell 1; have e1 := o1.free 1; have d2 := o1.cell 2; have e2 := o1.free 2; (try simp only [List.getElem?_toArray, List.getElem?_cons_zero, List.getElem?_cons_succ] at d0 d1 d2)
    go_wp2
    (try simp only [Exit.inBlock, Exit.then]); refine bodyPost_ret_by (results_cell_row1 (by rfl) _ _ (w.heap.size) _ (by rfl) (load_val (((o1.store 0 _).store 1 _).store 2 _))) ?_ ?_; (focus rfl); refine ⟨rfl, ?_⟩
    (repeat' (first | (with_reducible exact Below.refl _ _) | (with_reducible assumption) | (with_reducible refine Below.alloc ?_ ?_ _) | (with_reducible refine Below.drew ?_) | (with_reducible refine Below.setCell ?_ ?_ _) | (with_reducible refine Below.trans ?_ (Below.mono (by assumption) ?_)) | go_size))
  · rw [if_neg (by decide)]
    have hI := fun W => fInt (x.tmod y) W
    generalize intP (x.tmod y) = r at *
    obtain ⟨r1, r2, r3⟩ := r
    unfold valV at *
    dsimp only at hI ⊢
    go_enter Try.func64, Try.ntmps64
    go_wp2_with fail
    with_reducible refine (hI _).mono ?_
    rintro e w1 ⟨rfl, hb1⟩
    have z1 := hb1.size
    simp only [World.size_alloc] at z1
    have o1 := oB.below hb1 (by simp only [World.size_alloc]; omega)
    have d0 := o1.cell 0; have e0 := o1.free 0; have d1 := o1.cell 1; have e1 := o1.free 1; have d2 := o1.cell 2; have e2 := o1.free 2; (try simp only [List.getElem?_toArray, List.getElem?_cons_zero, List.getElem?_cons_succ] at d0 d1 d2)
    go_wp2
    (try simp only [Exit.inBlock, Exit.then]); refine bodyPost_ret_by (results_cell_row1 (by rfl) _ _ (w.heap.size) _ (by rfl) (load_val (((o1.store 0 _).store 1 _).store 2 _))) ?_ ?_; (focus rfl); refine ⟨rfl, ?_⟩
    (repeat' (first | (with_reducible exact Below.refl _ _) | (with_reducible assumption) | (with_reducible refine Below.alloc ?_ ?_ _) | (with_reducible refine Below.drew ?_) | (with_reducible refine Below.setCell ?_ ?_ _) | (with_reducible refine Below.trans ?_ (Below.mono (by assumption) ?_)) | go_size))
end Go.Proofs.Ytpiadcfejbnonaa
/-
  What the functions of the reference's Eval answer: conjunctions and disjunctions. Conditions: lengths.
-/
namespace Go.Proofs.Ytpiadcfejbnonaa
set_option linter.unusedVariables false
set_option linter.unusedSimpArgs false
set_option linter.unusedVariables false
set_option linter.unusedSimpArgs false
set_option linter.unusedVariables false
set_option linter.unusedSimpArgs false
set_option maxRecDepth 100000
open Go.RowKit

theorem rdV_at0 {w : World} {L B n c : Nat} {ad : Addr} {l : List Vl} {p : Vl} (h : RdV w L B (.slice (some ad) n c) l) (hk : l[0]? = some p) : ad.block < B ∧ w.cell? ad = some (.int .i64 p.1) ∧ w.cell? ⟨ad.block, ad.off + 1, none⟩ = some (.int .i64 p.2.1) ∧ w.cell? ⟨ad.block, ad.off + 2, none⟩ = some (.string p.2.2) := by
  obtain ⟨A, c', hv, _, hc⟩ := h
  injection hv with e1 e2 e3
  subst e1
  obtain ⟨ad', e4, _, hb, c0, c1, c2⟩ := hc 0 p hk
  injection e4 with e4
  subst e4
  have e : ad.add (0 * 3) = ad := by unfold Addr.add; simp
  rw [e] at c0 c1 c2
  exact ⟨hb, c0, c1, c2⟩
theorem rdV_atk {w : World} {L B n c : Nat} {ad : Addr} {l : List Vl} {p : Vl} (k : Nat) (h0 : k ≠ 0) (h : RdV w L B (.slice (some ad) n c) l) (hk : l[k]? = some p) : ad.block < B ∧ w.cell? ⟨ad.block, ad.off + k * 3, none⟩ = some (.int .i64 p.1) ∧ w.cell? ⟨ad.block, ad.off + k * 3 + 1, none⟩ = some (.int .i64 p.2.1) ∧ w.cell? ⟨ad.block, ad.off + k * 3 + 2, none⟩ = some (.string p.2.2) := by
  obtain ⟨A, c', hv, _, hc⟩ := h
  injection hv with e1 e2 e3
  subst e1
  obtain ⟨ad', e4, _, hb, c0, c1, c2⟩ := hc k p hk
  injection e4 with e4
  subst e4
  have e : ad.add (k * 3) = ⟨ad.block, ad.off + k * 3, none⟩ := by unfold Addr.add; rw [if_neg (by omega)]
  rw [e] at c0 c1 c2
  exact ⟨hb, c0, c1, c2⟩
set_option maxRecDepth 100000 in
set_option maxHeartbeats 6400000 in
theorem rLog_5 (ad : Addr) (n c : Nat) (l : List Vl) (w : World) (L : Nat) (hv : RdV w L w.heap.size (.slice (some ad) l.length c) l) (h1 : 1 ≤ l.length) :
    Calls Try.prog 56 #[.int .i64 5, .slice (some ad) l.length c] w fun e w' => e = .returned (valV (ofP (logF 5 (truP (getP l 0)) l.tail))) ∧ Below w.heap.size w w' := by
  have HC := Lib.hid hv
  have o0 := own_onez w
  have B0 := bel_mk w (.cells #[.int .i64 0, .int .i64 0, .string ⟨#[]⟩] 23)
  have HO0 := Lib.hid o0
  have HB0 := Lib.hid B0
  have hg : l[0]? = some (getP l 0) := by unfold getP; rw [List.getD_eq_getElem?_getD, List.getElem?_eq_getElem (by omega)]; rfl
  obtain ⟨hab, c0, c1, c2⟩ := rdV_at0 hv hg
  have d0 := (B0.cell (p := ad) hab).trans c0
  have d1 := (B0.cell (p := ⟨ad.block, ad.off + 1, none⟩) hab).trans c1
  have d2 := (B0.cell (p := ⟨ad.block, ad.off + 2, none⟩) hab).trans c2
  have HT := Lib.hid (fun (r : Vl) (W : World) => fTruth r W)
  have hIF := fun W => fOf (logF 5 (truP (getP l 0)) l.tail) W
  generalize getP l 0 = p at *
  have HT0 := Lib.hid (fun (W : World) => fTruth p W)
  generalize hLF : logF 5 (truP p) l.tail = F at *
  have HLF := Lib.hid hLF
  generalize ofP F = r at *
  obtain ⟨r1, r2, r3⟩ := r
  obtain ⟨p1, p2, p3⟩ := p
  unfold valV at *
  dsimp only at *
  have HI := Lib.hid hIF
  generalize truP (p1, p2, p3) = t0 at *
  have h1i : (0 : Int) < l.length := by omega
  clear hIF hLF hv hg c0 c1 c2 o0 B0
  go_enter Try.func56, Try.ntmps56
  go_wp2_with fail
  with_reducible refine (HT0.out _).mono ?_
  rintro e w1 ⟨rfl, hb1⟩
  have HO1 := Lib.hid (HO0.out.below hb1 HO0.out.lt)
  have HB1 := Lib.hid (HB0.out.trans (hb1.mono HB0.out.size))
  clear hb1 HO0 HB0 d0 d1 d2
  go_wp2_with fail
  go_loopw [5, 6] (fun t i wr => ∃ (k : Nat) (tv : Int), 1 ≤ k ∧ k ≤ l.length ∧ i = .int .i64 k ∧ t = .int .i64 tv ∧ Hid (F = logF 5 tv (l.drop k)) ∧ Hid (Own wr w.heap.size 23 #[.int .i64 0, .int .i64 0, .string ⟨#[]⟩]) ∧ Below w.heap.size w wr) (fun _ i _ => l.length - (intOf i).toNat)
  case atStart => exact ⟨1, _, Nat.le_refl _, by omega, rfl, rfl, Lib.hid (by rw [List.drop_one]; exact HLF.out.symm), HO1, HB1.out⟩
  case round =>
    clear HLF HO1 HB1 HT0
    obtain ⟨k, tv, hk1, hk, rfl, rfl, HR, HO, hbr⟩ := hrel
    have hbz := hbr.size
    by_cases hlt : k < l.length
    · have hki : (k : Int) < l.length := by omega
      obtain ⟨A', c', hv', _, hcc⟩ := HC.out
      injection hv' with e1 e2 e3
      subst e1 e3
      obtain ⟨ad', e4, _, hab', c0, c1, c2⟩ := hcc k _ (List.getElem?_eq_getElem hlt)
      injection e4 with e4
      subst e4
      have d0 := (hbr.cell (p := ad.add (k * 3)) (by rw [add_block]; exact hab')).trans c0
      have d1 := (hbr.cell (p := ⟨(ad.add (k * 3)).block, (ad.add (k * 3)).off + 1, none⟩) (by show (ad.add (k * 3)).block < _; rw [add_block]; exact hab')).trans c1
      have d2 := (hbr.cell (p := ⟨(ad.add (k * 3)).block, (ad.add (k * 3)).off + 2, none⟩) (by show (ad.add (k * 3)).block < _; rw [add_block]; exact hab')).trans c2
      have hdr := logF_drop 5 tv l k _ (List.getElem?_eq_getElem hlt)
      rw [← HR.out] at hdr
      generalize l[k] = q at *
      have HTq := Lib.hid (fun (W : World) => fTruth q W)
      obtain ⟨q1, q2, q3⟩ := q
      unfold valV at HTq
      dsimp only at d0 d1 d2 HTq
      have HD := Lib.hid hdr
      clear hdr HR hcc c0 c1 c2 e2
      go_wp2_with fail
      with_reducible refine (HTq.out _).mono ?_
      rintro e w3 ⟨rfl, hb1⟩
      have o1 := Lib.hid (HO.out.below hb1 HO.out.lt)
      have B1 := Lib.hid (hbr.trans (hb1.mono hbz))
      clear hb1 d0 d1 d2 HTq HO
      go_wp2_with fail
      with_reducible refine (Va.rAnd_any _ _ _).mono ?_
      rintro e w4 ⟨rfl, hb2⟩
      have o2 := Lib.hid (o1.out.below hb2 o1.out.lt)
      have B2 := Lib.hid (B1.out.trans (hb2.mono B1.out.size))
      have HD2 := Lib.hid (show F = logF 5 (Va.vand tv (truP (q1, q2, q3))) (l.drop (k + 1)) by rw [HD.out]; rfl)
      clear hb2 o1 B1 HD
      go_wp2
      go_round
      case rel => exact ⟨k + 1, _, by omega, by omega, by go_num, rfl, HD2, o2, B2.out⟩
      case measure => simp [intOf]; omega
    · have hki : ¬ (k : Int) < l.length := by omega
      have hF : tv = F := by rw [HR.out, List.drop_eq_nil_of_le (by omega)]; rfl
      subst hF
      have o3 := HO.out
      have B3 := hbr
      clear HR
      go_wp2_with fail
      with_reducible refine (HI.out _).mono ?_
      rintro e w4 ⟨rfl, hb4⟩
      have o4 := o3.below hb4 o3.lt
      have B4 := B3.trans (hb4.mono B3.size)
      clear hb4
      have d0 := o4.cell 0; have e0 := o4.free 0; have d1 := o4.cell 1; have e1 := o4.free 1; have d2 := o4.cell 2; have e2 := o4.free 2; (try simp only [List.getElem?_toArray, List.getElem?_cons_zero, List.getElem?_cons_succ] at d0 d1 d2)
      go_wp2
      (try simp only [Exit.inBlock, Exit.then]); refine bodyPost_ret_by (results_cell_row1 (by rfl) _ _ (w.heap.size) _ (by rfl) (load_val (((o4.store 0 _).store 1 _).store 2 _))) ?_ ?_; (focus rfl); refine ⟨rfl, ?_⟩
      (repeat' (first | (with_reducible exact Below.refl _ _) | (with_reducible assumption) | (with_reducible refine Below.alloc ?_ ?_ _) | (with_reducible refine Below.drew ?_) | (with_reducible refine Below.setCell ?_ ?_ _) | (with_reducible refine Below.trans ?_ (Below.mono (by assumption) ?_)) | go_size))
set_option maxRecDepth 100000 in
set_option maxHeartbeats 6400000 in
theorem rLog_6 (ad : Addr) (n c : Nat) (l : List Vl) (w : World) (L : Nat) (hv : RdV w L w.heap.size (.slice (some ad) l.length c) l) (h1 : 1 ≤ l.length) :
    Calls Try.prog 56 #[.int .i64 6, .slice (some ad) l.length c] w fun e w' => e = .returned (valV (ofP (logF 6 (truP (getP l 0)) l.tail))) ∧ Below w.heap.size w w' := by
  have HC := Lib.hid hv
  have o0 := own_onez w
  have B0 := bel_mk w (.cells #[.int .i64 0, .int .i64 0, .string ⟨#[]⟩] 23)
  have HO0 := Lib.hid o0
  have HB0 := Lib.hid B0
  have hg : l[0]? = some (getP l 0) := by unfold getP; rw [List.getD_eq_getElem?_getD, List.getElem?_eq_getElem (by omega)]; rfl
  obtain ⟨hab, c0, c1, c2⟩ := rdV_at0 hv hg
  have d0 := (B0.cell (p := ad) hab).trans c0
  have d1 := (B0.cell (p := ⟨ad.block, ad.off + 1, none⟩) hab).trans c1
  have d2 := (B0.cell (p := ⟨ad.block, ad.off + 2, none⟩) hab).trans c2
  have HT := Lib.hid (fun (r : Vl) (W : World) => fTruth r W)
  have hIF := fun W => fOf (logF 6 (truP (getP l 0)) l.tail) W
  generalize getP l 0 = p at *
  have HT0 := Lib.hid (fun (W : World) => fTruth p W)
  generalize hLF : logF 6 (truP p) l.tail = F at *
  have HLF := Lib.hid hLF
  generalize ofP F = r at *
  obtain ⟨r1, r2, r3⟩ := r
  obtain ⟨p1, p2, p3⟩ := p
  unfold valV at *
  dsimp only at *
  have HI := Lib.hid hIF
  generalize truP (p1, p2, p3) = t0 at *
  have h1i : (0 : Int) < l.length := by omega
  clear hIF hLF hv hg c0 c1 c2 o0 B0
  go_enter Try.func56, Try.ntmps56
  go_wp2_with fail
  with_reducible refine (HT0.out _).mono ?_
  rintro e w1 ⟨rfl, hb1⟩
  have HO1 := Lib.hid (HO0.out.below hb1 HO0.out.lt)
  have HB1 := Lib.hid (HB0.out.trans (hb1.mono HB0.out.size))
  clear hb1 HO0 HB0 d0 d1 d2
  go_wp2_with fail
  go_loopw [5, 6] (fun t i wr => ∃ (k : Nat) (tv : Int), 1 ≤ k ∧ k ≤ l.length ∧ i = .int .i64 k ∧ t = .int .i64 tv ∧ Hid (F = logF 6 tv (l.drop k)) ∧ Hid (Own wr w.heap.size 23 #[.int .i64 0, .int .i64 0, .string ⟨#[]⟩]) ∧ Below w.heap.size w wr) (fun _ i _ => l.length - (intOf i).toNat)
  case atStart => exact ⟨1, _, Nat.le_refl _, by omega, rfl, rfl, Lib.hid (by rw [List.drop_one]; exact HLF.out.symm), HO1, HB1.out⟩
  case round =>
    clear HLF HO1 HB1 HT0
    obtain ⟨k, tv, hk1, hk, rfl, rfl, HR, HO, hbr⟩ := hrel
    have hbz := hbr.size
    by_cases hlt : k < l.length
    · have hki : (k : Int) < l.length := by omega
      obtain ⟨A', c', hv', _, hcc⟩ := HC.out
      injection hv' with e1 e2 e3
      subst e1 e3
      obtain ⟨ad', e4, _, hab', c0, c1, c2⟩ := hcc k _ (List.getElem?_eq_getElem hlt)
      injection e4 with e4
      subst e4
      have d0 := (hbr.cell (p := ad.add (k * 3)) (by rw [add_block]; exact hab')).trans c0
      have d1 := (hbr.cell (p := ⟨(ad.add (k * 3)).block, (ad.add (k * 3)).off + 1, none⟩) (by show (ad.add (k * 3)).block < _; rw [add_block]; exact hab')).trans c1
      have d2 := (hbr.cell (p := ⟨(ad.add (k * 3)).block, (ad.add (k * 3)).off + 2, none⟩) (by show (ad.add (k * 3)).block < _; rw [add_block]; exact hab')).trans c2
      have hdr := logF_drop 6 tv l k _ (List.getElem?_eq_getElem hlt)
      rw [← HR.out] at hdr
      generalize l[k] = q at *
      have HTq := Lib.hid (fun (W : World) => fTruth q W)
      obtain ⟨q1, q2, q3⟩ := q
      unfold valV at HTq
      dsimp only at d0 d1 d2 HTq
      have HD := Lib.hid hdr
      clear hdr HR hcc c0 c1 c2 e2
      go_wp2_with fail
      with_reducible refine (HTq.out _).mono ?_
      rintro e w3 ⟨rfl, hb1⟩
      have o1 := Lib.hid (HO.out.below hb1 HO.out.lt)
      have B1 := Lib.hid (hbr.trans (hb1.mono hbz))
      clear hb1 d0 d1 d2 HTq HO
      go_wp2_with fail
      with_reducible refine (Va.rOr_any _ _ _).mono ?_
      rintro e w4 ⟨rfl, hb2⟩
      have o2 := Lib.hid (o1.out.below hb2 o1.out.lt)
      have B2 := Lib.hid (B1.out.trans (hb2.mono B1.out.size))
      have HD2 := Lib.hid (show F = logF 6 (Va.vor tv (truP (q1, q2, q3))) (l.drop (k + 1)) by rw [HD.out]; rfl)
      clear hb2 o1 B1 HD
      go_wp2
      go_round
      case rel => exact ⟨k + 1, _, by omega, by omega, by go_num, rfl, HD2, o2, B2.out⟩
      case measure => simp [intOf]; omega
    · have hki : ¬ (k : Int) < l.length := by omega
      have hF : tv = F := by rw [HR.out, List.drop_eq_nil_of_le (by omega)]; rfl
      subst hF
      have o3 := HO.out
      have B3 := hbr
      clear HR
      go_wp2_with fail
      with_reducible refine (HI.out _).mono ?_
      rintro e w4 ⟨rfl, hb4⟩
      have o4 := o3.below hb4 o3.lt
      have B4 := B3.trans (hb4.mono B3.size)
      clear hb4
      have d0 := o4.cell 0; have e0 := o4.free 0; have d1 := o4.cell 1; have e1 := o4.free 1; have d2 := o4.cell 2; have e2 := o4.free 2; (try simp only [List.getElem?_toArray, List.getElem?_cons_zero, List.getElem?_cons_succ] at d0 d1 d2)
      go_wp2
      (try simp only [Exit.inBlock, Exit.then]); refine bodyPost_ret_by (results_cell_row1 (by rfl) _ _ (w.heap.size) _ (by rfl) (load_val (((o4.store 0 _).store 1 _).store 2 _))) ?_ ?_; (focus rfl); refine ⟨rfl, ?_⟩
      (repeat' (first | (with_reducible exact Below.refl _ _) | (with_reducible assumption) | (with_reducible refine Below.alloc ?_ ?_ _) | (with_reducible refine Below.drew ?_) | (with_reducible refine Below.setCell ?_ ?_ _) | (with_reducible refine Below.trans ?_ (Below.mono (by assumption) ?_)) | go_size))
end Go.Proofs.Ytpiadcfejbnonaa
