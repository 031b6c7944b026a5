import Derived.Test.YthnmcpfmljibeaaQP
import Derived.WalkKit
import Derived.WalkSpells
import Derived.WalkLawsBesides
import Derived.Deep.QuietTactic
import Derived.BigQuiet
import Derived.Handy
import Derived.Lib.Hide
/-
  Arithmetic and comparisons on any two values, columns of a row, by the program. Conditions: numbers that are values.
-/
namespace Go.Proofs.Ythnmcpfmljibeaa
set_option maxRecDepth 100000
set_option linter.unusedVariables false
set_option linter.unusedSimpArgs false
open Go.RowKit

def eqlP (p q : Vl) : Int := Va.eqlV p.1 p.2.1 p.2.2 q.1 q.2.1 q.2.2
def lesP (p q : Vl) : Int := Va.lesV p.1 p.2.1 p.2.2 q.1 q.2.1 q.2.2
/-- The truth value of a comparison. -/
def cmqP (op : Int) (p q : Vl) : Int := if op = 7 then eqlP p q else if op = 8 then Va.vnot (eqlP p q) else if op = 9 then lesP p q else if op = 10 then Va.vnot (lesP q p) else if op = 11 then lesP q p else Va.vnot (lesP p q)
set_option maxRecDepth 100000 in
set_option maxHeartbeats 3200000 in
theorem pAri_any (op k x k2 y : Int) (s s2 : ByteArray) (w : World) (h1 : k = 1 → -1125899906842624 ≤ x ∧ x ≤ 1125899906842624) (h2 : k2 = 1 → -1125899906842624 ≤ y ∧ y ≤ 1125899906842624) (hop : op = 13 ∨ op = 14 ∨ op = 15 ∨ op = 16 ∨ op = 17) :
    Calls Try.prog 73 #[.int .i64 op, .agg #[.int .i64 k, .int .i64 x, .string s], .agg #[.int .i64 k2, .int .i64 y, .string s2]] w fun e w' => e = .returned (valV (ariP op (k, x, s) (k2, y, s2))) ∧ Below w.heap.size w w' := by
  by_cases hk : k = 1
  · subst hk
    by_cases hk2 : k2 = 1
    · subst hk2
      exact pAri_ints op x y s s2 w (h1 rfl).1 (h1 rfl).2 (h2 rfl).1 (h2 rfl).2 hop
    · have e2 : (k2 != 1) = true := by simp [hk2]
      unfold ariP
      rw [if_neg (fun h => hk2 h.2)]
      have hN := fun W => eNull W
      unfold valV nullP at *
      dsimp only at hN ⊢
      have oB : Own (((w.alloc (.cells #[.int .i64 1, .int .i64 x, .string s] 23)).alloc (.cells #[.int .i64 k2, .int .i64 y, .string s2] 23)).alloc (.cells #[.int .i64 0, .int .i64 0, .string ⟨#[]⟩] 23)) (w.heap.size + 1 + 1) 23 #[.int .i64 0, .int .i64 0, .string ⟨#[]⟩] := own_three _ _
      clear hop h1 h2
      go_enter Try.func73, Try.ntmps73
      go_wp2_with fail
      with_reducible refine (hN _).mono ?_
      rintro e w1 ⟨rfl, hb1⟩
      have z1 := hb1.size
      simp only [World.size_alloc] at z1
      have o1 := oB.below hb1 (by simp only [World.size_alloc]; omega)
      have d0 := o1.cell 0; have e0 := o1.free 0; have d1 := o1.cell 1; have e1 := o1.free 1; have d2 := o1.cell 2; have e2 := o1.free 2; (try simp only [List.getElem?_toArray, List.getElem?_cons_zero, List.getElem?_cons_succ] at d0 d1 d2)
      go_wp2
      (try simp only [Exit.inBlock, Exit.then]); refine bodyPost_ret_by (results_cell_row1 (by rfl) _ _ (w.heap.size + 1 + 1) _ (by rfl) (load_val (((o1.store 0 _).store 1 _).store 2 _))) ?_ ?_; (focus rfl); refine ⟨rfl, ?_⟩
      (repeat' (first | (with_reducible exact Below.refl _ _) | (with_reducible assumption) | (with_reducible refine Below.alloc ?_ ?_ _) | (with_reducible refine Below.drew ?_) | (with_reducible refine Below.setCell ?_ ?_ _) | (with_reducible refine Below.trans ?_ (Below.mono (by assumption) ?_)) | go_size))
  · have e1 : (k != 1) = true := by simp [hk]
    unfold ariP
    rw [if_neg (fun h => hk h.1)]
    have hN := fun W => eNull W
    unfold valV nullP at *
    dsimp only at hN ⊢
    have oB : Own (((w.alloc (.cells #[.int .i64 k, .int .i64 x, .string s] 23)).alloc (.cells #[.int .i64 k2, .int .i64 y, .string s2] 23)).alloc (.cells #[.int .i64 0, .int .i64 0, .string ⟨#[]⟩] 23)) (w.heap.size + 1 + 1) 23 #[.int .i64 0, .int .i64 0, .string ⟨#[]⟩] := own_three _ _
    clear hop h1 h2
    go_enter Try.func73, Try.ntmps73
    go_wp2_with fail
    with_reducible refine (hN _).mono ?_
    rintro e w1 ⟨rfl, hb1⟩
    have z1 := hb1.size
    simp only [World.size_alloc] at z1
    have o1 := oB.below hb1 (by simp only [World.size_alloc]; omega)
    have d0 := o1.cell 0; have e0 := o1.free 0; have d1 := o1.cell 1; have e1 := o1.free 1; have d2 := o1.cell 2; have e2 := o1.free 2; (try simp only [List.getElem?_toArray, List.getElem?_cons_zero, List.getElem?_cons_succ] at d0 d1 d2)
    go_wp2
    (try simp only [Exit.inBlock, Exit.then]); refine bodyPost_ret_by (results_cell_row1 (by rfl) _ _ (w.heap.size + 1 + 1) _ (by rfl) (load_val (((o1.store 0 _).store 1 _).store 2 _))) ?_ ?_; (focus rfl); refine ⟨rfl, ?_⟩
    (repeat' (first | (with_reducible exact Below.refl _ _) | (with_reducible assumption) | (with_reducible refine Below.alloc ?_ ?_ _) | (with_reducible refine Below.drew ?_) | (with_reducible refine Below.setCell ?_ ?_ _) | (with_reducible refine Below.trans ?_ (Below.mono (by assumption) ?_)) | go_size))
set_option maxRecDepth 100000 in
set_option maxHeartbeats 3200000 in
theorem pCmq_any (op k x k2 y : Int) (s s2 : ByteArray) (w : World) (hop : op = 7 ∨ op = 8 ∨ op = 9 ∨ op = 10 ∨ op = 11 ∨ op = 12) :
    Calls Try.prog 72 #[.int .i64 op, .agg #[.int .i64 k, .int .i64 x, .string s], .agg #[.int .i64 k2, .int .i64 y, .string s2]] w fun e w' => e = .returned (.int .i64 (cmqP op (k, x, s) (k2, y, s2))) ∧ Below w.heap.size w w' := by
  unfold cmqP eqlP lesP
  dsimp only
  have hE := fun W => Va.pEqual_any k x s k2 y s2 W
  have hL := fun W => Va.pLess_any k x s k2 y s2 W
  have hM := fun W => Va.pLess_any k2 y s2 k x s W
  unfold Va.vV at hE hL hM
  generalize Va.eqlV k x s k2 y s2 = E at *
  generalize Va.lesV k x s k2 y s2 = L at *
  generalize Va.lesV k2 y s2 k x s = M at *
  have hn := fun t W => Va.pNot_any t W
  rcases hop with rfl | rfl | rfl | rfl | rfl | rfl
  · go_enter Try.func72, Try.ntmps72
    go_wp2_with fail
    with_reducible refine (hE _).mono ?_
    rintro e w1 ⟨rfl, hb⟩
    go_wp2
    go_ret
    refine ⟨rfl, ?_⟩
    (repeat' (first | (with_reducible exact Below.refl _ _) | (with_reducible assumption) | (with_reducible refine Below.alloc ?_ ?_ _) | (with_reducible refine Below.drew ?_) | (with_reducible refine Below.setCell ?_ ?_ _) | (with_reducible refine Below.trans ?_ (Below.mono (by assumption) ?_)) | go_size))
  · go_enter Try.func72, Try.ntmps72
    go_wp2_with fail
    with_reducible refine (hE _).mono ?_
    rintro e w1 ⟨rfl, hb⟩
    go_wp2_with fail
    with_reducible refine (hn _ _).mono ?_
    rintro e w2 ⟨rfl, hb2⟩
    have hb3 := hb.trans (hb2.mono hb.size)
    go_wp2
    go_ret
    refine ⟨rfl, ?_⟩
    clear hb hb2
    (repeat' (first | (with_reducible exact Below.refl _ _) | (with_reducible assumption) | (with_reducible refine Below.alloc ?_ ?_ _) | (with_reducible refine Below.drew ?_) | (with_reducible refine Below.setCell ?_ ?_ _) | (with_reducible refine Below.trans ?_ (Below.mono (by assumption) ?_)) | go_size))
  · go_enter Try.func72, Try.ntmps72
    go_wp2_with fail
    with_reducible refine (hL _).mono ?_
    rintro e w1 ⟨rfl, hb⟩
    go_wp2
    go_ret
    refine ⟨rfl, ?_⟩
    (repeat' (first | (with_reducible exact Below.refl _ _) | (with_reducible assumption) | (with_reducible refine Below.alloc ?_ ?_ _) | (with_reducible refine Below.drew ?_) | (with_reducible refine Below.setCell ?_ ?_ _) | (with_reducible refine Below.trans ?_ (Below.mono (by assumption) ?_)) | go_size))
  · go_enter Try.func72, Try.ntmps72
    go_wp2_with fail
    with_reducible refine (hM _).mono ?_
    rintro e w1 ⟨rfl, hb⟩
    go_wp2_with fail
    with_reducible refine (hn _ _).mono ?_
    rintro e w2 ⟨rfl, hb2⟩
    have hb3 := hb.trans (hb2.mono hb.size)
    go_wp2
    go_ret
    refine ⟨rfl, ?_⟩
    clear hb hb2
    (repeat' (first | (with_reducible exact Below.refl _ _) | (with_reducible assumption) | (with_reducible refine Below.alloc ?_ ?_ _) | (with_reducible refine Below.drew ?_) | (with_reducible refine Below.setCell ?_ ?_ _) | (with_reducible refine Below.trans ?_ (Below.mono (by assumption) ?_)) | go_size))
  · go_enter Try.func72, Try.ntmps72
    go_wp2_with fail
    with_reducible refine (hM _).mono ?_
    rintro e w1 ⟨rfl, hb⟩
    go_wp2
    go_ret
    refine ⟨rfl, ?_⟩
    (repeat' (first | (with_reducible exact Below.refl _ _) | (with_reducible assumption) | (with_reducible refine Below.alloc ?_ ?_ _) | (with_reducible refine Below.drew ?_) | (with_reducible refine Below.setCell ?_ ?_ _) | (with_reducible refine Below.trans ?_ (Below.mono (by assumption) ?_)) | go_size))
  · go_enter Try.func72, Try.ntmps72
    go_wp2_with fail
    with_reducible refine (hL _).mono ?_
    rintro e w1 ⟨rfl, hb⟩
    go_wp2_with fail
    with_reducible refine (hn _ _).mono ?_
    rintro e w2 ⟨rfl, hb2⟩
    have hb3 := hb.trans (hb2.mono hb.size)
    go_wp2
    go_ret
    refine ⟨rfl, ?_⟩
    clear hb hb2
    (repeat' (first | (with_reducible exact Below.refl _ _) | (with_reducible assumption) | (with_reducible refine Below.alloc ?_ ?_ _) | (with_reducible refine Below.drew ?_) | (with_reducible refine Below.setCell ?_ ?_ _) | (with_reducible refine Below.trans ?_ (Below.mono (by assumption) ?_)) | go_size))
end Go.Proofs.Ythnmcpfmljibeaa
