import Derived.Test.YteihjneeiojgaaaSExUb
import Derived.Test.YteihjneeiojgaaaPA
import Derived.WalkKit
import Derived.WalkSpells
import Derived.WalkLawsBesides
import Derived.Deep.QuietTactic
import Derived.BigQuiet
import Derived.Handy
import Derived.Lib.Hide
import Derived.Test.YteihjneeiojgaaaSScY
/-
  Changes as values: usedFields and the comparison of two changes. Conditions: none.
-/
namespace Go.Proofs.Yteihjneeiojgaaa
set_option maxRecDepth 100000
set_option linter.unusedVariables false
set_option linter.unusedSimpArgs false
open Go.RowKit

/-- A change: its kind, its name, its other name, its column, its value. -/
structure Chg where
  k : Int
  nm : ByteArray
  to : ByteArray
  c : Cl
  p : Vl
def chA (k : Int) (nm to : ByteArray) (c : Cl) (p : Vl) : Array Value := #[.int .i64 k, .string nm, .string to, .string c.1, .int .i64 c.2.1, .bool c.2.2, .int .i64 p.1, .int .i64 p.2.1, .string p.2.2]
def chV (h : Chg) : Value := .agg (chA h.k h.nm h.to h.c h.p)
def zC : Cl := (⟨#[]⟩, 0, false)
def zP : Vl := (0, 0, ⟨#[]⟩)
/-- The fields that a change's kind uses. -/
def plnC (h : Chg) : Chg := if h.k = 1 then ⟨h.k, ⟨#[]⟩, ⟨#[]⟩, h.c, h.p⟩ else if h.k = 3 then ⟨h.k, h.nm, h.to, zC, zP⟩ else ⟨h.k, h.nm, ⟨#[]⟩, zC, zP⟩
def eqS (a b : ByteArray) : Bool := a.toList == b.toList
def eqH (a b : Chg) : Bool := (a.k == b.k) && (eqS a.nm b.nm && (eqS a.to b.to && (eqC a.c b.c && ((a.p.1 == b.p.1) && ((a.p.2.1 == b.p.2.1) && eqS a.p.2.2 b.p.2.2)))))
theorem ite_ok {c : Prop} [Decidable c] {A : Result Value} {w : World} {a b : Bool} (h0 : a = true ↔ c) (hA : A = .ok (.bool (!b)) w) : (if c then A else .ok (.bool true) w) = .ok (.bool (!(a && b))) w := by
  by_cases h : c
  · rw [if_pos h, h0.2 h]; exact hA
  · have ha : a = false := by cases a; rfl; exact absurd (h0.1 rfl) h
    rw [if_neg h, ha]; rfl
theorem ite_ok1 {c : Prop} [Decidable c] {w : World} {a : Bool} (h0 : a = true ↔ c) : (if c then (Result.ok (.bool false) w : Result Value) else .ok (.bool true) w) = .ok (.bool (!a)) w := by
  by_cases h : c
  · rw [if_pos h, h0.2 h]; rfl
  · have ha : a = false := by cases a; rfl; exact absurd (h0.1 rfl) h
    rw [if_neg h, ha]; rfl
theorem load_chg {w : World} {g : Nat} {x0 x1 x2 x3 x4 x5 x6 x7 x8 : Value} (h : Own w g 40 #[x0, x1, x2, x3, x4, x5, x6, x7, x8]) : (loadVar 40 ⟨g, 0, none⟩).run Try.prog w = .ok (.agg #[x0, x1, x2, x3, x4, x5, x6, x7, x8]) w :=
  run_loadVar_row w g 40 40 #[x0, x1, x2, x3, x4, x5, x6, x7, x8] (0, 0) _ h Try.underlying40 rfl (by kernel_rfl)
theorem neq_chg (k : Int) (s1 s2 s3 : ByteArray) (ck : Int) (cb : Bool) (p1 p2 : Int) (p3 : ByteArray) (l : Int) (t1 t2 t3 : ByteArray) (dk : Int) (db : Bool) (q1 q2 : Int) (q3 : ByteArray) (w : World) :
    (binOp .neq 40 (.agg #[.int .i64 k, .string s1, .string s2, .string s3, .int .i64 ck, .bool cb, .int .i64 p1, .int .i64 p2, .string p3]) (.agg #[.int .i64 l, .string t1, .string t2, .string t3, .int .i64 dk, .bool db, .int .i64 q1, .int .i64 q2, .string q3])).run Try.prog w = .ok (.bool (!eqH ⟨k, s1, s2, (s3, ck, cb), (p1, p2, p3)⟩ ⟨l, t1, t2, (t3, dk, db), (q1, q2, q3)⟩)) w := by
  rw [run_neq_struct, run_equalIn_struct w 9999 40 _ _ (by kernel_rfl) (by kernel_rfl)]
  simp [Program.fieldsOf, Op.eqFields, Try.underlying40, Try.underlying36, Try.underlying38, Try.underlying3, Try.underlying9, Try.underlying4, part, isAgg, go_sem]
  unfold eqH eqC eqS
  dsimp only
  simp only [Bool.and_assoc]
  exact ite_ok beq_iff_eq (ite_ok beq_iff_eq (ite_ok beq_iff_eq (ite_ok beq_iff_eq (ite_ok beq_iff_eq (ite_ok beq_iff_eq (ite_ok beq_iff_eq (ite_ok beq_iff_eq (ite_ok1 beq_iff_eq))))))))
set_option maxRecDepth 100000 in
set_option maxHeartbeats 6400000 in
theorem usedFields_any (h : Chg) (w : World) : Calls Try.prog 32 #[chV h] w fun e w' => e = .returned (chV (plnC h)) ∧ Below w.heap.size w w' := by
  obtain ⟨k, s1, s2, ⟨s3, ck, cb⟩, ⟨p1, p2, p3⟩⟩ := h
  unfold plnC chV chA zC zP
  dsimp only
  by_cases h1 : k = 1
  · subst h1
    rw [if_pos rfl]
    dsimp only
    obtain ⟨HP, -, -⟩ := bx2 w 40 #[.int .i64 1, .string s1, .string s2, .string s3, .int .i64 ck, .bool cb, .int .i64 p1, .int .i64 p2, .string p3] 40 #[.int .i64 0, .string ⟨#[]⟩, .string ⟨#[]⟩, .string ⟨#[]⟩, .int .i64 0, .bool false, .int .i64 0, .int .i64 0, .string ⟨#[]⟩]
    obtain ⟨c0, c1, c2, c3, c4, c5, c6, c7, c8⟩ := oc9 HP
    obtain ⟨-, HO1, HB⟩ := bx2 w 40 #[.int .i64 1, .string s1, .string s2, .string s3, .int .i64 ck, .bool cb, .int .i64 p1, .int .i64 p2, .string p3] 40 #[.int .i64 1, .string ⟨#[]⟩, .string ⟨#[]⟩, .string s3, .int .i64 ck, .bool cb, .int .i64 p1, .int .i64 p2, .string p3]
    go_enter Try.func32, Try.ntmps32
    go_wp2
    (try simp only [Exit.inBlock, Exit.then]); refine bodyPost_ret_by (results_cell_row1 (by rfl) _ _ (w.heap.size + 1) _ (by rfl) (load_chg HO1.out)) ?_ ?_; (focus rfl); (try dsimp only)
    exact ⟨rfl, HB.out⟩
  · rw [if_neg h1]
    have h1b : (k == 1) = false := by rw [beq_eq_false_iff_ne]; exact h1
    clear h1
    by_cases h3 : k = 3
    · subst h3
      rw [if_pos rfl]
      dsimp only
      obtain ⟨HP, -, -⟩ := bx2 w 40 #[.int .i64 3, .string s1, .string s2, .string s3, .int .i64 ck, .bool cb, .int .i64 p1, .int .i64 p2, .string p3] 40 #[.int .i64 0, .string ⟨#[]⟩, .string ⟨#[]⟩, .string ⟨#[]⟩, .int .i64 0, .bool false, .int .i64 0, .int .i64 0, .string ⟨#[]⟩]
      obtain ⟨c0, c1, c2, c3, c4, c5, c6, c7, c8⟩ := oc9 HP
      obtain ⟨-, HO1, HB⟩ := bx2 w 40 #[.int .i64 3, .string s1, .string s2, .string s3, .int .i64 ck, .bool cb, .int .i64 p1, .int .i64 p2, .string p3] 40 #[.int .i64 3, .string s1, .string s2, .string ⟨#[]⟩, .int .i64 0, .bool false, .int .i64 0, .int .i64 0, .string ⟨#[]⟩]
      go_enter Try.func32, Try.ntmps32
      go_wp2
      (try simp only [Exit.inBlock, Exit.then]); refine bodyPost_ret_by (results_cell_row1 (by rfl) _ _ (w.heap.size + 1) _ (by rfl) (load_chg HO1.out)) ?_ ?_; (focus rfl); (try dsimp only)
      exact ⟨rfl, HB.out⟩
    · rw [if_neg h3]
      have h3b : (k == 3) = false := by rw [beq_eq_false_iff_ne]; exact h3
      clear h3
      dsimp only
      obtain ⟨HP, -, -⟩ := bx2 w 40 #[.int .i64 k, .string s1, .string s2, .string s3, .int .i64 ck, .bool cb, .int .i64 p1, .int .i64 p2, .string p3] 40 #[.int .i64 0, .string ⟨#[]⟩, .string ⟨#[]⟩, .string ⟨#[]⟩, .int .i64 0, .bool false, .int .i64 0, .int .i64 0, .string ⟨#[]⟩]
      obtain ⟨c0, c1, c2, c3, c4, c5, c6, c7, c8⟩ := oc9 HP
      obtain ⟨-, HO1, HB⟩ := bx2 w 40 #[.int .i64 k, .string s1, .string s2, .string s3, .int .i64 ck, .bool cb, .int .i64 p1, .int .i64 p2, .string p3] 40 #[.int .i64 k, .string s1, .string ⟨#[]⟩, .string ⟨#[]⟩, .int .i64 0, .bool false, .int .i64 0, .int .i64 0, .string ⟨#[]⟩]
      go_enter Try.func32, Try.ntmps32
      go_wp2
      (try simp only [Exit.inBlock, Exit.then]); refine bodyPost_ret_by (results_cell_row1 (by rfl) _ _ (w.heap.size + 1) _ (by rfl) (load_chg HO1.out)) ?_ ?_; (focus rfl); (try dsimp only)
      exact ⟨rfl, HB.out⟩
end Go.Proofs.Yteihjneeiojgaaa
/-
  The reference's Name: what it answers. Conditions: none.
-/
namespace Go.Proofs.Yteihjneeiojgaaa
set_option maxRecDepth 100000
set_option linter.unusedVariables false
set_option linter.unusedSimpArgs false
open Go.RowKit

end Go.Proofs.Yteihjneeiojgaaa
