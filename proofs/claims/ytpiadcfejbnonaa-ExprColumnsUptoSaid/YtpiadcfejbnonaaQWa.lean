import Derived.Test.YtpiadcfejbnonaaQY
import Derived.Test.YtpiadcfejbnonaaMA
import Derived.WalkKit
import Derived.WalkSpells
import Derived.WalkLawsBesides
import Derived.Deep.QuietTactic
import Derived.BigQuiet
import Derived.Handy
import Derived.Lib.Hide
/-
  The expressions of the statements' examples: num, two. Conditions: none.
-/
namespace Go.Proofs.Ytpiadcfejbnonaa
set_option linter.unusedVariables false
set_option linter.unusedSimpArgs false
set_option linter.unusedVariables false
set_option linter.unusedSimpArgs false
set_option linter.unusedVariables false
set_option linter.unusedSimpArgs false
set_option maxRecDepth 100000
open Go.RowKit

def numE (n : Int) : Ex := ⟨1, 0, (1, n, ⟨#[]⟩), ⟨#[]⟩, []⟩
def nulE : Ex := ⟨1, 0, (0, 0, ⟨#[]⟩), ⟨#[]⟩, []⟩
def txaE : Ex := ⟨1, 0, (2, 0, ⟨#[97]⟩), ⟨#[]⟩, []⟩
def twoE (op : Int) (a b : Ex) : Ex := ⟨op, 0, (0, 0, ⟨#[]⟩), ⟨#[]⟩, [a, b]⟩
def oneE (op : Int) (a : Ex) : Ex := ⟨op, 0, (0, 0, ⟨#[]⟩), ⟨#[]⟩, [a]⟩
/-- The value v is the expression e, of a depth less than d + 1. -/
def IsE (d : Nat) (e : Ex) (v : Value) (W : World) : Prop := ∃ A c, v = exV e (.slice A e.args.length c) ∧ RdE W 0 W.heap.size d (.slice A e.args.length c) e.args
def exF (d : Nat) (e : Ex) : Fact := ⟨IsE d e, fun _ _ _ ⟨A, c, hv, hr⟩ hb => ⟨A, c, hv, hr.step hb (Nat.le_refl _)⟩⟩
theorem rdE_nil (W : World) (L B d : Nat) (hd : 0 < d) : RdE W L B d (.slice none 0 0) [] := by
  obtain ⟨k, rfl⟩ : ∃ k, d = k + 1 := ⟨d - 1, by omega⟩
  exact ⟨none, 0, rfl, by simp, by simp⟩
theorem load_exp {w : World} {g : Nat} {a b c d e f u : Value} (h : Own w g 26 #[a, b, c, d, e, f, u]) : (loadVar 26 ⟨g, 0, none⟩).run Try.prog w = .ok (.agg #[a, b, c, d, e, f, u]) w :=
  run_loadVar_row w g 26 26 #[a, b, c, d, e, f, u] (0, 0) _ h Try.underlying26 rfl (by kernel_rfl)
set_option maxRecDepth 100000 in
set_option maxHeartbeats 3200000 in
theorem pNum_any (n : Int) (w : World) : Calls Try.prog 34 #[.int .i64 n] w fun e w' => e = .returned (.agg #[.int .i64 1, .int .i64 0, .int .i64 1, .int .i64 n, .string ⟨#[]⟩, .string ⟨#[]⟩, .slice none 0 0]) ∧ Below w.heap.size w w' := by
  go_enter Try.func34, Try.ntmps34
  go_wp2
  (try simp only [Exit.inBlock, Exit.then]); refine bodyPost_ret_by (rcell1 (by rfl) _ _ (w.heap.size) _ (by rfl) (load_exp (Own.new _ _ _))) ?_ ?_; (focus rfl); refine ⟨rfl, ?_⟩
  (repeat' (first | (with_reducible exact Below.refl _ _) | (with_reducible assumption) | (with_reducible refine Below.alloc ?_ ?_ _) | (with_reducible refine Below.drew ?_) | (with_reducible refine Below.setCell ?_ ?_ _) | (with_reducible refine Below.trans ?_ (Below.mono (by assumption) ?_)) | go_size))
theorem isE_num (n : Int) (d : Nat) (hd : 0 < d) (W : World) : IsE d (numE n) (.agg #[.int .i64 1, .int .i64 0, .int .i64 1, .int .i64 n, .string ⟨#[]⟩, .string ⟨#[]⟩, .slice none 0 0]) W := ⟨none, 0, rfl, rdE_nil W 0 _ d hd⟩
/-- Two expressions in a row. -/
theorem rdE_two {W : World} {g d : Nat} {a b : Ex} {Aa Ab : Option Addr} {ca cb : Nat} (ha : RdE W 0 W.heap.size d (.slice Aa a.args.length ca) a.args) (hb : RdE W 0 W.heap.size d (.slice Ab b.args.length cb) b.args)
    (ho : Own W g 26 #[.int .i64 a.op, .int .i64 a.n, .int .i64 a.v.1, .int .i64 a.v.2.1, .string a.v.2.2, .string a.nm, .slice Aa a.args.length ca, .int .i64 b.op, .int .i64 b.n, .int .i64 b.v.1, .int .i64 b.v.2.1, .string b.v.2.2, .string b.nm, .slice Ab b.args.length cb]) :
    RdE W 0 W.heap.size (d + 1) (.slice (some ⟨g, 0, none⟩) 2 2) [a, b] := by
  refine ⟨some ⟨g, 0, none⟩, 2, rfl, by simp, fun k e hk => ?_⟩
  match k, hk with
  | 0, hk =>
    injection hk with hk
    subst hk
    refine ⟨⟨g, 0, none⟩, _, rfl, Nat.zero_le _, ho.lt, ?_, ha⟩
    rw [show ((⟨g, 0, none⟩ : Addr).add (0 * 7)) = ⟨g, 0, none⟩ by rfl]
    exact ⟨ho.cell 0, ho.cell 1, ho.cell 2, ho.cell 3, ho.cell 4, ho.cell 5, ho.cell 6⟩
  | 1, hk =>
    injection hk with hk
    subst hk
    refine ⟨⟨g, 0, none⟩, _, rfl, Nat.zero_le _, ho.lt, ?_, hb⟩
    rw [show ((⟨g, 0, none⟩ : Addr).add (1 * 7)) = ⟨g, 7, none⟩ by rfl]
    exact ⟨ho.cell 7, ho.cell 8, ho.cell 9, ho.cell 10, ho.cell 11, ho.cell 12, ho.cell 13⟩
  | k + 2, hk => simp at hk
theorem own_four {w : World} {t : TypeId} {cs : Array Value} (o o2 o3 : Obj) : Own ((((w.alloc o).alloc o2).alloc o3).alloc (.cells cs t)) (w.heap.size + 1 + 1 + 1) t cs := by
  have h := Own.new (((w.alloc o).alloc o2).alloc o3) t cs
  rwa [World.size_alloc, World.size_alloc, World.size_alloc] at h
theorem own_three0 {w : World} {t : TypeId} {cs : Array Value} (o o2 : Obj) : Own (((w.alloc o).alloc o2).alloc (.cells cs t)) (w.heap.size + 1 + 1) t cs := by
  have h := Own.new ((w.alloc o).alloc o2) t cs
  rwa [World.size_alloc, World.size_alloc] at h
theorem below_four (w : World) (o o2 o3 o4 : Obj) : Below w.heap.size w ((((w.alloc o).alloc o2).alloc o3).alloc o4) :=
  (((bel_mk w o).trans ((bel_mk _ o2).mono (by simp))).trans ((bel_mk _ o3).mono (by simp; omega))).trans ((bel_mk _ o4).mono (by simp; omega))
theorem rdE_one {W : World} {g d : Nat} {a : Ex} {Aa : Option Addr} {ca : Nat} (ha : RdE W 0 W.heap.size d (.slice Aa a.args.length ca) a.args)
    (ho : Own W g 26 #[.int .i64 a.op, .int .i64 a.n, .int .i64 a.v.1, .int .i64 a.v.2.1, .string a.v.2.2, .string a.nm, .slice Aa a.args.length ca]) :
    RdE W 0 W.heap.size (d + 1) (.slice (some ⟨g, 0, none⟩) 1 1) [a] := by
  refine ⟨some ⟨g, 0, none⟩, 1, rfl, by simp, fun k e hk => ?_⟩
  match k, hk with
  | 0, hk =>
    injection hk with hk
    subst hk
    refine ⟨⟨g, 0, none⟩, _, rfl, Nat.zero_le _, ho.lt, ?_, ha⟩
    rw [show ((⟨g, 0, none⟩ : Addr).add (0 * 7)) = ⟨g, 0, none⟩ by rfl]
    exact ⟨ho.cell 0, ho.cell 1, ho.cell 2, ho.cell 3, ho.cell 4, ho.cell 5, ho.cell 6⟩
  | k + 1, hk => simp at hk
set_option maxRecDepth 100000 in
set_option maxHeartbeats 6400000 in
theorem pTwo_any (op : Int) (d : Nat) (a b : Ex) (va vb : Value) (w : World) (ha : IsE d a va w) (hb : IsE d b vb w) :
    Calls Try.prog 33 #[.int .i64 op, va, vb] w fun e w' => ∃ u, e = .returned u ∧ IsE (d + 1) (twoE op a b) u w' ∧ Below w.heap.size w w' := by
  obtain ⟨Aa, ca, rfl, hra⟩ := ha
  obtain ⟨Ab, cb, rfl, hrb⟩ := hb
  have HRA := Lib.hid hra
  have HRB := Lib.hid hrb
  unfold exV
  clear hra hrb
  go_enter Try.func33, Try.ntmps33
  go_wp2_with fail
  (try simp only [Exit.inBlock, Exit.then]); refine bodyPost_ret_by (rcell1 (by rfl) _ _ (w.heap.size + 1 + 1) _ (by rfl) (load_exp ((own_three0 _ _).alloc _))) ?_ ?_; (focus rfl)
  exact ⟨_, rfl, ⟨_, _, rfl, rdE_two (HRA.out.step (below_four w _ _ _ _) (Nat.le_refl _)) (HRB.out.step (below_four w _ _ _ _) (Nat.le_refl _)) (own_four _ _ _)⟩, below_four w _ _ _ _⟩
end Go.Proofs.Ytpiadcfejbnonaa
