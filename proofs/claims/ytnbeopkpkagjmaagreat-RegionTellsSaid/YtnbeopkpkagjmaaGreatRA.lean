import Derived.Test.YtnbeopkpkagjmaaGreatMS
import Derived.Test.YtnbeopkpkagjmaaGreatNQ
import Derived.Test.YtnbeopkpkagjmaaGreatMQ
import Derived.WalkKit
import Derived.WalkSpells
import Derived.WalkLawsBesides
import Derived.Deep.QuietTactic
import Derived.BigQuiet
import Derived.Handy
import Derived.Lib.Hide
/-
  Slices of rectangles, as lists: what a call reads, what a call makes. Conditions: none.
-/
namespace Go.Proofs.YtnbeopkpkagjmaaGreat
set_option maxRecDepth 100000
set_option linter.unusedVariables false
set_option linter.unusedSimpArgs false
open Go.RowKit

/-- The four cells of a rectangle from p on. -/
def RcC (w : World) (p : Addr) (r : Rc) : Prop :=
  w.cell? p = some (.int .i64 r.1.1) ∧ w.cell? ⟨p.block, p.off + 1, none⟩ = some (.int .i64 r.1.2) ∧ w.cell? ⟨p.block, p.off + 2, none⟩ = some (.int .i64 r.2.1) ∧ w.cell? ⟨p.block, p.off + 3, none⟩ = some (.int .i64 r.2.2)
theorem RcC.below {w w' : World} {B : Nat} {p : Addr} {r : Rc} (h : RcC w p r) (hb : Below B w w') (hp : p.block < B) : RcC w' p r := by
  obtain ⟨h0, h1, h2, h3⟩ := h
  exact ⟨(hb.cell hp).trans h0, (hb.cell (p := ⟨p.block, p.off + 1, none⟩) hp).trans h1, (hb.cell (p := ⟨p.block, p.off + 2, none⟩) hp).trans h2, (hb.cell (p := ⟨p.block, p.off + 3, none⟩) hp).trans h3⟩
/-- The slice v holds the rectangles l, below block B and not below block L; its room is at least its length. -/
def RdR (w : World) (L B : Nat) (v : Value) (l : List Rc) : Prop :=
  ∃ A c, v = .slice A l.length c ∧ l.length ≤ 9223372036854775807 ∧ l.length ≤ c ∧ ∀ (k : Nat) (r : Rc), l[k]? = some r → ∃ ad : Addr, A = some ad ∧ L ≤ ad.block ∧ ad.block < B ∧ RcC w (ad.add (k * 4)) r
theorem RdR.below {w w' : World} {L B : Nat} {v : Value} {l : List Rc} (h : RdR w L B v l) (hb : Below B w w') : RdR w' L B v l := by
  obtain ⟨A, c, hv, hl, hcc, hc⟩ := h
  refine ⟨A, c, hv, hl, hcc, fun k n hk => ?_⟩
  obtain ⟨ad, h1, h0, h2, h3⟩ := hc k n hk
  exact ⟨ad, h1, h0, h2, h3.below hb (by rw [add_block]; exact h2)⟩
theorem RdR.more {w : World} {L L' B B' : Nat} {v : Value} {l : List Rc} (h : RdR w L B v l) (hB : B ≤ B') (hL : L' ≤ L) : RdR w L' B' v l := by
  obtain ⟨A, c, hv, hl, hcc, hc⟩ := h
  refine ⟨A, c, hv, hl, hcc, fun k n hk => ?_⟩
  obtain ⟨ad, h1, h0, h2, h3⟩ := hc k n hk
  exact ⟨ad, h1, by omega, by omega, h3⟩
theorem RdR.at {w : World} {L B : Nat} {A : Option Addr} {m c : Nat} {l : List Rc} (h : RdR w L B (.slice A m c) l) {k : Nat} {r : Rc} (hk : l[k]? = some r) : ∃ ad : Addr, A = some ad ∧ L ≤ ad.block ∧ ad.block < B ∧ RcC w (ad.add (k * 4)) r := by
  obtain ⟨A', c', hv, hl, _, hc⟩ := h
  injection hv with e1 e2 e3
  subst e1
  exact hc k r hk
theorem RdR.cap {w : World} {L B : Nat} {A : Option Addr} {m c : Nat} {l : List Rc} (h : RdR w L B (.slice A m c) l) : m = l.length ∧ l.length ≤ c := by
  obtain ⟨A', c', hv, hl, hcc, _⟩ := h
  injection hv with e1 e2 e3
  subst e2 e3
  exact ⟨rfl, hcc⟩
theorem RdR.step {w w' : World} {L B : Nat} {v : Value} {l : List Rc} (h : RdR w L B v l) (hb : Below w.heap.size w w') (hB : B ≤ w.heap.size) : RdR w' L w'.heap.size v l :=
  (h.below (hb.mono hB)).more (Nat.le_trans hB hb.size) (Nat.le_refl _)
theorem RdR.nil (w : World) (L B : Nat) (c : Nat) (A : Option Addr) : RdR w L B (.slice A 0 c) [] := ⟨A, c, rfl, by simp, by simp, by simp⟩
/-- The cells of a rectangle that is read, in every later world. -/
theorem RcC.after {W : World} {a : Addr} {k : Nat} {r : Rc} (h : RcC W (a.add k) r) (ha : a.block < W.heap.size) :
    (∀ p : After W, p.w.cell? (a.add k) = some (.int .i64 r.1.1)) ∧ (∀ p : After W, p.w.cell? ⟨(a.add k).block, (a.add k).off + 1, none⟩ = some (.int .i64 r.1.2)) ∧
    (∀ p : After W, p.w.cell? ⟨(a.add k).block, (a.add k).off + 2, none⟩ = some (.int .i64 r.2.1)) ∧ (∀ p : After W, p.w.cell? ⟨(a.add k).block, (a.add k).off + 3, none⟩ = some (.int .i64 r.2.2)) := by
  have hb : (a.add k).block < W.heap.size := by rw [add_block]; exact ha
  exact ⟨after_cell hb h.1, after_cell hb h.2.1, after_cell hb h.2.2.1, after_cell hb h.2.2.2⟩
def flatR (l : List Rc) : List Value := l.flatMap fun r => [.int .i64 r.1.1, .int .i64 r.1.2, .int .i64 r.2.1, .int .i64 r.2.2]
theorem flatR_get : ∀ (l : List Rc) (k : Nat) (r : Rc), l[k]? = some r → (flatR l)[k * 4]? = some (.int .i64 r.1.1) ∧ (flatR l)[k * 4 + 1]? = some (.int .i64 r.1.2) ∧ (flatR l)[k * 4 + 2]? = some (.int .i64 r.2.1) ∧ (flatR l)[k * 4 + 3]? = some (.int .i64 r.2.2)
  | [], k, p, h => by simp at h
  | q :: l, 0, p, h => by simp at h; subst h; simp [flatR]
  | q :: l, k + 1, p, h => by
    have := flatR_get l k p (by simpa using h)
    rw [show (k + 1) * 4 = k * 4 + 1 + 1 + 1 + 1 by omega, show k * 4 + 1 + 1 + 1 + 1 + 1 = (k * 4 + 1) + 1 + 1 + 1 + 1 by omega, show k * 4 + 1 + 1 + 1 + 1 + 2 = (k * 4 + 2) + 1 + 1 + 1 + 1 by omega, show k * 4 + 1 + 1 + 1 + 1 + 3 = (k * 4 + 3) + 1 + 1 + 1 + 1 by omega]
    simpa [flatR] using this
theorem flatR_length : ∀ (l : List Rc), (flatR l).length = l.length * 4
  | [] => rfl
  | q :: l => by have := flatR_length l; simp only [flatR, List.flatMap_cons, List.length_append, List.length_cons, List.length_nil] at this ⊢; omega
theorem flatR_snoc (l : List Rc) (r : Rc) : flatR (l ++ [r]) = flatR l ++ [.int .i64 r.1.1, .int .i64 r.1.2, .int .i64 r.2.1, .int .i64 r.2.2] := by simp [flatR]
theorem flatR_append (l m : List Rc) : flatR (l ++ m) = flatR l ++ flatR m := by simp [flatR]
theorem RdR.of_own {w : World} {base : Nat} {v : Value} {l : List Rc} (h : w.ownsRow base 35 4 v l.length (flatR l)) (hl : l.length ≤ 9223372036854775807) : RdR w base w.heap.size v l := by
  rcases own_get h with ⟨rfl, h0⟩ | ⟨g, c, rfl, hb, hg, hnc, hc⟩
  · obtain rfl := List.eq_nil_of_length_eq_zero h0
    exact RdR.nil _ _ _ _ _
  · refine ⟨_, c, rfl, hl, hnc, fun k p hk => ⟨_, rfl, hb, hg, ?_⟩⟩
    obtain ⟨h1, h2, h3, h4⟩ := flatR_get l k p hk
    rw [plain_add]
    exact ⟨hc _ _ h1, hc _ _ h2, hc _ _ h3, hc _ _ h4⟩
def RetRcs (w : World) (l : List Rc) (e : Ending) (w' : World) : Prop := ∃ v, e = .returned v ∧ RdR w' w.heap.size w'.heap.size v l ∧ Below w.heap.size w w'
theorem own_nilR (W : World) (base : Nat) : W.ownsRow base 35 4 (.slice none 0 0) ([] : List Rc).length (flatR []) := World.ownsRow_nil W base _ 4
theorem infoRect : (Tryz.prog.info? 35).map (fun i => (i.zero, i.size, i.bytes)) = some (some (.agg #[.int .i64 0, .int .i64 0, .int .i64 0, .int .i64 0]), 4, 32) := by kernel_rfl
theorem append_rc {ops : Array Oper} {rest : List Oper} {o : Oper} {a : Act} {Q : Exit → Act → World → Prop} (W : World) (hgd : o.guard = none) (s x : Operand)
    (ho : o.op = .call { callee := .builtin .append, args := #[s, x], argTypes := #[22, 22] }) (base : Nat) (v : Value) (l : List Rc) (hs : a.eval s = v)
    (hown : W.ownsRow base 35 4 v l.length (flatR l)) (ad : Addr) (r : Rc) (hx : a.eval x = .slice (some ad) 1 1)
    (hnew : ∀ j u, [Value.int .i64 r.1.1, Value.int .i64 r.1.2, Value.int .i64 r.2.1, Value.int .i64 r.2.2][j]? = some u → W.cell? (ad.add j) = some u) (hl : l.length ≤ 1000000000) (hbase : base ≤ W.heap.size)
    (h : ∀ v' w', w'.ownsRow base 35 4 v' (l ++ [r]).length (flatR (l ++ [r])) → Below base W w' → wpList Tryz.prog ops Q rest (a.put o.dst v') w') :
    wpList Tryz.prog ops Q (o :: rest) a W := by
  obtain ⟨i0, hi, hz0, hz1, hz2⟩ := info_parts infoRect
  refine wpList_append_own _ hgd s x 22 ho base 35 i0 (.agg #[.int .i64 0, .int .i64 0, .int .i64 0, .int .i64 0]) 4 32 Tryz.underlying22 hi hz0 hz1 hz2 rfl (by decide) v l.length (flatR l) hs hown ad 1 1 [.int .i64 r.1.1, .int .i64 r.1.2, .int .i64 r.2.1, .int .i64 r.2.2] hx rfl
    hnew (fun u hu => by simp at hu; rcases hu with rfl | rfl | rfl | rfl <;> rfl) (by unfold maxLen; omega) (by omega) hbase ?_
  intro v' w' h1 h2 _
  refine h v' w' (by rw [flatR_snoc, List.length_append]; exact h1) ((Below.refl _ _).grown h2 hbase fun k hk => (hown.lt k hk).1)
end Go.Proofs.YtnbeopkpkagjmaaGreat
