import Derived.Test.YtjdbjnmnihnmhaaME
import Derived.Test.YtjdbjnmnihnmhaaMC
import Derived.WalkKit
import Derived.WalkSpells
import Derived.WalkLawsBesides
import Derived.Deep.QuietTactic
import Derived.BigQuiet
import Derived.Handy
import Derived.Lib.Hide
/-
  Trees that a call makes: rows of expressions in new memory. Conditions: lengths.
-/
namespace Go.Proofs.Ytjdbjnmnihnmhaa
set_option maxRecDepth 100000
set_option linter.unusedVariables false
set_option linter.unusedSimpArgs false
open Go.RowKit

/-- An expression with the slice of its arguments. -/
abbrev ExU := Ex × Value
def exL (p : ExU) : List Value := [.int .i64 p.1.op, .int .i64 p.1.n, .int .i64 p.1.v.1, .int .i64 p.1.v.2.1, .string p.1.v.2.2, .string p.1.nm, p.2]
def flatE : List ExU → List Value
  | [] => []
  | p :: t => exL p ++ flatE t
theorem flatE_append : ∀ a b : List ExU, flatE (a ++ b) = flatE a ++ flatE b
  | [], b => rfl
  | p :: t, b => by
    show exL p ++ flatE (t ++ b) = (exL p ++ flatE t) ++ flatE b
    rw [flatE_append t b, List.append_assoc]
theorem exL_len (p : ExU) : (exL p).length = 7 := rfl
theorem flatE_len : ∀ a : List ExU, (flatE a).length = a.length * 7
  | [] => rfl
  | p :: t => by
    show (exL p ++ flatE t).length = _
    rw [List.length_append, flatE_len t, exL_len, List.length_cons]
    omega
theorem flatE_get (ps : List ExU) (k : Nat) (p : ExU) (h : ps[k]? = some p) (j : Nat) (hj : j < 7) : (flatE ps)[k * 7 + j]? = (exL p)[j]? := by
  obtain ⟨hk, rfl⟩ := List.getElem?_eq_some_iff.1 h
  have e : ps = ps.take k ++ ps[k] :: ps.drop (k + 1) := by rw [List.getElem_cons_drop, List.take_append_drop]
  have e2 : flatE ps = flatE (ps.take k) ++ (exL ps[k] ++ flatE (ps.drop (k + 1))) := by
    conv => lhs; rw [e]
    rw [flatE_append]
    rfl
  have hl : (flatE (ps.take k)).length = k * 7 := by rw [flatE_len, List.length_take]; omega
  rw [e2, List.getElem?_append_right (by omega), hl, show k * 7 + j - k * 7 = j by omega, List.getElem?_append_left (by rw [exL_len]; exact hj)]
def zX : ExU := (⟨0, 0, (0, 0, ⟨#[]⟩), ⟨#[]⟩, []⟩, .slice none 0 0)
/-- The cells of n expressions of which those of ps are set. -/
def rowE (ps : List ExU) (n : Nat) : Array Value := (flatE (ps ++ List.replicate (n - ps.length) zX)).toArray
theorem rowE_next (ps : List ExU) (n : Nat) (h : ps.length < n) (j : Nat) (hj : j < 7) : (rowE ps n)[ps.length * 7 + j]? = (exL zX)[j]? := by
  unfold rowE
  rw [List.getElem?_toArray]
  refine flatE_get _ _ _ ?_ j hj
  rw [List.getElem?_append_right (Nat.le_refl _), Nat.sub_self, List.getElem?_replicate, if_pos (by omega)]
theorem set7 (a : List Value) (x0 x1 x2 x3 x4 x5 x6 y0 y1 y2 y3 y4 y5 y6 : Value) (b : List Value) (i : Nat) (h : a.length = i) :
    (((((((a ++ ([x0, x1, x2, x3, x4, x5, x6] ++ b)).set i y0).set (i + 1) y1).set (i + 2) y2).set (i + 3) y3).set (i + 4) y4).set (i + 5) y5).set (i + 6) y6 = a ++ ([y0, y1, y2, y3, y4, y5, y6] ++ b) := by
  subst h
  have st : ∀ (l : List Value) (j : Nat) (y : Value), (a ++ l).set (a.length + j) y = a ++ l.set j y := fun l j y => by
    rw [List.set_append_right _ _ (by omega), show a.length + j - a.length = j by omega]
  have s0 := st ([x0, x1, x2, x3, x4, x5, x6] ++ b) 0 y0
  rw [Nat.add_zero] at s0
  rw [s0, st, st, st, st, st, st]
  rfl
theorem rowE_set (ps : List ExU) (n : Nat) (p : ExU) (h : ps.length < n) :
    (((((((rowE ps n).setIfInBounds (ps.length * 7) (.int .i64 p.1.op)).setIfInBounds (ps.length * 7 + 1) (.int .i64 p.1.n)).setIfInBounds (ps.length * 7 + 2) (.int .i64 p.1.v.1)).setIfInBounds (ps.length * 7 + 3) (.int .i64 p.1.v.2.1)).setIfInBounds (ps.length * 7 + 4) (.string p.1.v.2.2)).setIfInBounds (ps.length * 7 + 5) (.string p.1.nm)).setIfInBounds (ps.length * 7 + 6) p.2 = rowE (ps ++ [p]) n := by
  unfold rowE
  simp only [List.setIfInBounds_toArray]
  congr 1
  have e : List.replicate (n - ps.length) zX = zX :: List.replicate (n - (ps ++ [p]).length) zX := by
    rw [show n - ps.length = (n - (ps ++ [p]).length) + 1 by rw [List.length_append]; simp; omega]
    rfl
  rw [e, flatE_append, flatE_append, flatE_append, List.append_assoc]
  exact set7 (flatE ps) _ _ _ _ _ _ _ (.int .i64 p.1.op) (.int .i64 p.1.n) (.int .i64 p.1.v.1) (.int .i64 p.1.v.2.1) (.string p.1.v.2.2) (.string p.1.nm) p.2 (flatE (List.replicate (n - (ps ++ [p]).length) zX)) (ps.length * 7) (flatE_len ps)
theorem flatE_rep (z : ExU) : ∀ (n i : Nat), i < n * 7 → (flatE (List.replicate n z))[i]? = (exL z)[i % 7]?
  | 0, i, h => by omega
  | n + 1, i, h => by
    show (exL z ++ flatE (List.replicate n z))[i]? = _
    by_cases hi : i < 7
    · rw [List.getElem?_append_left (by rw [exL_len]; exact hi), Nat.mod_eq_of_lt hi]
    · rw [List.getElem?_append_right (by rw [exL_len]; omega), exL_len, flatE_rep z n (i - 7) (by omega)]
      congr 1
      omega
theorem infoX : (Try.prog.info? 43).map (fun i => (i.zero, i.size, i.bytes)) = some (some (.agg #[.int .i64 0, .int .i64 0, .int .i64 0, .int .i64 0, .string ⟨#[]⟩, .string ⟨#[]⟩, .slice none 0 0]), 7, 88) := by kernel_rfl
theorem made_rowE (W : World) (n : Nat) (hn : n ≤ 1099511627776) :
    (Instr.makeSlice 25 (.int .i64 (n : Nat)) (.int .i64 (n : Nat))).run Try.prog W = .ok (.slice (some ⟨W.heap.size, 0, none⟩) n n) (W.alloc (.cells (rowE [] n) 43)) := by
  obtain ⟨i0, hi, hz0, hz1, hz2⟩ := info_partsB infoX
  have h := run_make (P := Try.prog) (w := W) 25 43 i0 (.agg #[.int .i64 0, .int .i64 0, .int .i64 0, .int .i64 0, .string ⟨#[]⟩, .string ⟨#[]⟩, .slice none 0 0]) Try.underlying25 hi hz0 .i64 .i64 (n : Int) (n : Int) (by omega) (Int.le_refl _) (by rw [hz2]; omega) (by omega)
  rw [h, Int.toNat_natCast, hz1]
  have hr : madeCells (Value.agg #[.int .i64 0, .int .i64 0, .int .i64 0, .int .i64 0, .string ⟨#[]⟩, .string ⟨#[]⟩, .slice none 0 0]).cells (n * 7) = rowE [] n := by
    unfold rowE
    rw [List.nil_append, List.length_nil, Nat.sub_zero]
    unfold madeCells
    apply Array.ext
    · simp [flatE_len]
    · intro i h1 h2
      have h3 : i < n * 7 := by simpa using h1
      have h4 := flatE_rep zX n i h3
      have h5 : i % 7 < 7 := Nat.mod_lt _ (by decide)
      rw [← List.getElem?_toArray, Array.getElem?_eq_getElem h2] at h4
      have h6 : (exL zX)[i % 7]? = some ((exL zX)[i % 7]'(by rw [exL_len]; exact h5)) := List.getElem?_eq_getElem _
      rw [h6] at h4
      injection h4 with h4
      rw [h4]
      simp [Value.cells]
      show ((exL zX)[i % 7]?).getD default = _
      rw [h6]
      rfl
  rw [hr]
theorem addX (g j : Nat) : (⟨g, 0, none⟩ : Addr).add j = ⟨g, j, none⟩ := by
  unfold Addr.add
  split <;> simp_all
/-- What lies in a row of the call's own reads as trees, if the arguments do. -/
theorem rdE_row {w : World} {g L d c : Nat} {ps : List ExU} (h : Own w g 43 (flatE ps).toArray) (hg : L ≤ g) (hl : ps.length ≤ 1099511627776) (hr : ∀ p ∈ ps, RdE w L w.heap.size d p.2 p.1.args) :
    RdE w L w.heap.size (d + 1) (.slice (some ⟨g, 0, none⟩) ps.length c) (ps.map (·.1)) := by
  refine ⟨some ⟨g, 0, none⟩, c, by rw [List.length_map], by rw [List.length_map]; exact hl, fun k e hk => ?_⟩
  rw [List.getElem?_map] at hk
  obtain ⟨p, hp, rfl⟩ := Option.map_eq_some_iff.1 hk
  refine ⟨⟨g, 0, none⟩, p.2, rfl, hg, h.lt, ?_, hr p (List.mem_of_getElem? hp)⟩
  rw [addX]
  have G := fun j hj => (h.cell (k * 7 + j)).trans ((List.getElem?_toArray ..).trans (flatE_get ps k p hp j hj))
  exact ⟨G 0 (by decide), G 1 (by decide), G 2 (by decide), G 3 (by decide), G 4 (by decide), G 5 (by decide), G 6 (by decide)⟩
theorem rowE_all (ps : List ExU) : rowE ps ps.length = (flatE ps).toArray := by
  unfold rowE
  rw [Nat.sub_self]
  simp
/-- A store into a block below the tree's. -/
theorem RdE.far {w : World} {L B : Nat} {p : Addr} {v : Value} (hp : p.block < L) : ∀ {d : Nat} {u : Value} {es : List Ex}, RdE w L B d u es → RdE (w.setCell p v) L B d u es
  | 0, _, _, h => h
  | d + 1, u, es, ⟨A, c, hv, hl, hc⟩ => ⟨A, c, hv, hl, fun k e hk => by
      obtain ⟨ad, x, h1, h2, h3, h4, h5⟩ := hc k e hk
      have hne : ∀ i, p.block ≠ (⟨(ad.add (k * 7)).block, (ad.add (k * 7)).off + i, none⟩ : Addr).block := fun i => by show p.block ≠ (ad.add (k * 7)).block; rw [add_blk]; omega
      obtain ⟨q0, q1, q2, q3, q4, q5, q6⟩ := h4
      exact ⟨ad, x, h1, h2, h3, ⟨(World.cell?_setCell_far w p (ad.add (k * 7)) v (by rw [add_blk]; omega)).trans q0, (World.cell?_setCell_far _ p _ _ (hne 1)).trans q1, (World.cell?_setCell_far _ p _ _ (hne 2)).trans q2, (World.cell?_setCell_far _ p _ _ (hne 3)).trans q3, (World.cell?_setCell_far _ p _ _ (hne 4)).trans q4, (World.cell?_setCell_far _ p _ _ (hne 5)).trans q5, (World.cell?_setCell_far _ p _ _ (hne 6)).trans q6⟩, RdE.far hp h5⟩⟩
theorem load_ex {w : World} {g : Nat} {x0 x1 x2 x3 x4 x5 x6 : Value} (h : Own w g 43 #[x0, x1, x2, x3, x4, x5, x6]) : (loadVar 43 ⟨g, 0, none⟩).run Try.prog w = .ok (.agg #[x0, x1, x2, x3, x4, x5, x6]) w :=
  run_loadVar_row w g 43 43 #[x0, x1, x2, x3, x4, x5, x6] (0, 0) _ h Try.underlying43 rfl (by kernel_rfl)
/-- A tree in new memory is returned. -/
def RetX (w : World) (d : Nat) (r : Ex) (e : Ending) (w' : World) : Prop := ∃ u, e = .returned (exV r u) ∧ RdE w' w.heap.size w'.heap.size d u r.args ∧ Below w.heap.size w w'
end Go.Proofs.Ytjdbjnmnihnmhaa
