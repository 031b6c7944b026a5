import Derived.Test.YteihjneeiojgaaaME
import Derived.Test.YteihjneeiojgaaaMC
import Derived.WalkKit
import Derived.WalkSpells
import Derived.WalkLawsBesides
import Derived.Deep.QuietTactic
import Derived.BigQuiet
import Derived.Handy
import Derived.Lib.Hide
import Derived.Test.YteihjneeiojgaaaMV
import Derived.Test.YteihjneeiojgaaaMT
import Derived.Deep.AppendLies
/-
  Trees that a call makes: rows of expressions in new memory. Conditions: lengths.
-/
namespace Go.Proofs.Yteihjneeiojgaaa
set_option maxRecDepth 100000
set_option linter.unusedVariables false
set_option linter.unusedSimpArgs false
open Go.RowKit

/-- An expression with the slice of its arguments. -/
abbrev ExU := Ex × Value
def exL (p : ExU) : List Value := [.int .i64 p.1.op, .int .i64 p.1.n, .int .i64 p.1.v.1, .int .i64 p.1.v.2.1, .string p.1.v.2.2, .string p.1.nm, p.2]
def flatE : List ExU → List Value
  | [] => []
  | p :: t => exL p ++ flatE t
theorem flatE_append : ∀ a b : List ExU, flatE (a ++ b) = flatE a ++ flatE b
  | [], b => rfl
  | p :: t, b => by
    show exL p ++ flatE (t ++ b) = (exL p ++ flatE t) ++ flatE b
    rw [flatE_append t b, List.append_assoc]
theorem exL_len (p : ExU) : (exL p).length = 7 := rfl
theorem flatE_len : ∀ a : List ExU, (flatE a).length = a.length * 7
  | [] => rfl
  | p :: t => by
    show (exL p ++ flatE t).length = _
    rw [List.length_append, flatE_len t, exL_len, List.length_cons]
    omega
theorem flatE_get (ps : List ExU) (k : Nat) (p : ExU) (h : ps[k]? = some p) (j : Nat) (hj : j < 7) : (flatE ps)[k * 7 + j]? = (exL p)[j]? := by
  obtain ⟨hk, rfl⟩ := List.getElem?_eq_some_iff.1 h
  have e : ps = ps.take k ++ ps[k] :: ps.drop (k + 1) := by rw [List.getElem_cons_drop, List.take_append_drop]
  have e2 : flatE ps = flatE (ps.take k) ++ (exL ps[k] ++ flatE (ps.drop (k + 1))) := by
    conv => lhs; rw [e]
    rw [flatE_append]
    rfl
  have hl : (flatE (ps.take k)).length = k * 7 := by rw [flatE_len, List.length_take]; omega
  rw [e2, List.getElem?_append_right (by omega), hl, show k * 7 + j - k * 7 = j by omega, List.getElem?_append_left (by rw [exL_len]; exact hj)]
def zX : ExU := (⟨0, 0, (0, 0, ⟨#[]⟩), ⟨#[]⟩, []⟩, .slice none 0 0)
/-- The cells of n expressions of which those of ps are set. -/
def rowE (ps : List ExU) (n : Nat) : Array Value := (flatE (ps ++ List.replicate (n - ps.length) zX)).toArray
theorem rowE_next (ps : List ExU) (n : Nat) (h : ps.length < n) (j : Nat) (hj : j < 7) : (rowE ps n)[ps.length * 7 + j]? = (exL zX)[j]? := by
  unfold rowE
  rw [List.getElem?_toArray]
  refine flatE_get _ _ _ ?_ j hj
  rw [List.getElem?_append_right (Nat.le_refl _), Nat.sub_self, List.getElem?_replicate, if_pos (by omega)]
theorem set7 (a : List Value) (x0 x1 x2 x3 x4 x5 x6 y0 y1 y2 y3 y4 y5 y6 : Value) (b : List Value) (i : Nat) (h : a.length = i) :
    (((((((a ++ ([x0, x1, x2, x3, x4, x5, x6] ++ b)).set i y0).set (i + 1) y1).set (i + 2) y2).set (i + 3) y3).set (i + 4) y4).set (i + 5) y5).set (i + 6) y6 = a ++ ([y0, y1, y2, y3, y4, y5, y6] ++ b) := by
  subst h
  have st : ∀ (l : List Value) (j : Nat) (y : Value), (a ++ l).set (a.length + j) y = a ++ l.set j y := fun l j y => by
    rw [List.set_append_right _ _ (by omega), show a.length + j - a.length = j by omega]
  have s0 := st ([x0, x1, x2, x3, x4, x5, x6] ++ b) 0 y0
  rw [Nat.add_zero] at s0
  rw [s0, st, st, st, st, st, st]
  rfl
theorem rowE_set (ps : List ExU) (n : Nat) (p : ExU) (h : ps.length < n) :
    (((((((rowE ps n).setIfInBounds (ps.length * 7) (.int .i64 p.1.op)).setIfInBounds (ps.length * 7 + 1) (.int .i64 p.1.n)).setIfInBounds (ps.length * 7 + 2) (.int .i64 p.1.v.1)).setIfInBounds (ps.length * 7 + 3) (.int .i64 p.1.v.2.1)).setIfInBounds (ps.length * 7 + 4) (.string p.1.v.2.2)).setIfInBounds (ps.length * 7 + 5) (.string p.1.nm)).setIfInBounds (ps.length * 7 + 6) p.2 = rowE (ps ++ [p]) n := by
  unfold rowE
  simp only [List.setIfInBounds_toArray]
  congr 1
  have e : List.replicate (n - ps.length) zX = zX :: List.replicate (n - (ps ++ [p]).length) zX := by
    rw [show n - ps.length = (n - (ps ++ [p]).length) + 1 by rw [List.length_append]; simp; omega]
    rfl
  rw [e, flatE_append, flatE_append, flatE_append, List.append_assoc]
  exact set7 (flatE ps) _ _ _ _ _ _ _ (.int .i64 p.1.op) (.int .i64 p.1.n) (.int .i64 p.1.v.1) (.int .i64 p.1.v.2.1) (.string p.1.v.2.2) (.string p.1.nm) p.2 (flatE (List.replicate (n - (ps ++ [p]).length) zX)) (ps.length * 7) (flatE_len ps)
theorem flatE_rep (z : ExU) : ∀ (n i : Nat), i < n * 7 → (flatE (List.replicate n z))[i]? = (exL z)[i % 7]?
  | 0, i, h => by omega
  | n + 1, i, h => by
    show (exL z ++ flatE (List.replicate n z))[i]? = _
    by_cases hi : i < 7
    · rw [List.getElem?_append_left (by rw [exL_len]; exact hi), Nat.mod_eq_of_lt hi]
    · rw [List.getElem?_append_right (by rw [exL_len]; omega), exL_len, flatE_rep z n (i - 7) (by omega)]
      congr 1
      omega
theorem infoX : (Try.prog.info? 65).map (fun i => (i.zero, i.size, i.bytes)) = some (some (.agg #[.int .i64 0, .int .i64 0, .int .i64 0, .int .i64 0, .string ⟨#[]⟩, .string ⟨#[]⟩, .slice none 0 0]), 7, 88) := by kernel_rfl
theorem made_rowE (W : World) (n : Nat) (hn : n ≤ 1099511627776) :
    (Instr.makeSlice 25 (.int .i64 (n : Nat)) (.int .i64 (n : Nat))).run Try.prog W = .ok (.slice (some ⟨W.heap.size, 0, none⟩) n n) (W.alloc (.cells (rowE [] n) 65)) := by
  obtain ⟨i0, hi, hz0, hz1, hz2⟩ := info_partsB infoX
  have h := run_make (P := Try.prog) (w := W) 25 65 i0 (.agg #[.int .i64 0, .int .i64 0, .int .i64 0, .int .i64 0, .string ⟨#[]⟩, .string ⟨#[]⟩, .slice none 0 0]) Try.underlying25 hi hz0 .i64 .i64 (n : Int) (n : Int) (by omega) (Int.le_refl _) (by rw [hz2]; omega) (by omega)
  rw [h, Int.toNat_natCast, hz1]
  have hr : madeCells (Value.agg #[.int .i64 0, .int .i64 0, .int .i64 0, .int .i64 0, .string ⟨#[]⟩, .string ⟨#[]⟩, .slice none 0 0]).cells (n * 7) = rowE [] n := by
    unfold rowE
    rw [List.nil_append, List.length_nil, Nat.sub_zero]
    unfold madeCells
    apply Array.ext
    · simp [flatE_len]
    · intro i h1 h2
      have h3 : i < n * 7 := by simpa using h1
      have h4 := flatE_rep zX n i h3
      have h5 : i % 7 < 7 := Nat.mod_lt _ (by decide)
      rw [← List.getElem?_toArray, Array.getElem?_eq_getElem h2] at h4
      have h6 : (exL zX)[i % 7]? = some ((exL zX)[i % 7]'(by rw [exL_len]; exact h5)) := List.getElem?_eq_getElem _
      rw [h6] at h4
      injection h4 with h4
      rw [h4]
      simp [Value.cells]
      show ((exL zX)[i % 7]?).getD default = _
      rw [h6]
      rfl
  rw [hr]
theorem addX (g j : Nat) : (⟨g, 0, none⟩ : Addr).add j = ⟨g, j, none⟩ := by
  unfold Addr.add
  split <;> simp_all
/-- What lies in a row of the call's own reads as trees, if the arguments do. -/
theorem rdE_row {w : World} {g L d c : Nat} {ps : List ExU} (h : Own w g 65 (flatE ps).toArray) (hg : L ≤ g) (hl : ps.length ≤ 1099511627776) (hr : ∀ p ∈ ps, RdE w L w.heap.size d p.2 p.1.args) :
    RdE w L w.heap.size (d + 1) (.slice (some ⟨g, 0, none⟩) ps.length c) (ps.map (·.1)) := by
  refine ⟨some ⟨g, 0, none⟩, c, by rw [List.length_map], by rw [List.length_map]; exact hl, fun k e hk => ?_⟩
  rw [List.getElem?_map] at hk
  obtain ⟨p, hp, rfl⟩ := Option.map_eq_some_iff.1 hk
  refine ⟨⟨g, 0, none⟩, p.2, rfl, hg, h.lt, ?_, hr p (List.mem_of_getElem? hp)⟩
  rw [addX]
  have G := fun j hj => (h.cell (k * 7 + j)).trans ((List.getElem?_toArray ..).trans (flatE_get ps k p hp j hj))
  exact ⟨G 0 (by decide), G 1 (by decide), G 2 (by decide), G 3 (by decide), G 4 (by decide), G 5 (by decide), G 6 (by decide)⟩
theorem rowE_all (ps : List ExU) : rowE ps ps.length = (flatE ps).toArray := by
  unfold rowE
  rw [Nat.sub_self]
  simp
/-- A store into a block below the tree's. -/
theorem RdE.far {w : World} {L B : Nat} {p : Addr} {v : Value} (hp : p.block < L) : ∀ {d : Nat} {u : Value} {es : List Ex}, RdE w L B d u es → RdE (w.setCell p v) L B d u es
  | 0, _, _, h => h
  | d + 1, u, es, ⟨A, c, hv, hl, hc⟩ => ⟨A, c, hv, hl, fun k e hk => by
      obtain ⟨ad, x, h1, h2, h3, h4, h5⟩ := hc k e hk
      have hne : ∀ i, p.block ≠ (⟨(ad.add (k * 7)).block, (ad.add (k * 7)).off + i, none⟩ : Addr).block := fun i => by show p.block ≠ (ad.add (k * 7)).block; rw [add_blk]; omega
      obtain ⟨q0, q1, q2, q3, q4, q5, q6⟩ := h4
      exact ⟨ad, x, h1, h2, h3, ⟨(World.cell?_setCell_far w p (ad.add (k * 7)) v (by rw [add_blk]; omega)).trans q0, (World.cell?_setCell_far _ p _ _ (hne 1)).trans q1, (World.cell?_setCell_far _ p _ _ (hne 2)).trans q2, (World.cell?_setCell_far _ p _ _ (hne 3)).trans q3, (World.cell?_setCell_far _ p _ _ (hne 4)).trans q4, (World.cell?_setCell_far _ p _ _ (hne 5)).trans q5, (World.cell?_setCell_far _ p _ _ (hne 6)).trans q6⟩, RdE.far hp h5⟩⟩
theorem load_ex {w : World} {g : Nat} {x0 x1 x2 x3 x4 x5 x6 : Value} (h : Own w g 65 #[x0, x1, x2, x3, x4, x5, x6]) : (loadVar 65 ⟨g, 0, none⟩).run Try.prog w = .ok (.agg #[x0, x1, x2, x3, x4, x5, x6]) w :=
  run_loadVar_row w g 65 65 #[x0, x1, x2, x3, x4, x5, x6] (0, 0) _ h Try.underlying65 rfl (by kernel_rfl)
/-- A tree in new memory is returned. -/
def RetX (w : World) (d : Nat) (r : Ex) (e : Ending) (w' : World) : Prop := ∃ u, e = .returned (exV r u) ∧ RdE w' w.heap.size w'.heap.size d u r.args ∧ Below w.heap.size w w'
end Go.Proofs.Yteihjneeiojgaaa
/-
  withArgs over a function that is handed to it: a tree in new memory. Conditions: lengths.
-/
namespace Go.Proofs.Yteihjneeiojgaaa
set_option maxRecDepth 100000
set_option linter.unusedVariables false
set_option linter.unusedSimpArgs false
open Go.RowKit

end Go.Proofs.Yteihjneeiojgaaa
/-
  The columns of a tree, gathered by visit and its closure. Conditions: lengths, a bounded depth.
-/
namespace Go.Proofs.Yteihjneeiojgaaa
set_option maxRecDepth 100000
set_option linter.unusedVariables false
set_option linter.unusedSimpArgs false
open Go.RowKit

def colH (e : Ex) : List Int := if e.op = 2 then [e.n] else []
/-- The columns of a tree, in the order of the visit. -/
def colE : Nat → Ex → List Int
  | 0, _ => []
  | d + 1, e => colH e ++ e.args.flatMap (colE d)
theorem append_iL {ops : Array Oper} {rest : List Oper} {o : Oper} {a : Act} {Q : Exit → Act → World → Prop} (W : World) (hgd : o.guard = none) (s x : Operand)
    (ho : o.op = .call { callee := .builtin .append, args := #[s, x], argTypes := #[23, 23] }) (base : Nat) (vb : Value) (zs : List Int) (hs : a.eval s = vb)
    (hown : W.ownsRow base 3 1 vb zs.length (intsV zs)) (h0 c : Nat) (z : Int) (hx : a.eval x = .slice (some ⟨h0, 0, none⟩) 1 c) (hcell : W.cell? ⟨h0, 0, none⟩ = some (.int .i64 z))
    (hl : zs.length ≤ 1099511627776) (hbase : base ≤ W.heap.size)
    (h : ∀ g cap w', w'.ownsRow base 3 1 (.slice (some ⟨g, 0, none⟩) (zs.length + 1) cap) (zs ++ [z]).length (intsV (zs ++ [z])) → W.grownBy w' vb.ownBlock → (vb.ownBlock = some g ∨ g = W.heap.size) → wpList Try.prog ops Q rest (a.put o.dst (.slice (some ⟨g, 0, none⟩) (zs.length + 1) cap)) w') :
    wpList Try.prog ops Q (o :: rest) a W := by
  obtain ⟨i0, hi, hz0, hz1, hz2⟩ := info_partsB infoI
  refine wpList_append_lies W hgd s x 23 ho base 3 i0 (.int .i64 0) 1 8 Try.underlying23 hi hz0 hz1 hz2 rfl (by decide) vb zs.length (intsV zs) hs hown ⟨h0, 0, none⟩ 1 c [.int .i64 z] hx rfl
    ?_ ?_ (by decide) (by unfold maxLen; omega) (by omega) hbase W.heap.size rfl ?_
  · intro j v hj
    have hj0 : j = 0 := by have := (List.getElem?_eq_some_iff.1 hj).1; simp at this; omega
    subst hj0
    have hv : Value.int .i64 z = v := by simpa using hj
    subst hv
    exact hcell
  · intro v hv
    simp at hv
    subst hv
    rfl
  · intro g cap w' h1 h2 h3 _
    exact h g cap w' (by unfold intsV; rw [List.length_append, List.map_append]; exact h1) h2 h3
theorem ownI_far {w : World} {base n : Nat} {v : Value} {xs : List Value} (h : w.ownsRow base 3 1 v n xs) {p : Addr} (hp : p.block < base) (u : Value) : (w.setCell p u).ownsRow base 3 1 v n xs := by
  refine ⟨h.1, ?_⟩
  rcases h.2 with h0 | ⟨g, cap, cur, rfl, hb, hh, hr⟩
  · exact .inl h0
  · exact .inr ⟨g, cap, cur, rfl, hb, (Below.heap_setCell w p u g (by omega)).trans hh, hr⟩
theorem ownI_shape {w : World} {base n : Nat} {v : Value} {xs : List Value} (h : w.ownsRow base 3 1 v n xs) : ∃ Av cv, v = .slice Av n cv := by
  rcases h.2 with ⟨rfl, rfl⟩ | ⟨g, cap, cur, rfl, _⟩
  · exact ⟨_, _, rfl⟩
  · exact ⟨_, _, rfl⟩
theorem Own.grownI {w w' : World} {g : Nat} {t : TypeId} {cs : Array Value} (h : Own w g t cs) {row : Option Nat} (hg : w.grownBy w' row) (hne : row ≠ some g) : Own w' g t cs := by
  have hlt := h.lt
  unfold Own at h ⊢
  rw [hg.block g hlt (fun e => hne e.symm)]
  exact h
theorem own_two2X (W : World) (g : Nat) (hg : W.heap.size = g) (v : Value) : Own (W.alloc (.cells #[v] 3)) g 3 #[v] := by
  subst hg
  exact Own.new W _ _
/-- What the closure leaves: its list in the box g. -/
def RetL (w : World) (g base : Nat) (zs : List Int) (e : Ending) (w' : World) : Prop :=
  e = .returned (.tuple #[]) ∧ ∃ v, Own w' g 23 #[v] ∧ w'.ownsRow base 3 1 v zs.length (intsV zs) ∧ Below g w w'
set_option maxRecDepth 100000 in
set_option maxHeartbeats 6400000 in
theorem pCol1_any (e : Ex) (u : Value) (hu : ∃ A n c, u = .slice A n c) (g base : Nat) (v : Value) (zs : List Int) (W : World) (hg : Own W g 23 #[v]) (hgb : g < base) (hbz : base ≤ W.heap.size)
    (hown : W.ownsRow base 3 1 v zs.length (intsV zs)) (hl : zs.length ≤ 1099511627776) :
    Calls Try.prog 66 #[exV e u, .pointer (some ⟨g, 0, none⟩)] W fun e' w' => RetL W g base (zs ++ colH e) e' w' ∧ ∀ b t cs, Own W b t cs → b ≠ g → v.ownBlock ≠ some b → Own w' b t cs := by
  obtain ⟨A, nn, c, rfl⟩ := hu
  obtain ⟨op, n, ⟨k1, k2, s⟩, nm, es⟩ := e
  obtain ⟨Av, cv, rfl⟩ := ownI_shape hown
  have HG := Lib.hid hg
  have HOWN := Lib.hid hown
  have hgl := hg.lt
  have hgc := hg.cell 0
  have b1 := bel_mk W (.cells #[.int .i64 op, .int .i64 n, .int .i64 k1, .int .i64 k2, .string s, .string nm, .slice A nn c] 65)
  have HB1 := Lib.hid b1
  unfold exV
  dsimp only
  by_cases h2 : op = 2
  · subst h2
    rw [show colH ⟨2, n, (k1, k2, s), nm, es⟩ = [n] from rfl]
    have b2 := bel_mk (W.alloc (.cells #[.int .i64 2, .int .i64 n, .int .i64 k1, .int .i64 k2, .string s, .string nm, .slice A nn c] 65)) (.cells #[.int .i64 n] 3)
    have HG2 := Lib.hid ((hg.alloc (.cells #[.int .i64 2, .int .i64 n, .int .i64 k1, .int .i64 k2, .string s, .string nm, .slice A nn c] 65)).alloc (.cells #[.int .i64 n] 3))
    have HR2 := Lib.hid (own_below (own_below hown b1) b2)
    have HB2 := Lib.hid (HB1.out.trans (b2.mono HB1.out.size))
    have HCU := Lib.hid (show ((W.alloc (.cells #[.int .i64 2, .int .i64 n, .int .i64 k1, .int .i64 k2, .string s, .string nm, .slice A nn c] 65)).alloc (.cells #[.int .i64 n] 3)).cell? ⟨W.heap.size + 1, 0, none⟩ = some (.int .i64 n) from (own_two2X (W.alloc (.cells #[.int .i64 2, .int .i64 n, .int .i64 k1, .int .i64 k2, .string s, .string nm, .slice A nn c] 65)) (W.heap.size + 1) (by simp) (.int .i64 n)).cell 0)
    have HGE := Lib.hid (show ∀ b, (Value.slice Av zs.length cv).ownBlock = some b → base ≤ b from fun b hb => (hown.lt b hb).1)
    clear hown hg b1 b2
    go_enter Try.func66, Try.ntmps66
    go_wp2_with (at_builtin; refine append_iL _ rfl _ _ rfl base _ zs rfl HR2.out (W.heap.size + 1) 1 n rfl HCU.out hl (by have := HB2.out.size; omega) ?_; intro g2 cap2 w2 hr2 hg2 hv2; have hgg := HG2.out.grownI hg2 (fun e => by have := HGE.out g e; omega); have c0 := hgg.cell 0; have k0 := hgg.free 0; have HR3 := Lib.hid hr2; have HG3 := Lib.hid hg2; have HGG := Lib.hid hgg; clear hr2 hg2 hv2 hgg)
    go_end0
    refine ⟨⟨rfl, _, HGG.out.store 0 _, ownI_far HR3.out (by show g < base; exact hgb) _, ?_⟩, fun b t cs ho hne hv => (((ho.alloc _).alloc _).grownI HG3.out hv).far (p := ⟨g, 0, none⟩) hne _⟩
    exact (((HB2.out.mono (Nat.le_of_lt hgl)).grown HG3.out (by have := HB2.out.size; omega) (fun b hb => by have := HGE.out b hb; omega)).setCell (p := ⟨g, 0, none⟩) (Nat.le_refl _) _)
  · rw [show colH ⟨op, n, (k1, k2, s), nm, es⟩ = [] from if_neg h2, List.append_nil]
    have h2b : (op == 2) = false := by rw [beq_eq_false_iff_ne]; exact h2
    have HG1 := Lib.hid (hg.alloc (.cells #[.int .i64 op, .int .i64 n, .int .i64 k1, .int .i64 k2, .string s, .string nm, .slice A nn c] 65))
    have HR1 := Lib.hid (own_below hown b1)
    clear h2 hgc hown hg b1
    go_enter Try.func66, Try.ntmps66
    go_wp2
    go_end0
    exact ⟨⟨rfl, _, HG1.out, HR1.out, HB1.out.mono (Nat.le_of_lt hgl)⟩, fun b t cs ho _ _ => ho.alloc _⟩
theorem flat_take (f : Ex → List Int) (es : List Ex) (k : Nat) (y : Ex) (h : es[k]? = some y) : (es.take (k + 1)).flatMap f = (es.take k).flatMap f ++ f y := by
  rw [List.take_add_one, h, List.flatMap_append]
  simp
set_option maxRecDepth 100000 in
set_option maxHeartbeats 6400000 in
theorem pVisit_any : ∀ (d : Nat) (e : Ex) (u : Value) (g base : Nat) (v : Value) (zs : List Int) (w : World) (L : Nat), RdE w L g d u e.args → Own w g 23 #[v] → g < base → base ≤ w.heap.size →
    w.ownsRow base 3 1 v zs.length (intsV zs) → (zs ++ colE d e).length ≤ 1099511627776 →
    Calls Try.prog 65 #[exV e u, .func (.func 66) #[] #[.pointer (some ⟨g, 0, none⟩)]] w (RetL w g base (zs ++ colE d e))
  | 0, _, _, _, _, _, _, _, _, h, _, _, _, _, _ => h.elim
  | d + 1, e, u, g, base, v, zs, w, L, h, hg, hgb, hbz, hown, hlen => by
    have IH := Lib.hid (pVisit_any d)
    obtain ⟨A, c, rfl, hl, hc⟩ := h
    have HC := Lib.hid hc
    have hsplit : zs ++ colE (d + 1) e = (zs ++ colH e) ++ e.args.flatMap (colE d) := by rw [List.append_assoc]; rfl
    rw [hsplit] at hlen ⊢
    have HLEN := Lib.hid hlen
    have hl0 : zs.length ≤ 1099511627776 := by rw [List.length_append, List.length_append] at hlen; omega
    have b1 := bel_mk w (.cells (exA e (.slice A e.args.length c)) 65)
    have HE1 := Lib.hid (Own.new w 65 (exA e (.slice A e.args.length c)))
    have HC1 := Lib.hid (pCol1_any e (.slice A e.args.length c) ⟨_, _, _, rfl⟩ g base v zs (w.alloc (.cells (exA e (.slice A e.args.length c)) 65)) (hg.alloc _) hgb (Nat.le_trans hbz b1.size) (own_below hown b1) hl0)
    have HB1 := Lib.hid (b1.mono (Nat.le_of_lt hg.lt))
    have HVN := Lib.hid (show v.ownBlock ≠ some w.heap.size from fun e2 => by have := (hown.lt _ e2).2; omega)
    have hgl := hg.lt
    have hgne : w.heap.size ≠ g := by omega
    clear hc hlen hsplit hown hg hl0 b1
    generalize colH e = h1 at *
    unfold exV exA at *
    have e0 := HE1.out.cell 0
    have e1 := HE1.out.cell 1
    have e2 := HE1.out.cell 2
    have e3 := HE1.out.cell 3
    have e4 := HE1.out.cell 4
    have e5 := HE1.out.cell 5
    have e6 := HE1.out.cell 6
    go_enter Try.func65, Try.ntmps65
    go_wp2_with fail
    with_reducible refine HC1.out.mono ?_
    rintro e' w2 ⟨⟨rfl, v2, hg2, hr2, hb2⟩, hkeep⟩
    have hx := hkeep w.heap.size _ _ HE1.out hgne HVN.out
    replace e6 := hx.cell 6
    have HB2 := Lib.hid (HB1.out.trans hb2)
    have HG2 := Lib.hid hg2
    have HR2 := Lib.hid (show w2.ownsRow base 3 1 v2 ((zs ++ h1) ++ (e.args.take 0).flatMap (colE d)).length (intsV ((zs ++ h1) ++ (e.args.take 0).flatMap (colE d))) from by simpa using hr2)
    clear hx hkeep hg2 hr2 hb2 HC1 HE1 HB1 HVN e0 e1 e2 e3 e4 e5
    go_wp2_with fail
    go_loopw [12] (fun i wr => ∃ k : Nat, k ≤ e.args.length ∧ i = .int .i64 k ∧ Hid (∃ v, Own wr g 23 #[v] ∧ wr.ownsRow base 3 1 v ((zs ++ h1) ++ (e.args.take k).flatMap (colE d)).length (intsV ((zs ++ h1) ++ (e.args.take k).flatMap (colE d)))) ∧ Below g w wr) (fun i _ => e.args.length - (intOf i).toNat)
    case atStart => exact ⟨0, Nat.zero_le _, rfl, Lib.hid ⟨v2, HG2.out, HR2.out⟩, HB2.out⟩
    case round =>
      clear HB2 HG2 HR2 e6
      obtain ⟨k, hk, rfl, HQ, hbr⟩ := hrel
      have hbz2 := hbr.size
      obtain ⟨v3, hg3, hr3⟩ := HQ.out
      by_cases hlt : k < e.args.length
      · have hki : (k : Int) < e.args.length := by omega
        obtain ⟨ad, x, rfl, _, hab, hxc, hxr⟩ := HC.out k _ (List.getElem?_eq_getElem hlt)
        have htk := flat_take (colE d) e.args k _ (List.getElem?_eq_getElem hlt)
        have hlk : ((zs ++ h1) ++ (e.args.take (k + 1)).flatMap (colE d)).length ≤ 1099511627776 := by
          have h2 := HLEN.out
          have h3 : (e.args.flatMap (colE d)).length = ((e.args.take (k + 1)).flatMap (colE d)).length + ((e.args.drop (k + 1)).flatMap (colE d)).length := by rw [← List.length_append, ← List.flatMap_append, List.take_append_drop]
          rw [List.length_append] at h2 ⊢
          omega
        rw [htk] at hlk
        generalize e.args[k] = y at *
        obtain ⟨A3, c3, rfl, hl3⟩ := hxr.slice
        obtain ⟨x0, x1, x2, x3, x4, x5, x6⟩ := hxc.below hbr (by rw [add_blk]; exact hab)
        have b2 := bel_mk wr (.cells (exA y (.slice A3 y.args.length c3)) 65)
        have HB3 := Lib.hid (hbr.trans (b2.mono (Nat.le_of_lt hg3.lt)))
        have hcall := IH.out y (.slice A3 y.args.length c3) g base v3 _ (wr.alloc (.cells (exA y (.slice A3 y.args.length c3)) 65)) L (hxr.below HB3.out) (hg3.alloc _) hgb (Nat.le_trans hbz (Nat.le_trans hbz2 b2.size)) (own_below hr3 b2) (by rw [List.append_assoc]; exact hlk)
        rw [List.append_assoc, ← htk] at hcall
        have HCL := Lib.hid hcall
        have HY := Lib.hid (Own.new wr 65 (exA y (.slice A3 y.args.length c3)))
        clear hxc hxr htk hlk b2 hg3 hr3 HQ hcall
        unfold exA at *
        have y0 := HY.out.cell 0
        have y1 := HY.out.cell 1
        have y2 := HY.out.cell 2
        have y3 := HY.out.cell 3
        have y4 := HY.out.cell 4
        have y5 := HY.out.cell 5
        have y6 := HY.out.cell 6
        go_wp2_with fail
        with_reducible refine HCL.out.mono ?_
        rintro e' w4 ⟨rfl, v4, hg4, hr4, hb4⟩
        have HQ4 := Lib.hid (show ∃ v, Own w4 g 23 #[v] ∧ w4.ownsRow base 3 1 v ((zs ++ h1) ++ (e.args.take (k + 1)).flatMap (colE d)).length (intsV ((zs ++ h1) ++ (e.args.take (k + 1)).flatMap (colE d))) from ⟨v4, hg4, hr4⟩)
        have HB4 := Lib.hid (HB3.out.trans hb4)
        clear hg4 hr4 hb4 y0 y1 y2 y3 y4 y5 y6 HCL HY
        go_wp2
        go_roundw
        case rel => exact ⟨k + 1, by omega, by go_num, HQ4, HB4.out⟩
        case measure => simp [intOf]; omega
      · have hki : ¬ (k : Int) < e.args.length := by omega
        have HF := Lib.hid (show ∃ v, Own wr g 23 #[v] ∧ wr.ownsRow base 3 1 v ((zs ++ h1) ++ e.args.flatMap (colE d)).length (intsV ((zs ++ h1) ++ e.args.flatMap (colE d))) from by
          rw [List.take_of_length_le (by omega)] at hr3
          exact ⟨v3, hg3, hr3⟩)
        clear hg3 hr3 HQ
        go_wp2
        go_end0
        obtain ⟨v5, hg5, hr5⟩ := HF.out
        exact ⟨rfl, v5, hg5, by simpa only [List.append_assoc] using hr5, hbr⟩
end Go.Proofs.Yteihjneeiojgaaa
