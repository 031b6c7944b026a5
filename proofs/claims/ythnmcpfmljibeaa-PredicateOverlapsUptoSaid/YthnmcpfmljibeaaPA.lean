import Derived.Test.YthnmcpfmljibeaaQX
import Derived.Test.YthnmcpfmljibeaaMC
import Derived.WalkKit
import Derived.WalkSpells
import Derived.WalkLawsBesides
import Derived.Deep.QuietTactic
import Derived.BigQuiet
import Derived.Handy
import Derived.Lib.Hide
import Derived.Maps.Keyed
import Derived.Test.YthnmcpfmljibeaaQM
/-
  What the functions of predicate answer: conjuncts, conditions, equations, intervals. Conditions: none.
-/
namespace Go.Proofs.Ythnmcpfmljibeaa
set_option maxRecDepth 100000
set_option linter.unusedVariables false
set_option linter.unusedSimpArgs false
open Go.RowKit

/-- An expression is well-formed in itself. -/
def wfX (e : Ex) : Bool := wfE e.op e.n e.v.1 e.v.2.1 e.v.2.2 e.nm e.args.length
/-- The conjuncts of an expression. -/
def conjE : Nat → Ex → List Ex
  | 0, _ => []
  | d + 1, e => if e.op = 5 ∧ wfX e = true then e.args.flatMap (conjE d) else [e]
theorem conjE_leaf (d : Nat) (e : Ex) (h : ¬ (e.op = 5 ∧ wfX e = true)) : conjE (d + 1) e = [e] := by
  unfold conjE
  rw [if_neg h]
theorem conjE_and (d : Nat) (e : Ex) (h : e.op = 5 ∧ wfX e = true) : conjE (d + 1) e = e.args.flatMap (conjE d) := by
  conv => lhs; unfold conjE
  rw [if_pos h]
/-- A condition: an operator, a column, a value. -/
structure Cnd where
  op : Int
  col : Int
  v : Vl
def cmqO (op : Int) : Bool := op == 7 || op == 9 || op == 10 || op == 11 || op == 12
def mirO (op : Int) : Int := if op = 9 then 11 else if op = 10 then 12 else if op = 11 then 9 else if op = 12 then 10 else op
/-- The condition that a column c and another expression x state. -/
def cndO (op : Int) (c x : Ex) : Option Cnd := if c.op = 2 ∧ x.op = 1 ∧ vldP x.v = true ∧ x.v ≠ nullP then some ⟨op, c.n, x.v⟩ else none
def condE (e : Ex) : Option Cnd :=
  match e.args with
  | [a, b] => if cmqO e.op then (if a.op = 1 then cndO (mirO e.op) b a else cndO e.op a b) else none
  | _ => none
theorem cond_vld {e : Ex} {c : Cnd} (h : condE e = some c) : vldP c.v = true ∧ c.v ≠ nullP := by
  have hc : ∀ op a b, cndO op a b = some c → vldP c.v = true ∧ c.v ≠ nullP := fun op a b h => by
    unfold cndO at h
    split at h
    · rename_i h1
      injection h with h
      subst h
      exact ⟨h1.2.2.1, h1.2.2.2⟩
    · cases h
  unfold condE at h
  split at h
  · split at h
    · split at h
      · exact hc _ _ _ h
      · exact hc _ _ _ h
    · cases h
  · cases h
/-- An interval of values: its ends, whether they are left out, and whether it is impossible. -/
structure Itv where
  lo : Vl
  ls : Bool
  hi : Vl
  hs : Bool
  im : Bool
def btw (a b : Vl) : Itv := ⟨a, false, b, false, false⟩
def itI (a b : Int) : Itv := btw (intP a) (intP b)
def allI (k : Int) : Itv := if k = 1 then itI (-1125899906842624) 1125899906842624 else if k = 3 then btw (booP false) (booP true) else btw (txtP ⟨#[]⟩) (2, 0, ⟨#[127]⟩)
def empI (i : Itv) : Bool := i.im || decide (0 < cmpP i.lo i.hi) || decide (cmpP i.lo i.hi = 0) && (i.ls || i.hs)
def abvI (i : Itv) (b : Vl) (s : Bool) : Itv := if 0 < cmpP b i.lo ∨ cmpP b i.lo = 0 ∧ s = true then { i with lo := b, ls := s } else i
def blwI (i : Itv) (b : Vl) (s : Bool) : Itv := if cmpP b i.hi < 0 ∨ cmpP b i.hi = 0 ∧ s = true then { i with hi := b, hs := s } else i
def beyI (v : Vl) (st : Int) : Vl × Bool := if v.1 = 2 then (v, true) else ((v.1, v.2.1 + st, v.2.2), false)
def narI (i : Itv) (c : Cnd) : Itv :=
  if c.v.1 ≠ i.lo.1 then { i with im := true }
  else if c.op = 7 then blwI (abvI i c.v false) c.v false
  else if c.op = 11 then abvI i (beyI c.v 1).1 (beyI c.v 1).2
  else if c.op = 12 then abvI i c.v false
  else if c.op = 9 then blwI i (beyI c.v (-1)).1 (beyI c.v (-1)).2
  else blwI i c.v false
/-- The window of conditions: the bounds of a period, and whether there is one. -/
def vldW (p : Int × Int) : Bool := decide (0 ≤ p.1) && decide (p.1 < p.2) && decide (p.2 ≤ 1099511627776)
def winB (s t : Itv) : (Int × Int) × Bool :=
  if empI s = true ∨ empI t = true ∨ vldW (s.lo.2.1, t.hi.2.1) = false then ((0, 0), false)
  else if vldW (s.hi.2.1, t.lo.2.1) = true then ((s.hi.2.1, t.lo.2.1), true) else ((s.lo.2.1, t.hi.2.1), true)
def onC (l : List Cnd) (c : Int) : List Cnd := l.filter fun x => x.col == c
def winE (l : List Cnd) (f t : Int) : (Int × Int) × Bool := winB ((onC l f).foldl narI (itI 0 1099511627775)) ((onC l t).foldl narI (itI 1 1099511627776))
/-- Does a conjunct alone exclude every row? -/
def nevA (e : Ex) : Bool := e.op == 1 && (truP (evE [] 1 e) != 2)
/-- The intervals of columns after some conditions, and whether one of them has become empty. -/
def nevS (s : (Int → Option Itv) × Bool) (c : Cnd) : (Int → Option Itv) × Bool :=
  (fun k => if k = c.col then some (narI ((s.1 c.col).getD (allI c.v.1)) c) else s.1 k, s.2 || empI (narI ((s.1 c.col).getD (allI c.v.1)) c))
def nevE (cs : List Ex) : Bool := ((cs.filterMap condE).foldl nevS ((fun _ => none), cs.any nevA)).2
end Go.Proofs.Ythnmcpfmljibeaa
/-
  A map that a call keeps, from numbers to intervals. Conditions: the numbers are those of an int.
-/
namespace Go.Proofs.Ythnmcpfmljibeaa
set_option maxRecDepth 100000
set_option linter.unusedVariables false
set_option linter.unusedSimpArgs false
open Go.RowKit Go.ChangeShapes Go.WideShapes Go.MapKept Go.ChangeMaps Go.WideElems
open Go.Maps (Keyed int_keyed keyOf_int_mk)

/-- The struct that stands for an interval. -/
def itvV (i : Itv) : Value := .agg #[.int .i64 i.lo.1, .int .i64 i.lo.2.1, .string i.lo.2.2, .bool i.ls, .int .i64 i.hi.1, .int .i64 i.hi.2.1, .string i.hi.2.2, .bool i.hs, .bool i.im]
def zeroI : Itv := ⟨nullP, false, nullP, false, false⟩
/-- The map in block b holds M. -/
def MapI (w : World) (b : Nat) (M : Int → Option Itv) : Prop :=
  ∃ (es : Array MapEntry) (clock : Nat), w.heap[b]? = some (.map es clock) ∧ (∀ x ∈ es.toList, ∃ (s : Int) (i : Itv), x.key = .int .i64 s ∧ (Lit.int .i64 s).wf = true ∧ M s = some i ∧ x.val = itvV i) ∧
    (∀ s i, M s = some i → ∃ x ∈ es.toList, x.key = .int .i64 s) ∧ (es.toList.map (·.key)).Nodup
theorem MapI.lt {w : World} {b : Nat} {M : Int → Option Itv} (h : MapI w b M) : b < w.heap.size := by
  obtain ⟨es, c, h1, _⟩ := h
  exact (Array.getElem?_eq_some_iff.1 h1).1
theorem MapI.below {B : Nat} {w w' : World} {b : Nat} {M : Int → Option Itv} (h : MapI w b M) (hb : Below B w w') (hg : b < B) : MapI w' b M := by
  obtain ⟨es, c, h1, h2⟩ := h
  exact ⟨es, c, (hb.block b hg).trans h1, h2⟩
theorem MapI.new (w : World) : MapI (w.alloc (.map #[] 0)) w.heap.size (fun _ => none) := ⟨#[], 0, heap_alloc_new w _, fun x h => by simp at h, fun s i h => by simp at h, by simp⟩
theorem lawI : Keyed Try.prog 3 := int_keyed Try.underlying3
theorem nodup_at {es : List MapEntry} (h : (es.map (·.key)).Nodup) {m j : Nat} {x y : MapEntry} (hm : es[m]? = some x) (hj : es[j]? = some y) (hk : x.key = y.key) : m = j := by
  have h1 : (es.map (·.key))[m]? = some x.key := by rw [List.getElem?_map, hm]; rfl
  have h2 : (es.map (·.key))[j]? = some y.key := by rw [List.getElem?_map, hj]; rfl
  rw [hk] at h1
  have hm1 := (List.getElem?_eq_some_iff.1 h1).1
  exact (List.getElem?_inj hm1 h).1 (h1.trans h2.symm)
set_option maxHeartbeats 1600000 in
theorem MapI.look {w : World} {b : Nat} {M : Int → Option Itv} (h : MapI w b M) (s : Int) (hs : (Lit.int .i64 s).wf = true) :
    (Instr.lookup 97 (.map (some b)) (.int .i64 s) true).run Try.prog w = .ok (.tuple #[itvV ((M s).getD zeroI), .bool (M s).isSome]) w := by
  obtain ⟨es, c, hb, h1, h2, hnd⟩ := h
  have hkey := keyOf_int_mk (P := Try.prog) Try.underlying3 hs
  have hz : (zeroValue 70).run Try.prog w = .ok (itvV zeroI) w := rfl
  have hks : ∀ e ∈ es.toList, ∃ l, keyOf Try.prog 3 e.key = some l := fun e he => by
    obtain ⟨s2, i2, e1, e2, _⟩ := h1 e he
    rw [e1]
    exact ⟨_, keyOf_int_mk Try.underlying3 e2⟩
  rcases lawI.find w hkey es.toList hks with ⟨f1, f2⟩ | ⟨j, e0, f1, f2, f3⟩
  · have hn : M s = none := by
      cases hm : M s with
      | none => rfl
      | some i => obtain ⟨x, hx, hx2⟩ := h2 _ _ hm; exact absurd hx2 (f2 x hx)
    rw [hn]
    simp [Instr.lookup, run_underlying Try.underlying97, MapKept.run_getObj_map hb, lawI.check w _ hkey, f1, hz, Result.andThen]
  · have hm0 : e0 ∈ es.toList := List.mem_of_getElem? f2
    obtain ⟨s2, i2, e1, e2, e3, e4⟩ := h1 e0 hm0
    rw [f3] at e1
    injection e1 with _ e1
    subst e1
    rw [e3]
    simp [Instr.lookup, run_underlying Try.underlying97, MapKept.run_getObj_map hb, lawI.check w _ hkey, f1, e4, Result.andThen]
set_option maxHeartbeats 3200000 in
theorem MapI.put {w : World} {b : Nat} {M : Int → Option Itv} (h : MapI w b M) (s : Int) (hs : (Lit.int .i64 s).wf = true) (i : Itv) :
    ∃ w', (Instr.mapUpdate 97 (.map (some b)) (.int .i64 s) (itvV i)).run Try.prog w = .ok () w' ∧ MapI w' b (fun k => if k = s then some i else M k) ∧ w.grownBy w' (some b) ∧ w'.heap.size = w.heap.size := by
  have hlt := h.lt
  obtain ⟨es, c, hb, h1, h2, hnd⟩ := h
  have hkey := keyOf_int_mk (P := Try.prog) Try.underlying3 hs
  have hks : ∀ e ∈ es.toList, ∃ l, keyOf Try.prog 3 e.key = some l := fun e he => by
    obtain ⟨s2, i2, e1, e2, _⟩ := h1 e he
    rw [e1]
    exact ⟨_, keyOf_int_mk Try.underlying3 e2⟩
  have hgr : ∀ o, w.grownBy (setBlock w b o) (some b) := fun o => by
    refine ⟨rfl, rfl, rfl, ?_, ?_⟩
    · unfold setBlock; simp
    · intro i hi hne
      have hne2 : b ≠ i := fun e => hne (by rw [e])
      unfold setBlock
      simp [hne2]
  rcases lawI.find w hkey es.toList hks with ⟨f1, f2⟩ | ⟨j, e0, f1, f2, f3⟩
  · have hn : M s = none := by
      cases hm : M s with
      | none => rfl
      | some i => obtain ⟨x, hx, hx2⟩ := h2 _ _ hm; exact absurd hx2 (f2 x hx)
    refine ⟨setBlock w b (.map (es.push ⟨.int .i64 s, itvV i, c⟩) (c + 1)), ?_, ⟨es.push ⟨.int .i64 s, itvV i, c⟩, c + 1, ?_, ?_, ?_, ?_⟩, hgr _, ?_⟩
    · simp [Instr.mapUpdate, run_underlying Try.underlying97, MapKept.run_getObj_map hb, lawI.check w false hkey, f1, MapKept.run_setObj_map _ hb, Result.andThen, setBlock]
    · unfold setBlock
      simp [hlt]
    · intro x hx
      simp only [Array.toList_push, List.mem_append, List.mem_singleton] at hx
      rcases hx with hx | rfl
      · obtain ⟨s2, i2, e1, e2, e3, e4⟩ := h1 x hx
        refine ⟨s2, i2, e1, e2, ?_, e4⟩
        show (if s2 = s then some i else M s2) = some i2
        rw [if_neg]
        · exact e3
        · rintro rfl
          rw [hn] at e3
          cases e3
      · exact ⟨s, i, rfl, hs, if_pos rfl, rfl⟩
    · intro s2 i2 hs2
      replace hs2 : (if s2 = s then some i else M s2) = some i2 := hs2
      by_cases e : s2 = s
      · subst e
        exact ⟨⟨.int .i64 s2, itvV i, c⟩, by simp, rfl⟩
      · rw [if_neg e] at hs2
        obtain ⟨x, hx, hx2⟩ := h2 s2 i2 hs2
        exact ⟨x, by simp [hx], hx2⟩
    · simp only [Array.toList_push, List.map_append, List.map_cons, List.map_nil]
      rw [List.nodup_append]
      refine ⟨hnd, by simp, ?_⟩
      intro a ha b2 hb2
      rw [List.mem_singleton] at hb2
      subst hb2
      obtain ⟨x, hx, rfl⟩ := List.mem_map.1 ha
      exact f2 x hx
    · unfold setBlock; simp
  · have hm0 : e0 ∈ es.toList := List.mem_of_getElem? f2
    have hf2 : es[j]? = some e0 := by rw [← Array.getElem?_toList]; exact f2
    have hlist : (es.modify j fun e => ⟨.int .i64 s, itvV i, e.born⟩).toList = es.toList.modify j fun e => ⟨.int .i64 s, itvV i, e.born⟩ := Array.toList_modify ..
    refine ⟨setBlock w b (.map (es.modify j fun e => ⟨.int .i64 s, itvV i, e.born⟩) c), ?_, ⟨es.modify j fun e => ⟨.int .i64 s, itvV i, e.born⟩, c, ?_, ?_, ?_, ?_⟩, hgr _, ?_⟩
    · simp [Instr.mapUpdate, Instr.keyThatStays, run_underlying Try.underlying97, MapKept.run_getObj_map hb, lawI.check w false hkey, f1, hf2, f3, Instr.sameBits, MapKept.run_setObj_map _ hb, Result.andThen, setBlock]
    · unfold setBlock
      simp [hlt]
    · intro x hx
      rw [hlist] at hx
      obtain ⟨m, hm⟩ := List.mem_iff_getElem?.1 hx
      rw [List.getElem?_modify] at hm
      cases hem : es.toList[m]? with
      | none => rw [hem] at hm; simp at hm
      | some y =>
        rw [hem] at hm
        by_cases hjm : j = m
        · subst hjm
          simp at hm
          subst hm
          exact ⟨s, i, rfl, hs, if_pos rfl, rfl⟩
        · simp [hjm] at hm
          subst hm
          obtain ⟨s2, i2, e1, e2, e3, e4⟩ := h1 y (List.mem_of_getElem? hem)
          refine ⟨s2, i2, e1, e2, ?_, e4⟩
          show (if s2 = s then some i else M s2) = some i2
          rw [if_neg]
          · exact e3
          · rintro rfl
            exact hjm (nodup_at hnd hem f2 (e1.trans f3.symm)).symm
    · intro s2 i2 hs2
      replace hs2 : (if s2 = s then some i else M s2) = some i2 := hs2
      rw [hlist]
      by_cases e : s2 = s
      · subst e
        refine ⟨⟨.int .i64 s2, itvV i, e0.born⟩, List.mem_iff_getElem?.2 ⟨j, ?_⟩, rfl⟩
        rw [List.getElem?_modify, f2]
        simp
      · rw [if_neg e] at hs2
        obtain ⟨x, hx, hx2⟩ := h2 s2 i2 hs2
        obtain ⟨m, hm⟩ := List.mem_iff_getElem?.1 hx
        refine ⟨x, List.mem_iff_getElem?.2 ⟨m, ?_⟩, hx2⟩
        have hjm : j ≠ m := by
          rintro rfl
          rw [f2] at hm
          injection hm with hm
          subst hm
          rw [hx2] at f3
          injection f3 with _ f3
          exact e f3
        rw [List.getElem?_modify, hm]
        simp [hjm]
    · rw [hlist]
      have hk : (es.toList.modify j fun e => ⟨.int .i64 s, itvV i, e.born⟩).map (·.key) = es.toList.map (·.key) := by
        apply List.ext_getElem?
        intro m
        rw [List.getElem?_map, List.getElem?_map, List.getElem?_modify]
        by_cases hjm : j = m
        · subst hjm
          rw [f2]
          simp [f3]
        · simp [hjm]
      rw [hk]
      exact hnd
    · unfold setBlock; simp
end Go.Proofs.Ythnmcpfmljibeaa
/-
  Over nulls as arguments, Check objects to what is not well-formed in itself, and to columns. Conditions: none.
-/
namespace Go.Proofs.Ythnmcpfmljibeaa
set_option maxRecDepth 100000
set_option linter.unusedVariables false
set_option linter.unusedSimpArgs false
open Go.RowKit

/-- The null as an expression. -/
def nulX : Ex := ⟨1, 0, nullP, ⟨#[]⟩, []⟩
theorem nulX_knd (d : Nat) : kndE [] (d + 1) nulX = (0, 0) := by
  have h : exK nulX 0 = 0 := by simp [exK, chkE, wfE, knw, opLo, opHi, fldE, nulX, nullP, Va.vldV, Va.emp]
  unfold kndE
  rw [if_neg (by rw [show (([] : List Int).length : Int) = 0 from rfl, h]; simp), if_neg (by simp [nulX, ersK]), if_pos (by simp [nulX])]
  rfl
theorem nul_ers (d : Nat) : ∀ n, ersK (kndE [] (d + 1)) (List.replicate n nulX) = 0
  | 0 => rfl
  | n + 1 => by
    rw [List.replicate_succ]
    unfold ersK
    rw [nulX_knd, if_pos rfl, nul_ers d n]
theorem joinK_nul : ∀ (n : Nat) (r : Int), joinK r (List.replicate n 0) = some r
  | 0, r => rfl
  | n + 1, r => by
    rw [List.replicate_succ]
    unfold joinK
    rw [if_pos rfl, joinK_nul n r]
theorem allK_nul (k : Int) (n : Nat) : allK k (List.replicate n 0) = true := by
  unfold allK
  rw [List.all_replicate]
  simp
/-- The expression over nulls. -/
def ofNul (e : Ex) : Ex := ⟨e.op, e.n, e.v, e.nm, List.replicate e.args.length nulX⟩
theorem ofNul_dep (e : Ex) : depE 2 (ofNul e) ≤ 2 := depE_le 2 _
theorem resG_nul {op n k m : Int} {s nm : ByteArray} {l : Nat} (h : wfE op n k m s nm l = true) (h1 : op ≠ 1) (h2 : op ≠ 2) : (resG op (List.replicate l 0)).2 = 0 := by
  have hk : knw op = true := by unfold wfE at h; simp only [Bool.and_eq_true] at h; exact h.1.1.1
  by_cases h22 : op = 22
  · subst h22
    have hl := wf_if h
    subst hl
    decide
  · have hR : resG op (List.replicate l 0) = resT (opAr op) (opRs op) (List.replicate l 0) := by unfold resG; rw [if_neg h22]
    rw [hR]
    by_cases ha : opAr op = 0
    · rw [ha, resT_any, joinK_nul]
      rfl
    · by_cases hr : opRs op = 0
      · exfalso
        unfold knw at hk
        unfold opAr at ha
        unfold opRs at hr
        simp only [Bool.or_eq_true, beq_iff_eq] at hk
        rcases hk with hk
        rcases (by omega : op = 1 ∨ op = 2 ∨ op = 4 ∨ op = 5 ∨ op = 6 ∨ op = 7 ∨ op = 8 ∨ op = 9 ∨ op = 10 ∨ op = 11 ∨ op = 12 ∨ op = 13 ∨ op = 14 ∨ op = 15 ∨ op = 16 ∨ op = 17 ∨ op = 18 ∨ op = 19 ∨ op = 20 ∨ op = 21 ∨ op = 22 ∨ op = 23 ∨ op = 24) with rfl | rfl | rfl | rfl | rfl | rfl | rfl | rfl | rfl | rfl | rfl | rfl | rfl | rfl | rfl | rfl | rfl | rfl | rfl | rfl | rfl | rfl | rfl <;> simp at ha hr
      · rw [resT_to _ _ ha hr, allK_nul]
        rfl
theorem wf_chk (e : Ex) : ((chkT [] 2 (ofNul e)).2 = 0 ∨ (chkT [] 2 (ofNul e)).2 = 13) ↔ wfX e = true := by
  unfold chkT
  rw [if_neg (by have := ofNul_dep e; omega)]
  unfold kndE
  have hx : exK (ofNul e) (([] : List Int).length : Int) = chkE e.op e.n e.v.1 e.v.2.1 e.v.2.2 e.nm e.args.length 0 := by unfold exK ofNul; simp
  rw [hx]
  cases hk : knw e.op
  · have hw : wfX e = false := by unfold wfX wfE; simp [hk]
    unfold chkE
    simp [hw, hk]
  · cases hw : wfX e
    · have hw' := hw
      unfold wfX at hw'
      unfold chkE
      simp [hk, hw']
    · have hw' := hw
      unfold wfX at hw'
      have hc : chkE e.op e.n e.v.1 e.v.2.1 e.v.2.2 e.nm e.args.length 0 = if e.op = 2 ∧ idxB e.n 0 = false then 13 else 0 := by
        unfold chkE
        rw [if_neg (by simp [hk]), if_neg (by simp [hw'])]
      rw [hc]
      by_cases h2 : e.op = 2 ∧ idxB e.n 0 = false
      · rw [if_pos h2]
        simp
      · rw [if_neg h2, if_neg (by simp), show (ofNul e).args = List.replicate e.args.length nulX from rfl, nul_ers 0, if_neg (by simp)]
        by_cases h1 : e.op = 1
        · rw [if_pos (show (ofNul e).op = 1 from h1)]
          simp
        · rw [if_neg (show ¬ (ofNul e).op = 1 from h1)]
          by_cases h3 : e.op = 2
          · rw [if_pos (show (ofNul e).op = 2 from h3)]
            simp
          · rw [if_neg (show ¬ (ofNul e).op = 2 from h3), List.map_replicate, nulX_knd]
            have := resG_nul hw' h1 h3
            show ((resG e.op (List.replicate e.args.length 0)).2 = 0 ∨ _) ↔ _
            simp [this]
end Go.Proofs.Ythnmcpfmljibeaa
