import Derived.Test.YteihjneeiojgaaaGreatQM
import Derived.Test.YteihjneeiojgaaaGreatMW
import Derived.WalkKit
import Derived.WalkSpells
import Derived.WalkLawsBesides
import Derived.Deep.QuietTactic
import Derived.BigQuiet
import Derived.Handy
import Derived.Lib.Hide
import Derived.Test.YteihjneeiojgaaaGreatSExUa
import Derived.Laws.StructEq
import Derived.Test.YteihjneeiojgaaaGreatMT
import Derived.Test.YteihjneeiojgaaaGreatMB
import Derived.Test.YteihjneeiojgaaaGreatSExUb
import Derived.Laws.OwnMore
/-
  Comparison of expressions, by the program. Conditions: lengths, a bounded depth.
-/
namespace Go.Proofs.YteihjneeiojgaaaGreat
set_option maxRecDepth 100000
set_option linter.unusedVariables false
set_option linter.unusedSimpArgs false
open Go.RowKit

/-- Two lists are the same by f, element by element. -/
def sameL (f : Ex → Ex → Bool) : List Ex → List Ex → Bool
  | [], [] => true
  | a :: l, b :: m => f a b && sameL f l m
  | _, _ => false
/-- The own fields of two expressions are the same. -/
def sameF (a b : Ex) : Bool := (a.op == b.op) && (a.n == b.n) && Va.eqV a.v.1 a.v.2.1 a.v.2.2 b.v.1 b.v.2.1 b.v.2.2 && (a.nm.toList == b.nm.toList)
def sameE : Nat → Ex → Ex → Bool
  | 0, _, _ => true
  | d + 1, a, b => sameF a b && sameL (sameE d) a.args b.args
theorem sameL_len (f : Ex → Ex → Bool) : ∀ l m : List Ex, l.length ≠ m.length → sameL f l m = false
  | [], [], h => absurd rfl h
  | [], _ :: _, _ => rfl
  | _ :: _, [], _ => rfl
  | a :: l, b :: m, h => by
    unfold sameL
    rw [sameL_len f l m (fun e => h (by simp [e]))]
    simp
theorem sameL_drop (f : Ex → Ex → Bool) (l m : List Ex) (k : Nat) (a b : Ex) (ha : l[k]? = some a) (hb : m[k]? = some b) : sameL f (l.drop k) (m.drop k) = (f a b && sameL f (l.drop (k + 1)) (m.drop (k + 1))) := by
  obtain ⟨h1, rfl⟩ := List.getElem?_eq_some_iff.1 ha
  obtain ⟨h2, rfl⟩ := List.getElem?_eq_some_iff.1 hb
  rw [List.drop_eq_getElem_cons h1, List.drop_eq_getElem_cons h2]
  rfl
end Go.Proofs.YteihjneeiojgaaaGreat
/-
  Comparison of tables: slices.Equal over columns and numbers, sameForeign, slices.EqualFunc over foreign keys. Conditions: none. (Written by mkSsA.py.)
-/
namespace Go.Proofs.YteihjneeiojgaaaGreat
set_option maxRecDepth 100000
set_option linter.unusedVariables false
set_option linter.unusedSimpArgs false
open Go.RowKit

/-- Two lists are compared element by element. -/
def twoL {α : Type} (f : α → α → Bool) : List α → List α → Bool
  | [], [] => true
  | a :: l, b :: m => f a b && twoL f l m
  | _, _ => false
theorem twoL_len {α : Type} (f : α → α → Bool) : ∀ l m : List α, l.length ≠ m.length → twoL f l m = false
  | [], [], h => absurd rfl h
  | [], _ :: _, _ => rfl
  | _ :: _, [], _ => rfl
  | _ :: l, _ :: m, h => by
    unfold twoL
    rw [twoL_len f l m (fun e => h (by simp [e])), Bool.and_false]
theorem twoL_drop {α : Type} (f : α → α → Bool) (l m : List α) (k : Nat) (a b : α) (ha : l[k]? = some a) (hb : m[k]? = some b) : twoL f (l.drop k) (m.drop k) = (f a b && twoL f (l.drop (k + 1)) (m.drop (k + 1))) := by
  obtain ⟨h1, rfl⟩ := List.getElem?_eq_some_iff.1 ha
  obtain ⟨h2, rfl⟩ := List.getElem?_eq_some_iff.1 hb
  rw [List.drop_eq_getElem_cons h1, List.drop_eq_getElem_cons h2]
  rfl
theorem twoL_self {α : Type} (f : α → α → Bool) (h : ∀ a, f a a = true) : ∀ l : List α, twoL f l l = true
  | [] => rfl
  | a :: l => by
    unfold twoL
    rw [h, twoL_self f h l]
    rfl
def eqC (a b : Cl) : Bool := a.1.toList == b.1.toList && (a.2.1 == b.2.1 && a.2.2 == b.2.2)
def eqI (a b : Int) : Bool := a == b
def eqF (a b : Fk) : Bool := a.2.toList == b.2.toList && twoL eqI a.1 b.1
theorem neq_col (s : ByteArray) (k : Int) (b : Bool) (s2 : ByteArray) (k2 : Int) (b2 : Bool) (w : World) : (binOp .neq 29 (.agg #[.string s, .int .i64 k, .bool b]) (.agg #[.string s2, .int .i64 k2, .bool b2])).run Tryz.prog w = .ok (.bool (!eqC (s, k, b) (s2, k2, b2))) w := by
  rw [run_neq_struct, run_equalIn_struct w 9999 29 _ _ (by kernel_rfl) (by kernel_rfl)]
  simp [Program.fieldsOf, Op.eqFields, Tryz.underlying29, Tryz.underlying3, Tryz.underlying9, Tryz.underlying4, part, isAgg, go_sem]
  unfold eqC
  by_cases h1 : k = k2 <;> by_cases h2 : b = b2 <;> by_cases h3 : s.toList = s2.toList <;> simp [h1, h2, h3]
end Go.Proofs.YteihjneeiojgaaaGreat
/-
  What the functions of Eval answer: values of constants, columns, texts, numbers, comparisons. Conditions: numbers that are values.
-/
namespace Go.Proofs.YteihjneeiojgaaaGreat
set_option maxRecDepth 100000
set_option linter.unusedVariables false
set_option linter.unusedSimpArgs false
open Go.RowKit

def vldP (p : Vl) : Bool := Va.vldV p.1 p.2.1 p.2.2
def nullP : Vl := (0, 0, ⟨#[]⟩)
def nrmP (p : Vl) : Vl := if vldP p then p else nullP
def intP (n : Int) : Vl := nrmP (1, n, ⟨#[]⟩)
def txtP (s : ByteArray) : Vl := nrmP (2, 0, s)
def booP (b : Bool) : Vl := (3, if b then 1 else 0, ⟨#[]⟩)
def ofP (t : Int) : Vl := if t = 2 then booP true else if t = 0 then booP false else nullP
def truP (p : Vl) : Int := Va.truV p.1 p.2.1 p.2.2
theorem nrm_eq (k n : Int) (s : ByteArray) : Va.nrm k n s = valV (nrmP (k, n, s)) := by
  unfold Va.nrm nrmP vldP
  dsimp only
  split <;> rfl
theorem of_eq (t : Int) : Va.ofT t = valV (ofP t) := by
  unfold Va.ofT ofP
  split
  · rfl
  · split <;> rfl
def lenP (p : Vl) : Vl := if p.1 = 2 then intP p.2.2.size else nullP
def catP (p q : Vl) : Vl := if p.1 = 2 ∧ q.1 = 2 then txtP (p.2.2 ++ q.2.2) else nullP
theorem own_three {w : World} {t : TypeId} {cs : Array Value} (o o2 : Obj) : Own (((w.alloc o).alloc o2).alloc (.cells cs t)) (w.heap.size + 1 + 1) t cs := by
  have h := Own.new ((w.alloc o).alloc o2) t cs
  rwa [World.size_alloc, World.size_alloc] at h
end Go.Proofs.YteihjneeiojgaaaGreat
/-
  The shelf (a name alone). Conditions: none.
-/
namespace Go.Proofs
set_option linter.unusedVariables false
set_option linter.unusedSimpArgs false
end Go.Proofs
/-
  Columns of the program: the visit, sorted, its runs made single. Conditions: lengths, a bounded depth.
-/
namespace Go.Proofs.YteihjneeiojgaaaGreat
set_option maxRecDepth 100000
set_option linter.unusedVariables false
set_option linter.unusedSimpArgs false
open Go.RowKit Go.Sort Go.Lib

theorem own_get {w : World} {base : Nat} {e : TypeId} {sz n : Nat} {v : Value} {xs : List Value} (h : w.ownsRow base e sz v n xs) : (v = .slice none 0 0 ∧ n = 0) ∨ ∃ g c, v = .slice (some ⟨g, 0, none⟩) n c ∧ base ≤ g ∧ g < w.heap.size ∧ n ≤ c ∧ ∀ j u, xs[j]? = some u → w.cell? ⟨g, j, none⟩ = some u := by
  have hlen := h.1
  rcases h.2 with ⟨rfl, h0⟩ | ⟨g, cap, cur, rfl, hb, hh, hn, hc, hs, ht⟩
  · exact .inl ⟨rfl, h0⟩
  · have hg : g < w.heap.size := by
      rcases Nat.lt_or_ge g w.heap.size with h1 | h1
      · exact h1
      · rw [Array.getElem?_eq_none h1] at hh; cases hh
    refine .inr ⟨g, cap, rfl, hb, hg, hn, fun j u hj => ?_⟩
    have e : w.cell? ⟨g, j, none⟩ = cur[j]? := cell_of_row w g j cur _ _ hh
    have hjl : j < xs.length := (List.getElem?_eq_some_iff.1 hj).1
    rw [e, ← hj, ← ht, ← Array.getElem?_toList, List.getElem?_take, if_pos (by omega)]
theorem plain_add (g j : Nat) : (⟨g, 0, none⟩ : Addr).add j = ⟨g, j, none⟩ := by
  unfold Addr.add
  split
  · rename_i h; subst h; rfl
  · simp
theorem holdsI_of_own {w : World} {base g c : Nat} {l : List Int} (h : w.ownsRow base 3 1 (.slice (some ⟨g, 0, none⟩) l.length c) l.length (intsV l)) : Holds (Value.int .i64) w g 0 l.toArray := by
  intro j hj
  have hjl : j < l.length * 1 := by simpa using hj
  have h1 := World.ownsRow.cellAt h j hjl
  have h2 := World.ownsRow.frozenAt h j
  rw [Nat.zero_add]
  refine ⟨?_, h2⟩
  have hk : j < l.length := by omega
  rw [h1]
  unfold intsV
  rw [List.getElem?_map, List.getElem?_eq_getElem hk, getElem!_pos l.toArray j (by simpa using hk)]
  simp
theorem below_putRow {α : Type} [Inhabited α] (enc : α → Value) (w : World) (blk off n : Nat) (d : Array α) (os : Array Obj) (hblk : blk < w.heap.size) : Below blk w (grow (putRow enc (Sort.ahead w n) blk off d) os) := by
  refine ⟨rfl, rfl, rfl, ?_, fun j hj => ?_⟩
  · unfold putRow mapBlock grow Sort.ahead
    show w.heap.size ≤ (w.heap.modify blk _ ++ os).size
    rw [Array.size_append, Array.size_modify]; omega
  · unfold putRow mapBlock grow Sort.ahead
    show (w.heap.modify blk _ ++ os)[j]? = _
    rw [Array.getElem?_append_left (by rw [Array.size_modify]; omega), Array.getElem?_modify, if_neg (by omega)]
theorem rdI_of_holds {w : World} {base g c : Nat} {l : List Int} {d : Array Int} (h : Holds (Value.int .i64) w g 0 d) (hl : ∀ (k : Nat) (x : Int), l[k]? = some x → d[k]? = some x) (hb : base ≤ g) (hg : g < w.heap.size) (hll : l.length ≤ 9223372036854775807) : RdI w base w.heap.size (.slice (some ⟨g, 0, none⟩) l.length c) l := by
  refine ⟨some ⟨g, 0, none⟩, c, rfl, hll, fun k x hk => ⟨⟨g, 0, none⟩, rfl, hb, hg, ?_⟩⟩
  have h1 := hl k x hk
  obtain ⟨hk1, hk2⟩ := Array.getElem?_eq_some_iff.1 h1
  have h2 := (h k hk1).1
  rw [getElem!_pos d k hk1, hk2, Nat.zero_add] at h2
  rw [plain_add]
  exact h2

theorem own_two2Y (W : World) (g : Nat) (hg : W.heap.size = g) (v : Value) : Own (W.alloc (.cells #[v] 23)) g 23 #[v] := by
  subst hg
  exact Own.new W _ _
def RetCol (w : World) (l : List Int) (e : Ending) (w' : World) : Prop := ∃ v, e = .returned v ∧ RdI w' w.heap.size w'.heap.size v l ∧ Below w.heap.size w w'
set_option maxRecDepth 100000 in
set_option maxHeartbeats 6400000 in
theorem pColumns_any (d : Nat) (e : Ex) (u : Value) (w : World) (L : Nat) (h : RdE w L w.heap.size d u e.args) (hlen : (colE d e).length ≤ 1099511627776) :
    Calls Tryz.prog 81 #[exV e u] w (RetCol w (colS (colE d e))) := by
  obtain ⟨A, c, rfl, _⟩ := h.slice
  have b1 := bel_mk w (.cells (exA e (.slice A e.args.length c)) 73)
  have b2 := bel_mk (w.alloc (.cells (exA e (.slice A e.args.length c)) 73)) (.cells #[.slice none 0 0] 23)
  have HB := Lib.hid (b1.trans (b2.mono b1.size))
  have HE := Lib.hid ((Own.new w 73 (exA e (.slice A e.args.length c))).alloc (.cells #[.slice none 0 0] 23))
  have HG := Lib.hid (own_two2Y (w.alloc (.cells (exA e (.slice A e.args.length c)) 73)) (w.heap.size + 1) (by rw [World.size_alloc]) (.slice none 0 0))
  have HV := Lib.hid (pVisit_any d e (.slice A e.args.length c) (w.heap.size + 1) (w.heap.size + 2) (.slice none 0 0) [] _ L (by have h3 := (h.step b1 (Nat.le_refl _)).below b2; simp only [World.size_alloc] at h3; exact h3) HG.out (by omega) (by simp only [World.size_alloc]; omega) (World.ownsRow_nil _ _ _ 1) (by simpa using hlen))
  have HL := Lib.hid hlen
  clear b1 b2 h hlen
  rw [List.nil_append] at HV
  generalize hzs : colE d e = zs at *
  clear hzs
  unfold exV exA at *
  have e0 := HE.out.cell 0
  have e1 := HE.out.cell 1
  have e2 := HE.out.cell 2
  have e3 := HE.out.cell 3
  have e4 := HE.out.cell 4
  have e5 := HE.out.cell 5
  have e6 := HE.out.cell 6
  go_enter Tryz.func81, Tryz.ntmps81
  go_wp2_with fail
  with_reducible refine HV.out.mono ?_
  rintro e' w2 ⟨rfl, v2, hg2, hr2, hb2⟩
  have HB2 := Lib.hid (HB.out.trans (hb2.mono (by omega)))
  clear e0 e1 e2 e3 e4 e5 e6 HV HE HG HB hb2
  have c0 := hg2.cell 0
  have HG2 := Lib.hid hg2
  have HSP := colS_len zs
  have hdef : Lib.compact (zs.mergeSort fun x y => decide (x ≤ y)) = colS zs := rfl
  have HSPh := Lib.hid hdef
  have hML : ((zs.mergeSort fun x y => decide (x ≤ y))).length = zs.length := List.length_mergeSort _
  rcases own_get hr2 with ⟨rfl, h0⟩ | ⟨g, cc, rfl, hbg, hg, hnc, _⟩
  · obtain rfl := List.eq_nil_of_length_eq_zero h0
    have hE := Lib.hid (show colS [] = [] from List.eq_nil_of_length_eq_zero (by have := colS_len []; simpa using this))
    clear hML h0 HSP hdef HSPh hr2 hg2
    go_wp2_with (first
      | (go_at_call 99; refine (Tryz.slices_Sort_int_none none 0 _).mono ?_; rintro e w3 ⟨rfl, rfl⟩)
      | (go_at_call 100; refine (Tryz.slices_Compact_int_empty none 0 _).mono ?_; rintro e w3 ⟨rfl, rfl⟩))
    go_ret
    rw [hE.out]
    exact ⟨_, rfl, ⟨none, 0, rfl, by simp, by simp⟩, HB2.out⟩
  · have hH := holdsI_of_own hr2
    have HLL := HL.out
    have hcon := Lib.hid (Tryz.slices_Sort_int g 0 cc zs w2 hH hg (by omega))
    generalize hms : (zs.mergeSort fun x y => decide (x ≤ y)) = ms at *
    clear hms
    have HH := Lib.hid hH
    have hML3 := Lib.hid (show zs.length = ms.length from hML.symm)
    have HHG := Lib.hid hg
    have HNC := Lib.hid hnc
    have HBG := Lib.hid hbg
    have HSZ := Lib.hid HSP
    clear hML hH hr2 hdef hg hnc hbg HSP hg2 HLL
    go_wp2_with fail
    with_reducible refine hcon.out.mono ?_
    rintro e w3 ⟨rfl, n2, os2, rfl⟩
    have hbS := below_putRow (Value.int .i64) w2 g 0 n2 ms.toArray os2 HHG.out
    have hH2 : Holds (Value.int .i64) (grow (putRow (Value.int .i64) (Sort.ahead w2 n2) g 0 ms.toArray) os2) g 0 ms.toArray := by
      refine holds_grow _ _ _ _ _ _ ?_ (holds_putRow _ _ _ _ zs.toArray _ HH.out (by have := hML3.out; simpa using this.symm))
      unfold putRow mapBlock Sort.ahead
      show g < (w2.heap.modify g _).size
      rw [Array.size_modify]; exact HHG.out
    have hg3 := Nat.lt_of_lt_of_le HHG.out hbS.size
    generalize grow (putRow (Value.int .i64) (Sort.ahead w2 n2) g 0 ms.toArray) os2 = w3 at *
    have hgx := HG2.out.below hbS (by have := HBG.out; omega)
    replace c0 := hgx.cell 0
    have hcon2 := Tryz.slices_Compact_int g 0 cc ms w3 hH2 (by have := hML3.out; have := HL.out; omega) (by have := hML3.out; have := HNC.out; omega)
    rw [HSPh.out, ← hML3.out] at hcon2
    have HC2 := Lib.hid hcon2
    have HH2 := Lib.hid hH2
    have HG3 := Lib.hid hg3
    have HBS := Lib.hid hbS
    clear hH2 hcon2 hg3 hbS hgx hcon HG2
    go_wp2_with fail
    with_reducible refine HC2.out.mono ?_
    rintro e w4 ⟨rfl, n3, rfl⟩
    go_wp2
    go_ret
    have hML2 := hML3.out
    have hcl := HSZ.out
    have hbC := below_putRow (Value.int .i64) w3 g 0 n3 (colS zs ++ List.replicate (zs.length - (colS zs).length) 0).toArray #[] HG3.out
    rw [grow_empty] at hbC
    have hH3 : Holds (Value.int .i64) (putRow (Value.int .i64) (Sort.ahead w3 n3) g 0 (colS zs ++ List.replicate (zs.length - (colS zs).length) 0).toArray) g 0 (colS zs ++ List.replicate (zs.length - (colS zs).length) 0).toArray :=
      holds_putRow _ _ _ _ ms.toArray _ HH2.out (by simp; omega)
    have hbg := HBG.out
    have hll := HL.out
    refine ⟨_, rfl, (rdI_of_holds (c := cc) hH3 (fun k x hk => ?_) (by omega) (Nat.lt_of_lt_of_le HG3.out hbC.size) (by omega)), HB2.out.trans ((HBS.out.mono (by omega)).trans (hbC.mono (by omega)))⟩
    have hk1 := (List.getElem?_eq_some_iff.1 hk).1
    rw [List.getElem?_toArray, List.getElem?_append_left hk1]; exact hk
end Go.Proofs.YteihjneeiojgaaaGreat
