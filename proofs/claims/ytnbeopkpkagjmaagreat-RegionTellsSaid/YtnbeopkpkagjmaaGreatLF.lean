import Derived.ProofKit
import Derived.Carry
import Derived.Handed
import Derived.LaidLaws
import Derived.LaidMore
import Derived.Stop.Joined
import Derived.Lib.LaidTab
import Derived.Test.YtnbeopkpkagjmaaGreatRows
import Derived.Test.YtnbeopkpkagjmaaGreatRA
import Derived.MakeChecks
import Derived.OpenShut
import Derived.Lib.SmallJoins
import Derived.Deep.SlicePairs
import Derived.Deep.Slices
import Derived.Deep.Fields
/-
  The frame of a statement's proof, over any program: if every call with readable arguments returns true and writes nothing old, the statement's row holds. Conditions: as the row's own (its listed variables).
-/
namespace Go.Proofs.YtnbeopkpkagjmaaGreat
set_option maxRecDepth 100000
set_option linter.unusedVariables false
set_option linter.unusedSimpArgs false
open Go.ChangeShapes Go.WideShapes Go.RowKit

section
variable {H : Type} {enc : TypeId × Value → H}

theorem trodAll_below {P : Program} (hl : laidOutB P = true) {W W' : World} (hb : Below W.heap.size W W') : ∀ (ts : List TypeId) (vs : List Value) (ds : List (DataW H)) (ps : List MemPlace),
    (∀ t ∈ ts, P.readableRec t = true ∧ t < P.types.size) → DataW.TrodAll enc P W 0 (fun _ => true) true ts vs ds ps → (∀ x ∈ ps, x.block < W.heap.size) →
    DataW.TrodAll enc P W' 0 (fun b => decide (b < W.heap.size)) true ts vs ds ps
  | [], vs, ds, ps, _, h, _ => by obtain ⟨rfl, rfl, rfl⟩ := trodAll_nil h; exact trodAll_mk0
  | t :: ts, vs, ds, ps, hr, h, hlt => by
    obtain ⟨v, vs', d, ds', p, q, rfl, rfl, rfl, h0, h1⟩ := trodAll_cons h
    exact ⟨p, q, Below.trod hl (hr t (List.mem_cons_self ..)).1 (hr t (List.mem_cons_self ..)).2 h0 hb (fun x hx => hlt x (List.mem_append_left _ hx)),
      trodAll_below hl hb ts vs' ds' q (fun t ht => hr t (List.mem_cons_of_mem _ ht)) h1 (fun x hx => hlt x (List.mem_append_right _ hx)), rfl⟩

theorem trodAll_len {P : Program} {w : World} {base : Nat} {sp : Nat → Bool} {hd : Bool} : ∀ (ts : List TypeId) (vs : List Value) (ds : List (DataW H)) (ps : List MemPlace), DataW.TrodAll enc P w base sp hd ts vs ds ps → ds.length = ts.length
  | [], vs, ds, ps, h => by obtain ⟨rfl, rfl, rfl⟩ := trodAll_nil h; rfl
  | t :: ts, vs, ds, ps, h => by
    obtain ⟨v, vs', d, ds', p, q, rfl, rfl, rfl, h0, h1⟩ := trodAll_cons h
    rw [List.length_cons, List.length_cons, trodAll_len ts vs' ds' q h1]

theorem law_lift {C : Checked} {os : Os} {f : FuncId} {fn : Func} {s : ChangeSpec} {X : World → Prop} {tb : TypeId} {nm : String} {gn : (H : Type) → List (DataW H) → Left H}
    (hs : s = { name := nm, fn := gn })
    (own : ownKnob C.prog.godebug = none) (started : os.Started) (noInit : C.prog.inits.idxOf? f = none) (hfn : C.prog.funcs[f]? = some fn)
    (hl : laidOutB C.prog = true) (hr : (fn.params.toList.all fun t => C.prog.readableRec t && decide (t < C.prog.types.size)) = true)
    (hres : fn.resultTypes = #[tb]) (htb : C.prog.underlying tb = some .bool)
    (hspec : ∀ ds : List (DataW H), ds.length = fn.params.toList.length → gn H ds = { results := [.lit (.bool true)], args := ds })
    (hX : ∀ w w' : World, w.heap = w'.heap → X w → X w')
    (witness : ∃ (w : World) (tape : Tape) (i : Input), w.os = os ∧ (w.forCall tape i).Shaped C.prog ∧ i.vars = [] ∧ Input.okWide C.prog (w.forCall tape i) .any w.heap.size f i ∧
      ((s.pre enc C.prog fn [] false (w.forCall tape i).memory i.args ∧ X (w.forCall tape i).memory) ∧ sizedMet enc C.prog fn (OpenSpec.ofChange s) false (w.forCall tape i).memory i.args) ∧ ({} : Assume).holds C.prog (lone (Frame.enter C.prog f i.args .normal) [] (w.forCall tape i)))
    (contract : ∀ (W : World) (base : Nat) (args : Array Value) (ds : List (DataW H)) (ps : List MemPlace), W.ShapedOpen C.prog →
      (∀ (j : Nat) t v, fn.params[j]? = some t → args[j]? = some v → Value.okWide C.prog W .any base t v) →
      DataW.TrodAll enc C.prog W 0 (fun _ => true) true fn.params.toList args.toList ds ps → X W →
      Calls C.prog f args W fun e W' => e = .returned (.bool true) ∧ Below W.heap.size W W') :
    ReturnsInHanded {} C os f .any (fun w args => (s.pre enc C.prog fn [] false w args ∧ X w) ∧ sizedMet enc C.prog fn (OpenSpec.ofChange s) false w args) (s.post enc C.prog fn false true false false) := by
  refine returnsInHanded_of_calls own started noInit witness ?_
  intro w tape i _ hshape _ hok hpre _
  obtain ⟨_, _, _, fn', hfn', _, _, _, _, hval⟩ := hok
  have e : fn' = fn := Option.some.inj (hfn'.symm.trans hfn)
  subst e
  obtain ⟨⟨⟨ds, gs, before, hw, _⟩, hx⟩, _⟩ := hpre
  have hw' := DataW.Whole.of_heap (w' := w.forCall tape i) (by rfl) hw
  have hlt : ∀ x ∈ before, x.block < (w.forCall tape i).heap.size := fun x hx => by simpa using hw'.lt x hx
  have hwhole := hw'
  obtain ⟨p, q, hA, hV, hpq, _, _⟩ := hw'
  have hVn : gs = [] ∧ q = [] := by
    rw [hs] at hV
    cases gs with
    | nil => exact ⟨rfl, hV⟩
    | cons g gs => exact absurd hV (by simp [DataW.TrodVars])
  obtain ⟨rfl, rfl⟩ := hVn
  rw [List.append_nil] at hpq
  subst hpq
  refine (contract (w.forCall tape i) w.heap.size i.args ds before hshape hval hA (hX _ _ (by rfl) hx)).mono fun e W' ⟨he, hb⟩ => ?_
  subst he
  have hlen := trodAll_len _ _ _ _ hA
  have hsp : s.fn H (ds ++ []) = { results := [.lit (.bool true)], args := ds } := by rw [List.append_nil, hs]; exact hspec ds hlen
  have hr' : ∀ t ∈ fn'.params.toList, C.prog.readableRec t = true ∧ t < C.prog.types.size := fun t ht => by
    have := List.all_eq_true.1 hr t ht
    simpa using this
  refine ChangeSpec.post_blind ⟨ds, [], before, [], before, [], hwhole, ?_, ?_, ?_, ?_, fun h => by cases h⟩
  · rw [hsp, hres]
    exact trodAll_mk1 (shut_bool htb _)
  · rw [hsp]
    exact trodAll_below hl hb _ _ _ _ hr' hA hlt
  · rw [hsp, hs]
    exact rfl
  · exact hb.frame _
end
end Go.Proofs.YtnbeopkpkagjmaaGreat
/-
  Arguments that are lists of rectangles, opened. Conditions: none.
-/
namespace Go.Proofs.YtnbeopkpkagjmaaGreat
set_option maxRecDepth 100000
set_option linter.unusedVariables false
set_option linter.unusedSimpArgs false
open Go.ChangeShapes Go.WideShapes Go.ChangeAt Go.RowKit Go.Joins Go.Deep

theorem own : ownKnob Tryz.prog.godebug = none := by kernel_rfl
theorem laidOut : laidOutB Tryz.prog = true := by kernel_rfl
theorem cellsPer : Tryz.prog.cellsOf 33 = 2 := by kernel_rfl
theorem cellsRc : Tryz.prog.cellsOf 35 = 4 := by kernel_rfl
theorem cellsInt : Tryz.prog.cellsOf 3 = 1 := by kernel_rfl
theorem maxLen_le : maxLen ≤ 9223372036854775807 := by unfold maxLen; omega
theorem cell_lt {w : World} {a : Addr} {v : Value} (h : w.cell? a = some v) : a.block < w.heap.size := by
  rcases Nat.lt_or_ge a.block w.heap.size with h1 | h1
  · exact h1
  · unfold World.cell? at h
    rw [Array.getElem?_eq_none h1] at h
    cases h

section
variable {H : Type} {enc : TypeId × Value → H} {W : World} {base : Nat}
set_option maxRecDepth 100000 in
theorem open_rcs {v : Value} {d : DataW H} {p : List MemPlace} (hv : Value.okWide Tryz.prog W .any base 22 v) (h : DataW.Trod enc Tryz.prog W 0 (fun _ => true) true 22 v d p) :
    ∃ l : List Rc, RdR W 0 W.heap.size v l := by
  obtain ⟨a0, len0, cap0, rfl⟩ := okWide_slice Tryz.underlying22 hv
  obtain ⟨fuel, hf⟩ := h
  rcases open_slice Tryz.underlying22 hf with ⟨hcs, _⟩ | ⟨a, len, cap, m, n, D, Pl, hcs, _, hl, hm, hmm, _, hx⟩
  · simp only [Value.cells, List.cons.injEq, and_true] at hcs
    injection hcs with e1 e2 e3
    subst e1 e2 e3
    exact ⟨[], none, 0, rfl, by simp, by simp, by simp⟩
  · simp only [Value.cells, List.cons.injEq, and_true] at hcs
    injection hcs with e1 e2 e3
    subst e1 e2 e3
    rw [if_pos rfl] at hmm
    subst hmm
    have hml := maxLen_le
    have each : ∀ i, i < len0 → ∃ q : Rc, W.cell? (a.add (i * 4)) = some (.int .i64 q.1.1) ∧ W.cell? (a.add (i * 4 + 1)) = some (.int .i64 q.1.2) ∧ W.cell? (a.add (i * 4 + 2)) = some (.int .i64 q.2.1) ∧ W.cell? (a.add (i * 4 + 3)) = some (.int .i64 q.2.2) := by
      intro i hi
      obtain ⟨cs', hc, ht⟩ := hx i (by omega)
      rw [cellsRc] at hc
      obtain ⟨_, hcl, hat⟩ := World.cells?_some hc
      obtain ⟨xs, n', _, _, _, hxl, hfl⟩ := DataW.trod_struct Tryz.underlying35 ht
      match xs, hxl, cs', hcl with
      | [y0, y1], _, [v0, v1, v2, v3], _ =>
        have g0 : DataW.trod enc Tryz.prog W 0 (fun _ => true) true n' 33 (([v0, v1, v2, v3].drop 0).take (Tryz.prog.cellsOf 33)) = [y0, y1][0]? := hfl 0 _ rfl
        have g1 : DataW.trod enc Tryz.prog W 0 (fun _ => true) true n' 33 (([v0, v1, v2, v3].drop 2).take (Tryz.prog.cellsOf 33)) = [y0, y1][1]? := hfl 1 _ rfl
        rw [cellsPer] at g0 g1
        simp only [List.drop_zero, List.take_succ_cons, List.take_zero, List.drop_succ_cons, List.getElem?_cons_zero, List.getElem?_cons_succ] at g0 g1
        obtain ⟨xs2, n2, _, _, _, hxl2, hfl2⟩ := DataW.trod_struct Tryz.underlying33 g0
        obtain ⟨xs3, n3, _, _, _, hxl3, hfl3⟩ := DataW.trod_struct Tryz.underlying33 g1
        match xs2, hxl2, xs3, hxl3 with
        | [z0, z1], _, [z2, z3], _ =>
          have k0 : DataW.trod enc Tryz.prog W 0 (fun _ => true) true n2 3 (([v0, v1].drop 0).take (Tryz.prog.cellsOf 3)) = [z0, z1][0]? := hfl2 0 _ rfl
          have k1 : DataW.trod enc Tryz.prog W 0 (fun _ => true) true n2 3 (([v0, v1].drop 1).take (Tryz.prog.cellsOf 3)) = [z0, z1][1]? := hfl2 1 _ rfl
          have k2 : DataW.trod enc Tryz.prog W 0 (fun _ => true) true n3 3 (([v2, v3].drop 0).take (Tryz.prog.cellsOf 3)) = [z2, z3][0]? := hfl3 0 _ rfl
          have k3 : DataW.trod enc Tryz.prog W 0 (fun _ => true) true n3 3 (([v2, v3].drop 1).take (Tryz.prog.cellsOf 3)) = [z2, z3][1]? := hfl3 1 _ rfl
          rw [cellsInt] at k0 k1 k2 k3
          simp only [List.drop_zero, List.take_succ_cons, List.take_zero, List.drop_succ_cons, List.getElem?_cons_zero, List.getElem?_cons_succ] at k0 k1 k2 k3
          have c0 := hat 0 (by omega)
          have c1 := hat 1 (by omega)
          have c2 := hat 2 (by omega)
          have c3 := hat 3 (by omega)
          rw [Go.Deep.add_add] at c0 c1 c2 c3
          obtain ⟨x, e0, _, _⟩ := DataW.trod_int Tryz.underlying3 k0
          obtain ⟨y, e1, _, _⟩ := DataW.trod_int Tryz.underlying3 k1
          obtain ⟨z, e2, _, _⟩ := DataW.trod_int Tryz.underlying3 k2
          obtain ⟨u, e3, _, _⟩ := DataW.trod_int Tryz.underlying3 k3
          simp only [List.cons.injEq, and_true] at e0 e1 e2 e3
          subst e0 e1 e2 e3
          exact ⟨((x, y), (z, u)), by simpa using c0, by simpa using c1, by simpa using c2, by simpa using c3⟩
    obtain ⟨q, hq⟩ := choose_lt each
    refine ⟨(List.range len0).map q, some a, _, by rw [List.length_map, List.length_range], by rw [List.length_map, List.length_range]; omega, by rw [List.length_map, List.length_range]; exact hl, fun k p hk => ?_⟩
    obtain ⟨hk1, hk2⟩ := List.getElem?_eq_some_iff.1 hk
    simp at hk1 hk2
    subst hk2
    obtain ⟨g0, g1, g2, g3⟩ := hq k hk1
    have hb := cell_lt g0
    rw [add_block] at hb
    refine ⟨a, rfl, Nat.zero_le _, hb, g0, by rw [← add_next]; exact g1, ?_, ?_⟩
    · rw [show (⟨(a.add (k * 4)).block, (a.add (k * 4)).off + 2, none⟩ : Addr) = a.add (k * 4 + 2) by rw [add_next, add_next]]; exact g2
    · rw [show (⟨(a.add (k * 4)).block, (a.add (k * 4)).off + 3, none⟩ : Addr) = a.add (k * 4 + 3) by rw [add_next, add_next, add_next]]; exact g3
end
end Go.Proofs.YtnbeopkpkagjmaaGreat
