import Derived.Test.YteihjneeiojgaaaTB
import Derived.Test.YteihjneeiojgaaaSExUa
import Derived.Test.YteihjneeiojgaaaTD
import Derived.Test.YteihjneeiojgaaaQH
import Derived.Test.YteihjneeiojgaaaPA
import Derived.WalkKit
import Derived.WalkSpells
import Derived.WalkLawsBesides
import Derived.Deep.QuietTactic
import Derived.BigQuiet
import Derived.Handy
import Derived.Lib.Hide
/-
  clone, Shift and Substitute, by the program: trees in new memory. Conditions: lengths, a bounded depth.
-/
namespace Go.Proofs.Yteihjneeiojgaaa
set_option maxRecDepth 100000
set_option linter.unusedVariables false
set_option linter.unusedSimpArgs false
open Go.RowKit

set_option maxRecDepth 100000 in
set_option maxHeartbeats 6400000 in
theorem pClone_any : ∀ (d : Nat) (e : Ex) (u : Value) (w : World) (L : Nat), RdE w L w.heap.size d u e.args → Calls Try.prog 52 #[exV e u] w (RetX w d e)
  | 0, _, _, _, _, h => h.elim
  | d + 1, e, u, w, L, h => by
    have IH := pClone_any d
    have hu := h
    obtain ⟨op, n, ⟨k1, k2, s⟩, nm, es⟩ := e
    dsimp only at h hu
    obtain ⟨A, c, rfl, _, _⟩ := hu
    have HO1 := Lib.hid (show Own ((w.alloc (.cells #[.int .i64 op, .int .i64 n, .int .i64 k1, .int .i64 k2, .string s, .string nm, .slice A es.length c] 65)).alloc (.cells #[.int .i64 0, .int .i64 0, .int .i64 0, .int .i64 0, .string ⟨#[]⟩, .string ⟨#[]⟩, .slice none 0 0] 65)) (w.heap.size + 1) 65 #[.int .i64 0, .int .i64 0, .int .i64 0, .int .i64 0, .string ⟨#[]⟩, .string ⟨#[]⟩, .slice none 0 0] from Va.own_two _)
    have HB1 := Lib.hid (show Below w.heap.size w ((w.alloc (.cells #[.int .i64 op, .int .i64 n, .int .i64 k1, .int .i64 k2, .string s, .string nm, .slice A es.length c] 65)).alloc (.cells #[.int .i64 0, .int .i64 0, .int .i64 0, .int .i64 0, .string ⟨#[]⟩, .string ⟨#[]⟩, .slice none 0 0] 65)) from (bel_mk w _).trans ((bel_mk _ _).mono (by simp)))
    have HC := Lib.hid (withArgs_clone id d d ⟨op, n, (k1, k2, s), nm, es⟩ (.slice A es.length c) _ L (h.step HB1.out (Nat.le_refl _)) (fun a ua W _ _ hr => IH a ua W L hr))
    rw [show es.map id = es from List.map_id es] at HC
    clear h IH
    unfold exV at *
    dsimp only at *
    go_enter Try.func52, Try.ntmps52
    go_wp2_with fail
    with_reducible refine HC.out.mono ?_
    rintro e w3 ⟨u3, rfl, hr3, hb3⟩
    have HO3 := Lib.hid (HO1.out.below hb3 HO1.out.lt)
    have HB3 := Lib.hid (HB1.out.trans (hb3.mono HB1.out.size))
    have HT := Lib.hid (hr3.more (Nat.le_refl _) (show w.heap.size + 2 ≤ _ from HO1.out.lt))
    generalize hrr : (⟨op, n, (k1, k2, s), nm, es⟩ : Ex) = r at *
    obtain ⟨r0, r1, ⟨r2, r3, r4⟩, r5, r6⟩ := r
    obtain ⟨A4, c4, rfl, hl4⟩ := hr3.slice
    unfold exV
    dsimp only
    have o0 := HO3.out.cell 0
    have o1 := HO3.out.cell 1
    have o2 := HO3.out.cell 2
    have o3 := HO3.out.cell 3
    have o4 := HO3.out.cell 4
    have o5 := HO3.out.cell 5
    have o6 := HO3.out.cell 6
    have m0 := HO3.out.free 0
    have m1 := HO3.out.free 1
    have m2 := HO3.out.free 2
    have m3 := HO3.out.free 3
    have m4 := HO3.out.free 4
    have m5 := HO3.out.free 5
    have m6 := HO3.out.free 6
    have HX := Lib.hid (((((((HO3.out.store 0 (.int .i64 r0)).store 1 (.int .i64 r1)).store 2 (.int .i64 r2)).store 3 (.int .i64 r3)).store 4 (.string r4)).store 5 (.string r5)).store 6 (.slice A4 r6.length c4))
    clear hr3 hb3 hrr
    go_wp2
    (try simp only [Exit.inBlock, Exit.then]); refine bodyPost_ret_by (results_cell_row1 (by rfl) _ _ (w.heap.size + 1) _ (by rfl) (load_ex HX.out)) ?_ ?_; (focus rfl); refine ⟨_, rfl, ?_, ?_⟩
    · simp only [World.size_setCell]
      refine RdE.more (Nat.le_refl _) (show w.heap.size ≤ w.heap.size + 2 by omega) ?_
      exact (((((((HT.out).far (by show w.heap.size + 1 < _; omega)).far (by show w.heap.size + 1 < _; omega)).far (by show w.heap.size + 1 < _; omega)).far (by show w.heap.size + 1 < _; omega)).far (by show w.heap.size + 1 < _; omega)).far (by show w.heap.size + 1 < _; omega)).far (by show w.heap.size + 1 < _; omega)
    · exact (((((((HB3.out).setCell (by show w.heap.size ≤ w.heap.size + 1; omega) _).setCell (by show w.heap.size ≤ w.heap.size + 1; omega) _).setCell (by show w.heap.size ≤ w.heap.size + 1; omega) _).setCell (by show w.heap.size ≤ w.heap.size + 1; omega) _).setCell (by show w.heap.size ≤ w.heap.size + 1; omega) _).setCell (by show w.heap.size ≤ w.heap.size + 1; omega) _).setCell (by show w.heap.size ≤ w.heap.size + 1; omega) _
end Go.Proofs.Yteihjneeiojgaaa
/-
  Shift and Substitute, by the program: trees in new memory. Conditions: lengths, a bounded depth.
-/
namespace Go.Proofs.Yteihjneeiojgaaa
set_option maxRecDepth 100000
set_option linter.unusedVariables false
set_option linter.unusedSimpArgs false
open Go.RowKit

def shX (k : Int) : Nat → Ex → Ex
  | 0, e => e
  | d + 1, e => ⟨e.op, if e.op = 2 then wrap64 (e.n + k) else e.n, e.v, e.nm, e.args.map (shX k d)⟩
def sbX (ls : List Ex) : Nat → Ex → Ex
  | 0, e => e
  | d + 1, e => if e.op = 2 ∧ wfE e.op e.n e.v.1 e.v.2.1 e.v.2.2 e.nm e.args.length = true ∧ idxB e.n ls.length = true then ls.getD e.n.toNat e else ⟨e.op, e.n, e.v, e.nm, e.args.map (sbX ls d)⟩
end Go.Proofs.Yteihjneeiojgaaa
