import Derived.Test.YtnbeopkpkagjmaaLF
/-
  Arguments that are a pair or a rectangle, opened. Conditions: none.
-/
namespace Go.Proofs.Ytnbeopkpkagjmaa
set_option maxRecDepth 100000
set_option linter.unusedVariables false
set_option linter.unusedSimpArgs false
open Go.ChangeShapes Go.WideShapes Go.ChangeAt Go.RowKit Go.Joins Go.Deep

section
variable {H : Type} {enc : TypeId × Value → H} {W : World} {base : Nat}
theorem cellsPair : Try.prog.cellsOf 24 = 2 := by kernel_rfl
theorem open_pair {v : Value} {d : DataW H} {p : List MemPlace} (hv : Value.okWide Try.prog W .any base 24 v) (h : DataW.Trod enc Try.prog W 0 (fun _ => true) true 24 v d p) :
    ∃ a b : Int, v = .agg #[.int .i64 a, .int .i64 b] := by
  obtain ⟨c0, c1, y0, y1, m, rfl, rfl, rfl, hy0, hy1⟩ := open_agg2 Try.underlying24 (by kernel_rfl) cellsPair hv h
  obtain ⟨a, e0, rfl, wa⟩ := DataW.trod_int Try.underlying3 hy0
  obtain ⟨b, e1, rfl, wb⟩ := DataW.trod_int Try.underlying3 hy1
  simp at e0 e1
  subst e0 e1
  exact ⟨a, b, rfl⟩
set_option maxRecDepth 100000 in
theorem open_rect {v : Value} {d : DataW H} {p : List MemPlace} (hv : Value.okWide Try.prog W .any base 40 v) (h : DataW.Trod enc Try.prog W 0 (fun _ => true) true 40 v d p) :
    ∃ q : Rc, v = .agg #[.int .i64 q.1.1, .int .i64 q.1.2, .int .i64 q.2.1, .int .i64 q.2.2] := by
  obtain ⟨cs, rfl, hsz⟩ := okWide_struct Try.underlying40 hv
  rw [cellsRc] at hsz
  obtain ⟨l⟩ := cs
  match l, hsz with
  | [v0, v1, v2, v3], _ =>
    obtain ⟨fuel, ht⟩ := h
    obtain ⟨xs, n', _, _, _, hxl, hfl⟩ := DataW.trod_struct Try.underlying40 ht
    match xs, hxl with
    | [y0, y1], _ =>
      have g0 : DataW.trod enc Try.prog W 0 (fun _ => true) true n' 38 (([v0, v1, v2, v3].drop 0).take (Try.prog.cellsOf 38)) = [y0, y1][0]? := hfl 0 _ rfl
      have g1 : DataW.trod enc Try.prog W 0 (fun _ => true) true n' 38 (([v0, v1, v2, v3].drop 2).take (Try.prog.cellsOf 38)) = [y0, y1][1]? := hfl 1 _ rfl
      rw [cellsPer] at g0 g1
      simp only [List.drop_zero, List.take_succ_cons, List.take_zero, List.drop_succ_cons, List.getElem?_cons_zero, List.getElem?_cons_succ] at g0 g1
      obtain ⟨xs2, n2, _, _, _, hxl2, hfl2⟩ := DataW.trod_struct Try.underlying38 g0
      obtain ⟨xs3, n3, _, _, _, hxl3, hfl3⟩ := DataW.trod_struct Try.underlying38 g1
      match xs2, hxl2, xs3, hxl3 with
      | [z0, z1], _, [z2, z3], _ =>
        have k0 : DataW.trod enc Try.prog W 0 (fun _ => true) true n2 3 (([v0, v1].drop 0).take (Try.prog.cellsOf 3)) = [z0, z1][0]? := hfl2 0 _ rfl
        have k1 : DataW.trod enc Try.prog W 0 (fun _ => true) true n2 3 (([v0, v1].drop 1).take (Try.prog.cellsOf 3)) = [z0, z1][1]? := hfl2 1 _ rfl
        have k2 : DataW.trod enc Try.prog W 0 (fun _ => true) true n3 3 (([v2, v3].drop 0).take (Try.prog.cellsOf 3)) = [z2, z3][0]? := hfl3 0 _ rfl
        have k3 : DataW.trod enc Try.prog W 0 (fun _ => true) true n3 3 (([v2, v3].drop 1).take (Try.prog.cellsOf 3)) = [z2, z3][1]? := hfl3 1 _ rfl
        rw [cellsInt] at k0 k1 k2 k3
        simp only [List.drop_zero, List.take_succ_cons, List.take_zero, List.drop_succ_cons, List.getElem?_cons_zero, List.getElem?_cons_succ] at k0 k1 k2 k3
        obtain ⟨x, e0, _, _⟩ := DataW.trod_int Try.underlying3 k0
        obtain ⟨y, e1, _, _⟩ := DataW.trod_int Try.underlying3 k1
        obtain ⟨z, e2, _, _⟩ := DataW.trod_int Try.underlying3 k2
        obtain ⟨u, e3, _, _⟩ := DataW.trod_int Try.underlying3 k3
        simp only [List.cons.injEq, and_true] at e0 e1 e2 e3
        subst e0 e1 e2 e3
        exact ⟨((x, y), (z, u)), rfl⟩
end
end Go.Proofs.Ytnbeopkpkagjmaa
