import Derived.Test.YteihjneeiojgaaaMA
import Derived.Test.YteihjneeiojgaaaME
import Derived.WalkKit
import Derived.WalkSpells
import Derived.WalkLawsBesides
import Derived.Deep.QuietTactic
import Derived.BigQuiet
import Derived.Handy
import Derived.Lib.Hide
import Derived.Lib.SlicesCompact
/-
  Facts on boxes, taken together: boxes that were just laid, their cells, stores into all of a box or a part of it.
-/
namespace Go.Proofs.Yteihjneeiojgaaa
set_option maxRecDepth 100000
set_option linter.unusedVariables false
set_option linter.unusedSimpArgs false
open Go.RowKit
variable {w w' w0 w1 w2 : World} {B g : Nat} {t : TypeId} {cs : Array Value} {x0 x1 x2 x3 x4 x5 x6 x7 x8 : Value}
theorem bx1 (w : World) (t0 : TypeId) (c0 : Array Value) : Hid (Own (w.alloc (.cells c0 t0)) w.heap.size t0 c0) ∧ Hid (Below w.heap.size w (w.alloc (.cells c0 t0))) := by
  exact ⟨by have h := Own.new w t0 c0; (try simp only [World.size_alloc] at h); exact h, bel_mk w (.cells c0 t0)⟩
theorem bx2 (w : World) (t0 : TypeId) (c0 : Array Value) (t1 : TypeId) (c1 : Array Value) : Hid (Own ((w.alloc (.cells c0 t0)).alloc (.cells c1 t1)) w.heap.size t0 c0) ∧ Hid (Own ((w.alloc (.cells c0 t0)).alloc (.cells c1 t1)) (w.heap.size + 1) t1 c1) ∧ Hid (Below w.heap.size w ((w.alloc (.cells c0 t0)).alloc (.cells c1 t1))) := by
  exact ⟨by have h := Own.new w t0 c0; (try simp only [World.size_alloc] at h); exact (h.alloc (.cells c1 t1)), by have h := Own.new (w.alloc (.cells c0 t0)) t1 c1; (try simp only [World.size_alloc] at h); exact h, (bel_mk w (.cells c0 t0)).trans ((bel_mk (w.alloc (.cells c0 t0)) (.cells c1 t1)).mono (by simp only [World.size_alloc]; omega))⟩
theorem bx3 (w : World) (t0 : TypeId) (c0 : Array Value) (t1 : TypeId) (c1 : Array Value) (t2 : TypeId) (c2 : Array Value) : Hid (Own (((w.alloc (.cells c0 t0)).alloc (.cells c1 t1)).alloc (.cells c2 t2)) w.heap.size t0 c0) ∧ Hid (Own (((w.alloc (.cells c0 t0)).alloc (.cells c1 t1)).alloc (.cells c2 t2)) (w.heap.size + 1) t1 c1) ∧ Hid (Own (((w.alloc (.cells c0 t0)).alloc (.cells c1 t1)).alloc (.cells c2 t2)) (w.heap.size + 1 + 1) t2 c2) ∧ Hid (Below w.heap.size w (((w.alloc (.cells c0 t0)).alloc (.cells c1 t1)).alloc (.cells c2 t2))) := by
  exact ⟨by have h := Own.new w t0 c0; (try simp only [World.size_alloc] at h); exact ((h.alloc (.cells c1 t1)).alloc (.cells c2 t2)), by have h := Own.new (w.alloc (.cells c0 t0)) t1 c1; (try simp only [World.size_alloc] at h); exact (h.alloc (.cells c2 t2)), by have h := Own.new ((w.alloc (.cells c0 t0)).alloc (.cells c1 t1)) t2 c2; (try simp only [World.size_alloc] at h); exact h, ((bel_mk w (.cells c0 t0)).trans ((bel_mk (w.alloc (.cells c0 t0)) (.cells c1 t1)).mono (by simp only [World.size_alloc]; omega))).trans ((bel_mk ((w.alloc (.cells c0 t0)).alloc (.cells c1 t1)) (.cells c2 t2)).mono (by simp only [World.size_alloc]; omega))⟩
theorem bx4 (w : World) (t0 : TypeId) (c0 : Array Value) (t1 : TypeId) (c1 : Array Value) (t2 : TypeId) (c2 : Array Value) (t3 : TypeId) (c3 : Array Value) : Hid (Own ((((w.alloc (.cells c0 t0)).alloc (.cells c1 t1)).alloc (.cells c2 t2)).alloc (.cells c3 t3)) w.heap.size t0 c0) ∧ Hid (Own ((((w.alloc (.cells c0 t0)).alloc (.cells c1 t1)).alloc (.cells c2 t2)).alloc (.cells c3 t3)) (w.heap.size + 1) t1 c1) ∧ Hid (Own ((((w.alloc (.cells c0 t0)).alloc (.cells c1 t1)).alloc (.cells c2 t2)).alloc (.cells c3 t3)) (w.heap.size + 1 + 1) t2 c2) ∧ Hid (Own ((((w.alloc (.cells c0 t0)).alloc (.cells c1 t1)).alloc (.cells c2 t2)).alloc (.cells c3 t3)) (w.heap.size + 1 + 1 + 1) t3 c3) ∧ Hid (Below w.heap.size w ((((w.alloc (.cells c0 t0)).alloc (.cells c1 t1)).alloc (.cells c2 t2)).alloc (.cells c3 t3))) := by
  exact ⟨by have h := Own.new w t0 c0; (try simp only [World.size_alloc] at h); exact (((h.alloc (.cells c1 t1)).alloc (.cells c2 t2)).alloc (.cells c3 t3)), by have h := Own.new (w.alloc (.cells c0 t0)) t1 c1; (try simp only [World.size_alloc] at h); exact ((h.alloc (.cells c2 t2)).alloc (.cells c3 t3)), by have h := Own.new ((w.alloc (.cells c0 t0)).alloc (.cells c1 t1)) t2 c2; (try simp only [World.size_alloc] at h); exact (h.alloc (.cells c3 t3)), by have h := Own.new (((w.alloc (.cells c0 t0)).alloc (.cells c1 t1)).alloc (.cells c2 t2)) t3 c3; (try simp only [World.size_alloc] at h); exact h, (((bel_mk w (.cells c0 t0)).trans ((bel_mk (w.alloc (.cells c0 t0)) (.cells c1 t1)).mono (by simp only [World.size_alloc]; omega))).trans ((bel_mk ((w.alloc (.cells c0 t0)).alloc (.cells c1 t1)) (.cells c2 t2)).mono (by simp only [World.size_alloc]; omega))).trans ((bel_mk (((w.alloc (.cells c0 t0)).alloc (.cells c1 t1)).alloc (.cells c2 t2)) (.cells c3 t3)).mono (by simp only [World.size_alloc]; omega))⟩
theorem oc4 (h : Hid (Own w g t #[x0, x1, x2, x3])) : w.cell? ⟨g, 0, none⟩ = some x0 ∧ w.cell? ⟨g, 1, none⟩ = some x1 ∧ w.cell? ⟨g, 2, none⟩ = some x2 ∧ w.cell? ⟨g, 3, none⟩ = some x3 :=
  ⟨h.out.cell 0, h.out.cell 1, h.out.cell 2, h.out.cell 3⟩
theorem om4 (h : Hid (Own w g t #[x0, x1, x2, x3])) : w.cell? ⟨g, 0, none⟩ = some x0 ∧ w.cell? ⟨g, 1, none⟩ = some x1 ∧ w.cell? ⟨g, 2, none⟩ = some x2 ∧ w.cell? ⟨g, 3, none⟩ = some x3 ∧ w.frozen? ⟨g, 0, none⟩ = false ∧ w.frozen? ⟨g, 1, none⟩ = false ∧ w.frozen? ⟨g, 2, none⟩ = false ∧ w.frozen? ⟨g, 3, none⟩ = false :=
  ⟨h.out.cell 0, h.out.cell 1, h.out.cell 2, h.out.cell 3, h.out.free 0, h.out.free 1, h.out.free 2, h.out.free 3⟩
theorem oc7 (h : Hid (Own w g t #[x0, x1, x2, x3, x4, x5, x6])) : w.cell? ⟨g, 0, none⟩ = some x0 ∧ w.cell? ⟨g, 1, none⟩ = some x1 ∧ w.cell? ⟨g, 2, none⟩ = some x2 ∧ w.cell? ⟨g, 3, none⟩ = some x3 ∧ w.cell? ⟨g, 4, none⟩ = some x4 ∧ w.cell? ⟨g, 5, none⟩ = some x5 ∧ w.cell? ⟨g, 6, none⟩ = some x6 :=
  ⟨h.out.cell 0, h.out.cell 1, h.out.cell 2, h.out.cell 3, h.out.cell 4, h.out.cell 5, h.out.cell 6⟩
theorem om7 (h : Hid (Own w g t #[x0, x1, x2, x3, x4, x5, x6])) : w.cell? ⟨g, 0, none⟩ = some x0 ∧ w.cell? ⟨g, 1, none⟩ = some x1 ∧ w.cell? ⟨g, 2, none⟩ = some x2 ∧ w.cell? ⟨g, 3, none⟩ = some x3 ∧ w.cell? ⟨g, 4, none⟩ = some x4 ∧ w.cell? ⟨g, 5, none⟩ = some x5 ∧ w.cell? ⟨g, 6, none⟩ = some x6 ∧ w.frozen? ⟨g, 0, none⟩ = false ∧ w.frozen? ⟨g, 1, none⟩ = false ∧ w.frozen? ⟨g, 2, none⟩ = false ∧ w.frozen? ⟨g, 3, none⟩ = false ∧ w.frozen? ⟨g, 4, none⟩ = false ∧ w.frozen? ⟨g, 5, none⟩ = false ∧ w.frozen? ⟨g, 6, none⟩ = false :=
  ⟨h.out.cell 0, h.out.cell 1, h.out.cell 2, h.out.cell 3, h.out.cell 4, h.out.cell 5, h.out.cell 6, h.out.free 0, h.out.free 1, h.out.free 2, h.out.free 3, h.out.free 4, h.out.free 5, h.out.free 6⟩
theorem oc9 (h : Hid (Own w g t #[x0, x1, x2, x3, x4, x5, x6, x7, x8])) : w.cell? ⟨g, 0, none⟩ = some x0 ∧ w.cell? ⟨g, 1, none⟩ = some x1 ∧ w.cell? ⟨g, 2, none⟩ = some x2 ∧ w.cell? ⟨g, 3, none⟩ = some x3 ∧ w.cell? ⟨g, 4, none⟩ = some x4 ∧ w.cell? ⟨g, 5, none⟩ = some x5 ∧ w.cell? ⟨g, 6, none⟩ = some x6 ∧ w.cell? ⟨g, 7, none⟩ = some x7 ∧ w.cell? ⟨g, 8, none⟩ = some x8 :=
  ⟨h.out.cell 0, h.out.cell 1, h.out.cell 2, h.out.cell 3, h.out.cell 4, h.out.cell 5, h.out.cell 6, h.out.cell 7, h.out.cell 8⟩
theorem om9 (h : Hid (Own w g t #[x0, x1, x2, x3, x4, x5, x6, x7, x8])) : w.cell? ⟨g, 0, none⟩ = some x0 ∧ w.cell? ⟨g, 1, none⟩ = some x1 ∧ w.cell? ⟨g, 2, none⟩ = some x2 ∧ w.cell? ⟨g, 3, none⟩ = some x3 ∧ w.cell? ⟨g, 4, none⟩ = some x4 ∧ w.cell? ⟨g, 5, none⟩ = some x5 ∧ w.cell? ⟨g, 6, none⟩ = some x6 ∧ w.cell? ⟨g, 7, none⟩ = some x7 ∧ w.cell? ⟨g, 8, none⟩ = some x8 ∧ w.frozen? ⟨g, 0, none⟩ = false ∧ w.frozen? ⟨g, 1, none⟩ = false ∧ w.frozen? ⟨g, 2, none⟩ = false ∧ w.frozen? ⟨g, 3, none⟩ = false ∧ w.frozen? ⟨g, 4, none⟩ = false ∧ w.frozen? ⟨g, 5, none⟩ = false ∧ w.frozen? ⟨g, 6, none⟩ = false ∧ w.frozen? ⟨g, 7, none⟩ = false ∧ w.frozen? ⟨g, 8, none⟩ = false :=
  ⟨h.out.cell 0, h.out.cell 1, h.out.cell 2, h.out.cell 3, h.out.cell 4, h.out.cell 5, h.out.cell 6, h.out.cell 7, h.out.cell 8, h.out.free 0, h.out.free 1, h.out.free 2, h.out.free 3, h.out.free 4, h.out.free 5, h.out.free 6, h.out.free 7, h.out.free 8⟩
theorem bl (h : Hid (Own w g t cs)) (hb : Below B w w') (hg : g < B := by omega) : Hid (Own w' g t cs) := h.out.below hb hg
theorem blw (h : Hid (Own w g t cs)) (hb : Below w.heap.size w w') : Hid (Own w' g t cs) := h.out.below hb h.out.lt
theorem drw (h : Hid (Own w g t cs)) : Hid (Own w.drew g t cs) := h
theorem drb (h : Hid (Below B w w')) : Hid (Below B w w'.drew) := h.out.drew
theorem btr (h : Hid (Below w.heap.size w w1)) (hb : Below w1.heap.size w1 w2) : Hid (Below w.heap.size w w2) := h.out.trans (hb.mono h.out.size)
theorem s4 (v0 v1 v2 v3 : Value) (h : Hid (Own w g t #[x0, x1, x2, x3])) (hB : Hid (Below B w0 w)) (hg : B ≤ g := by omega) : Hid (Own ((((w.setCell ⟨g, 0, none⟩ v0).setCell ⟨g, 1, none⟩ v1).setCell ⟨g, 2, none⟩ v2).setCell ⟨g, 3, none⟩ v3) g t #[v0, v1, v2, v3]) ∧ Hid (Below B w0 ((((w.setCell ⟨g, 0, none⟩ v0).setCell ⟨g, 1, none⟩ v1).setCell ⟨g, 2, none⟩ v2).setCell ⟨g, 3, none⟩ v3)) ∧ ∀ b u cs, Hid (Own w b u cs) → b ≠ g → Hid (Own ((((w.setCell ⟨g, 0, none⟩ v0).setCell ⟨g, 1, none⟩ v1).setCell ⟨g, 2, none⟩ v2).setCell ⟨g, 3, none⟩ v3) b u cs) := by
  refine ⟨?_, ((((hB.out.setCell (p := ⟨g, 0, none⟩) hg v0).setCell (p := ⟨g, 1, none⟩) hg v1).setCell (p := ⟨g, 2, none⟩) hg v2).setCell (p := ⟨g, 3, none⟩) hg v3), fun b u cs hb hne => ((((hb.out.far (p := ⟨g, 0, none⟩) hne v0).far (p := ⟨g, 1, none⟩) hne v1).far (p := ⟨g, 2, none⟩) hne v2).far (p := ⟨g, 3, none⟩) hne v3)⟩
  have hx := ((((h.out.store 0 v0).store 1 v1).store 2 v2).store 3 v3)
  simp only [List.setIfInBounds_toArray, List.set_cons_zero, List.set_cons_succ] at hx
  exact hx
theorem s9 (v0 v1 v2 v3 v4 v5 v6 v7 v8 : Value) (h : Hid (Own w g t #[x0, x1, x2, x3, x4, x5, x6, x7, x8])) (hB : Hid (Below B w0 w)) (hg : B ≤ g := by omega) : Hid (Own (((((((((w.setCell ⟨g, 0, none⟩ v0).setCell ⟨g, 1, none⟩ v1).setCell ⟨g, 2, none⟩ v2).setCell ⟨g, 3, none⟩ v3).setCell ⟨g, 4, none⟩ v4).setCell ⟨g, 5, none⟩ v5).setCell ⟨g, 6, none⟩ v6).setCell ⟨g, 7, none⟩ v7).setCell ⟨g, 8, none⟩ v8) g t #[v0, v1, v2, v3, v4, v5, v6, v7, v8]) ∧ Hid (Below B w0 (((((((((w.setCell ⟨g, 0, none⟩ v0).setCell ⟨g, 1, none⟩ v1).setCell ⟨g, 2, none⟩ v2).setCell ⟨g, 3, none⟩ v3).setCell ⟨g, 4, none⟩ v4).setCell ⟨g, 5, none⟩ v5).setCell ⟨g, 6, none⟩ v6).setCell ⟨g, 7, none⟩ v7).setCell ⟨g, 8, none⟩ v8)) ∧ ∀ b u cs, Hid (Own w b u cs) → b ≠ g → Hid (Own (((((((((w.setCell ⟨g, 0, none⟩ v0).setCell ⟨g, 1, none⟩ v1).setCell ⟨g, 2, none⟩ v2).setCell ⟨g, 3, none⟩ v3).setCell ⟨g, 4, none⟩ v4).setCell ⟨g, 5, none⟩ v5).setCell ⟨g, 6, none⟩ v6).setCell ⟨g, 7, none⟩ v7).setCell ⟨g, 8, none⟩ v8) b u cs) := by
  refine ⟨?_, (((((((((hB.out.setCell (p := ⟨g, 0, none⟩) hg v0).setCell (p := ⟨g, 1, none⟩) hg v1).setCell (p := ⟨g, 2, none⟩) hg v2).setCell (p := ⟨g, 3, none⟩) hg v3).setCell (p := ⟨g, 4, none⟩) hg v4).setCell (p := ⟨g, 5, none⟩) hg v5).setCell (p := ⟨g, 6, none⟩) hg v6).setCell (p := ⟨g, 7, none⟩) hg v7).setCell (p := ⟨g, 8, none⟩) hg v8), fun b u cs hb hne => (((((((((hb.out.far (p := ⟨g, 0, none⟩) hne v0).far (p := ⟨g, 1, none⟩) hne v1).far (p := ⟨g, 2, none⟩) hne v2).far (p := ⟨g, 3, none⟩) hne v3).far (p := ⟨g, 4, none⟩) hne v4).far (p := ⟨g, 5, none⟩) hne v5).far (p := ⟨g, 6, none⟩) hne v6).far (p := ⟨g, 7, none⟩) hne v7).far (p := ⟨g, 8, none⟩) hne v8)⟩
  have hx := (((((((((h.out.store 0 v0).store 1 v1).store 2 v2).store 3 v3).store 4 v4).store 5 v5).store 6 v6).store 7 v7).store 8 v8)
  simp only [List.setIfInBounds_toArray, List.set_cons_zero, List.set_cons_succ] at hx
  exact hx
theorem s94 (v0 v1 v2 v3 : Value) (h : Hid (Own w g t #[x0, x1, x2, x3, x4, x5, x6, x7, x8])) (hB : Hid (Below B w0 w)) (hg : B ≤ g := by omega) : Hid (Own ((((w.setCell ⟨g, 0, none⟩ v0).setCell ⟨g, 1, none⟩ v1).setCell ⟨g, 2, none⟩ v2).setCell ⟨g, 3, none⟩ v3) g t #[v0, v1, v2, v3, x4, x5, x6, x7, x8]) ∧ Hid (Below B w0 ((((w.setCell ⟨g, 0, none⟩ v0).setCell ⟨g, 1, none⟩ v1).setCell ⟨g, 2, none⟩ v2).setCell ⟨g, 3, none⟩ v3)) ∧ ∀ b u cs, Hid (Own w b u cs) → b ≠ g → Hid (Own ((((w.setCell ⟨g, 0, none⟩ v0).setCell ⟨g, 1, none⟩ v1).setCell ⟨g, 2, none⟩ v2).setCell ⟨g, 3, none⟩ v3) b u cs) := by
  refine ⟨?_, ((((hB.out.setCell (p := ⟨g, 0, none⟩) hg v0).setCell (p := ⟨g, 1, none⟩) hg v1).setCell (p := ⟨g, 2, none⟩) hg v2).setCell (p := ⟨g, 3, none⟩) hg v3), fun b u cs hb hne => ((((hb.out.far (p := ⟨g, 0, none⟩) hne v0).far (p := ⟨g, 1, none⟩) hne v1).far (p := ⟨g, 2, none⟩) hne v2).far (p := ⟨g, 3, none⟩) hne v3)⟩
  have hx := ((((h.out.store 0 v0).store 1 v1).store 2 v2).store 3 v3)
  simp only [List.setIfInBounds_toArray, List.set_cons_zero, List.set_cons_succ] at hx
  exact hx
theorem s98 (v0 v1 v2 v3 : Value) (h : Hid (Own w g t #[x0, x1, x2, x3, x4, x5, x6, x7, x8])) (hB : Hid (Below B w0 w)) (hg : B ≤ g := by omega) : Hid (Own ((((w.setCell ⟨g, 4, none⟩ v0).setCell ⟨g, 5, none⟩ v1).setCell ⟨g, 6, none⟩ v2).setCell ⟨g, 7, none⟩ v3) g t #[x0, x1, x2, x3, v0, v1, v2, v3, x8]) ∧ Hid (Below B w0 ((((w.setCell ⟨g, 4, none⟩ v0).setCell ⟨g, 5, none⟩ v1).setCell ⟨g, 6, none⟩ v2).setCell ⟨g, 7, none⟩ v3)) ∧ ∀ b u cs, Hid (Own w b u cs) → b ≠ g → Hid (Own ((((w.setCell ⟨g, 4, none⟩ v0).setCell ⟨g, 5, none⟩ v1).setCell ⟨g, 6, none⟩ v2).setCell ⟨g, 7, none⟩ v3) b u cs) := by
  refine ⟨?_, ((((hB.out.setCell (p := ⟨g, 4, none⟩) hg v0).setCell (p := ⟨g, 5, none⟩) hg v1).setCell (p := ⟨g, 6, none⟩) hg v2).setCell (p := ⟨g, 7, none⟩) hg v3), fun b u cs hb hne => ((((hb.out.far (p := ⟨g, 4, none⟩) hne v0).far (p := ⟨g, 5, none⟩) hne v1).far (p := ⟨g, 6, none⟩) hne v2).far (p := ⟨g, 7, none⟩) hne v3)⟩
  have hx := ((((h.out.store 4 v0).store 5 v1).store 6 v2).store 7 v3)
  simp only [List.setIfInBounds_toArray, List.set_cons_zero, List.set_cons_succ] at hx
  exact hx
theorem s7 (v0 v1 v2 v3 v4 v5 v6 : Value) (h : Hid (Own w g t #[x0, x1, x2, x3, x4, x5, x6])) (hB : Hid (Below B w0 w)) (hg : B ≤ g := by omega) : Hid (Own (((((((w.setCell ⟨g, 0, none⟩ v0).setCell ⟨g, 1, none⟩ v1).setCell ⟨g, 2, none⟩ v2).setCell ⟨g, 3, none⟩ v3).setCell ⟨g, 4, none⟩ v4).setCell ⟨g, 5, none⟩ v5).setCell ⟨g, 6, none⟩ v6) g t #[v0, v1, v2, v3, v4, v5, v6]) ∧ Hid (Below B w0 (((((((w.setCell ⟨g, 0, none⟩ v0).setCell ⟨g, 1, none⟩ v1).setCell ⟨g, 2, none⟩ v2).setCell ⟨g, 3, none⟩ v3).setCell ⟨g, 4, none⟩ v4).setCell ⟨g, 5, none⟩ v5).setCell ⟨g, 6, none⟩ v6)) ∧ ∀ b u cs, Hid (Own w b u cs) → b ≠ g → Hid (Own (((((((w.setCell ⟨g, 0, none⟩ v0).setCell ⟨g, 1, none⟩ v1).setCell ⟨g, 2, none⟩ v2).setCell ⟨g, 3, none⟩ v3).setCell ⟨g, 4, none⟩ v4).setCell ⟨g, 5, none⟩ v5).setCell ⟨g, 6, none⟩ v6) b u cs) := by
  refine ⟨?_, (((((((hB.out.setCell (p := ⟨g, 0, none⟩) hg v0).setCell (p := ⟨g, 1, none⟩) hg v1).setCell (p := ⟨g, 2, none⟩) hg v2).setCell (p := ⟨g, 3, none⟩) hg v3).setCell (p := ⟨g, 4, none⟩) hg v4).setCell (p := ⟨g, 5, none⟩) hg v5).setCell (p := ⟨g, 6, none⟩) hg v6), fun b u cs hb hne => (((((((hb.out.far (p := ⟨g, 0, none⟩) hne v0).far (p := ⟨g, 1, none⟩) hne v1).far (p := ⟨g, 2, none⟩) hne v2).far (p := ⟨g, 3, none⟩) hne v3).far (p := ⟨g, 4, none⟩) hne v4).far (p := ⟨g, 5, none⟩) hne v5).far (p := ⟨g, 6, none⟩) hne v6)⟩
  have hx := (((((((h.out.store 0 v0).store 1 v1).store 2 v2).store 3 v3).store 4 v4).store 5 v5).store 6 v6)
  simp only [List.setIfInBounds_toArray, List.set_cons_zero, List.set_cons_succ] at hx
  exact hx
end Go.Proofs.Yteihjneeiojgaaa
/-
  Ascending lists of numbers. Conditions: none.
-/
namespace Go.Proofs.Yteihjneeiojgaaa
set_option maxRecDepth 100000
set_option linter.unusedVariables false
set_option linter.unusedSimpArgs false
open Go.Lib

def AscI (l : List Int) : Prop := l.Pairwise (· < ·)
/-- Two ascending lists with the same members are the same. -/
theorem asc_ext : ∀ (a b : List Int), AscI a → AscI b → (∀ x, x ∈ a ↔ x ∈ b) → a = b
  | [], [], _, _, _ => rfl
  | [], y :: b, _, _, h => by have := (h y).2 List.mem_cons_self; simp at this
  | x :: a, [], _, _, h => by have := (h x).1 List.mem_cons_self; simp at this
  | x :: a, y :: b, ha, hb, h => by
    have ha1 := List.pairwise_cons.1 ha
    have hb1 := List.pairwise_cons.1 hb
    have hxy : x = y := by
      rcases List.mem_cons.1 ((h x).1 List.mem_cons_self) with e | hx
      · exact e
      · rcases List.mem_cons.1 ((h y).2 List.mem_cons_self) with e | hy
        · exact e.symm
        · have h1 := hb1.1 x hx
          have h2 := ha1.1 y hy
          omega
    subst hxy
    congr 1
    refine asc_ext a b ha1.2 hb1.2 fun z => ⟨fun hz => ?_, fun hz => ?_⟩
    · rcases List.mem_cons.1 ((h z).1 (List.mem_cons_of_mem _ hz)) with e | h1
      · have := ha1.1 z hz; omega
      · exact h1
    · rcases List.mem_cons.1 ((h z).2 (List.mem_cons_of_mem _ hz)) with e | h1
      · have := hb1.1 z hz; omega
      · exact h1
theorem comp_asc (d : Array Int) (h : ∀ i j, i ≤ j → j < d.size → d[i]! ≤ d[j]!) : ∀ m, m ≤ d.size → AscI (compactUpTo d m) ∧ (∀ x, x ∈ compactUpTo d m ↔ ∃ j, j < m ∧ d[j]! = x)
  | 0, _ => ⟨by simp [compactUpTo, AscI], fun x => by simp [compactUpTo]⟩
  | m + 1, hm => by
    obtain ⟨h1, h2⟩ := comp_asc d h m (by omega)
    rw [compactUpTo_succ]
    by_cases hk : keeps d m = true
    · rw [if_pos hk]
      refine ⟨List.pairwise_append.2 ⟨h1, by simp, fun a ha b hb => ?_⟩, fun x => ?_⟩
      · simp only [List.mem_singleton] at hb
        subst hb
        obtain ⟨j, hj, rfl⟩ := (h2 a).1 ha
        have hne : d[m]! ≠ d[m - 1]! := by
          unfold keeps at hk
          have := of_decide_eq_true hk
          rcases this with h0 | h0
          · omega
          · exact h0
        have ha := h j (m - 1) (by omega) (by omega)
        have hb := h (m - 1) m (by omega) (by omega)
        omega
      · rw [List.mem_append, h2 x, List.mem_singleton]
        constructor
        · rintro (⟨j, hj, e⟩ | rfl)
          · exact ⟨j, by omega, e⟩
          · exact ⟨m, by omega, rfl⟩
        · rintro ⟨j, hj, e⟩
          by_cases hjm : j = m
          · subst hjm; exact .inr e.symm
          · exact .inl ⟨j, by omega, e⟩
    · rw [if_neg hk, List.append_nil]
      refine ⟨h1, fun x => (h2 x).trans ⟨fun ⟨j, hj, e⟩ => ⟨j, by omega, e⟩, fun ⟨j, hj, e⟩ => ?_⟩⟩
      by_cases hjm : j = m
      · subst hjm
        unfold keeps at hk
        have hk2 : ¬ (j = 0 ∨ d[j]! ≠ d[j - 1]!) := fun h0 => hk (decide_eq_true h0)
        have hj0 : j ≠ 0 := fun h0 => hk2 (.inl h0)
        have he : d[j]! = d[j - 1]! := Decidable.byContradiction fun h0 => hk2 (.inr h0)
        exact ⟨j - 1, by omega, by rw [← he]; exact e⟩
      · exact ⟨j, by omega, e⟩
/-- A list sorted and its runs made single: ascending, with the same members. -/
def colS (l : List Int) : List Int := compact (l.mergeSort fun x y => decide (x ≤ y))
theorem colS_asc (l : List Int) : AscI (colS l) ∧ ∀ x, x ∈ colS l ↔ x ∈ l := by
  have hp : List.Pairwise (fun x y : Int => (decide (x ≤ y)) = true) (l.mergeSort fun x y => decide (x ≤ y)) := List.pairwise_mergeSort (fun a b c => by simp only [decide_eq_true_eq]; omega) (fun a b => by simp only [Bool.or_eq_true, decide_eq_true_eq]; omega) l
  have hm : ∀ x, x ∈ (l.mergeSort fun x y => decide (x ≤ y)) ↔ x ∈ l := fun x => List.mem_mergeSort
  unfold colS compact
  generalize (l.mergeSort fun x y => decide (x ≤ y)) = ms at *
  have hget : ∀ i (hi : i < ms.length), ms.toArray[i]! = ms[i] := fun i hi => by rw [getElem!_pos ms.toArray i (by simpa using hi)]; simp
  have h := comp_asc ms.toArray (fun i j hij hj => by
    have hj2 : j < ms.length := by simpa using hj
    rw [hget i (by omega), hget j hj2]
    by_cases e : i = j
    · subst e; exact Int.le_refl _
    · exact of_decide_eq_true (List.pairwise_iff_getElem.1 hp i j (by omega) hj2 (by omega))) ms.length (by simp)
  refine ⟨h.1, fun x => (h.2 x).trans (Iff.trans ?_ (hm x))⟩
  constructor
  · rintro ⟨j, hj, e⟩
    rw [hget j hj] at e
    exact e ▸ List.getElem_mem hj
  · intro hx
    obtain ⟨j, hj, e⟩ := List.getElem_of_mem hx
    exact ⟨j, hj, by rw [hget j hj]; exact e⟩
theorem colS_len (l : List Int) : (colS l).length ≤ l.length := by
  unfold colS compact compactUpTo
  rw [List.length_map]
  refine Nat.le_trans (List.length_filter_le _ _) ?_
  rw [List.length_range, List.length_mergeSort]
  exact Nat.le_refl _
/-- The reference's insert: the smaller ones, the number, the others without it. -/
def lowI (l : List Int) (n : Int) : List Int := l.takeWhile fun x => decide (x < n)
def insI (l : List Int) (n : Int) : List Int := lowI l n ++ n :: ((l.drop (lowI l n).length).filter fun x => decide (x ≠ n))
theorem lowI_cons (x : Int) (l : List Int) (n : Int) : lowI (x :: l) n = if x < n then x :: lowI l n else [] := by
  unfold lowI
  by_cases h : x < n
  · rw [if_pos h, List.takeWhile_cons_of_pos (by simpa using h)]
  · rw [if_neg h, List.takeWhile_cons_of_neg (by simpa using h)]
theorem insI_cons (x : Int) (l : List Int) (n : Int) : insI (x :: l) n = if x < n then x :: insI l n else n :: ((x :: l).filter fun x => decide (x ≠ n)) := by
  unfold insI
  rw [lowI_cons]
  by_cases h : x < n
  · rw [if_pos h, if_pos h]
    simp
  · rw [if_neg h, if_neg h]
    simp
theorem insI_asc : ∀ (l : List Int) (n : Int), AscI l → AscI (insI l n) ∧ (∀ x, x ∈ insI l n ↔ x ∈ l ∨ x = n)
  | [], n, _ => ⟨by simp [insI, lowI, AscI], fun x => by simp [insI, lowI]⟩
  | y :: l, n, h => by
    have h1 := List.pairwise_cons.1 h
    obtain ⟨ha, hm⟩ := insI_asc l n h1.2
    rw [insI_cons]
    by_cases hy : y < n
    · rw [if_pos hy]
      refine ⟨List.pairwise_cons.2 ⟨fun b hb => ?_, ha⟩, fun x => ?_⟩
      · rcases (hm b).1 hb with h0 | rfl
        · exact h1.1 b h0
        · exact hy
      · rw [List.mem_cons, hm x, List.mem_cons, or_assoc]
    · rw [if_neg hy]
      refine ⟨List.pairwise_cons.2 ⟨fun b hb => ?_, h.sublist List.filter_sublist⟩, fun x => ?_⟩
      · obtain ⟨hb1, hb2⟩ := List.mem_filter.1 hb
        have hb3 : b ≠ n := by simpa using hb2
        rcases List.mem_cons.1 hb1 with rfl | h0
        · omega
        · have := h1.1 b h0; omega
      · rw [List.mem_cons, List.mem_filter]
        constructor
        · rintro (rfl | ⟨h0, _⟩)
          · exact .inr rfl
          · exact .inl h0
        · rintro (h0 | rfl)
          · by_cases e : x = n
            · exact .inl e
            · exact .inr ⟨h0, by simpa using e⟩
          · exact .inl rfl
theorem insI_len (l : List Int) (n : Int) : (insI l n).length ≤ l.length + 1 := by
  unfold insI
  rw [List.length_append, List.length_cons]
  have h1 : (lowI l n).length ≤ l.length := List.Sublist.length_le (List.takeWhile_sublist _)
  have h2 : ((l.drop (lowI l n).length).filter fun x => decide (x ≠ n)).length ≤ (l.drop (lowI l n).length).length := List.length_filter_le _ _
  rw [List.length_drop] at h2
  omega
theorem foldI_asc : ∀ (m l : List Int), AscI l → AscI (m.foldl insI l) ∧ ∀ x, x ∈ m.foldl insI l ↔ x ∈ l ∨ x ∈ m
  | [], l, h => ⟨h, fun x => by simp⟩
  | y :: m, l, h => by
    obtain ⟨h1, h2⟩ := insI_asc l y h
    obtain ⟨h3, h4⟩ := foldI_asc m (insI l y) h1
    refine ⟨h3, fun x => ?_⟩
    rw [List.foldl_cons, h4 x, h2 x, List.mem_cons, or_assoc]
theorem foldI_len : ∀ (m l : List Int), (m.foldl insI l).length ≤ l.length + m.length
  | [], l => Nat.le_refl _
  | y :: m, l => by
    have h1 := foldI_len m (insI l y)
    have h2 := insI_len l y
    rw [List.foldl_cons, List.length_cons]
    omega
end Go.Proofs.Yteihjneeiojgaaa
