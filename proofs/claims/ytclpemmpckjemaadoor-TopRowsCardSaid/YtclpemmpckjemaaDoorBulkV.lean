/-
  How parameters that are slices of values are opened, and how much they hold, as the second forms reckon it. Conditions: none.
-/
import Derived.Test.YtclpemmpckjemaaDoorBulkO
import Derived.Test.YtclpemmpckjemaaDoorCoRa
import Derived.Deep.SlicePairs
namespace Go.Proofs.YtclpemmpckjemaaDoor
open Go.ChangeShapes Go.WideShapes Go.ChangeAt Go.RowKit Go.Joins Go.Deep

theorem cellsInt1 : Tryd.prog.cellsOf 3 = 1 := by kernel_rfl
theorem cellsStr1 : Tryd.prog.cellsOf 9 = 1 := by kernel_rfl
theorem addr_add1 (ad : Addr) : ad.add 1 = ⟨ad.block, ad.off + 1, none⟩ := by unfold Addr.add; simp
theorem addr_add2 (ad : Addr) : ad.add 2 = ⟨ad.block, ad.off + 2, none⟩ := by unfold Addr.add; simp
theorem bulk_vals {H : Type} (q : Nat → Vl) (D : Nat → DataW H) : ∀ l : List Nat, (∀ i ∈ l, (q i).2.2.size + 4 ≤ Rows.uptoBulk (D i)) → szL (l.map q) ≤ 3 * Rows.uptoBulkAll (l.map D) ∧ l.length ≤ Rows.uptoBulkAll (l.map D) := by
  intro l
  induction l with
  | nil => intro _; simp [szL]
  | cons i l ih =>
    intro h
    have h1 := h i (List.mem_cons_self ..)
    obtain ⟨h2, h3⟩ := ih (fun j hj => h j (List.mem_cons_of_mem _ hj))
    unfold szL at h2 ⊢
    simp only [List.map_cons, List.sum_cons, Rows.uptoBulkAll, List.length_cons]
    constructor <;> omega
section
variable {H : Type} {enc : TypeId × Value → H} {W : World} {base : Nat}
set_option maxRecDepth 100000 in
theorem open_valsU {v : Value} {d : DataW H} {p : List MemPlace} (hv : Value.okWide Tryd.prog W .any base 22 v) (h : DataW.Trod enc Tryd.prog W 0 (fun _ => true) true 22 v d p) :
    ∃ ps : List Vl, RdV W 0 W.heap.size v ps ∧ (∀ n c, v = .slice none n c → c = 0) ∧ szL ps ≤ 3 * Rows.uptoBulk d ∧ ps.length ≤ Rows.uptoBulk d := by
  obtain ⟨a0, len0, cap0, rfl⟩ := okWide_slice Tryd.underlying22 hv
  obtain ⟨fuel, hf⟩ := h
  rcases open_slice Tryd.underlying22 hf with ⟨hcs, _⟩ | ⟨a, len, cap, m, n, D, Pl, hcs, _, hl, hm, hmm, hxx, hx⟩
  · simp only [Value.cells, List.cons.injEq, and_true] at hcs
    injection hcs with e1 e2 e3
    subst e1 e2 e3
    exact ⟨[], ⟨none, 0, rfl, by simp, by simp⟩, fun n c e => by injection e with _ _ e3; exact e3.symm, by simp [szL], by simp⟩
  · simp only [Value.cells, List.cons.injEq, and_true] at hcs
    injection hcs with e1 e2 e3
    subst e1 e2 e3
    rw [if_pos rfl] at hmm
    subst hmm
    have hml := maxLen_le
    have each : ∀ i, i < len0 → ∃ q : Vl, W.cell? (a.add (i * 3)) = some (.int .i64 q.1) ∧ W.cell? ⟨(a.add (i * 3)).block, (a.add (i * 3)).off + 1, none⟩ = some (.int .i64 q.2.1) ∧ W.cell? ⟨(a.add (i * 3)).block, (a.add (i * 3)).off + 2, none⟩ = some (.string q.2.2) ∧ q.2.2.size + 4 ≤ Rows.uptoBulk (D i) := by
      intro i hi
      obtain ⟨cs', hc, ht⟩ := hx i (by omega)
      rw [cellsVal] at hc
      obtain ⟨_, hcl, hat⟩ := World.cells?_some hc
      obtain ⟨xs, n', _, hxy, _, hxl, hfl⟩ := DataW.trod_struct Tryd.underlying24 ht
      match xs, hxl, cs', hcl with
      | [y0, y1, y2], _, [v0, v1, v2], _ =>
        have g0 := hfl 0 _ rfl
        have g1 := hfl 1 _ rfl
        have g2 := hfl 2 _ rfl
        simp [cellsInt1, cellsStr1] at g0 g1 g2
        have e0 := hat 0 (by omega)
        have e1 := hat 1 (by omega)
        have e2 := hat 2 (by omega)
        rw [addr_add1] at e1
        rw [addr_add2] at e2
        obtain ⟨x, f0, hy0, _⟩ := DataW.trod_int Tryd.underlying3 g0
        obtain ⟨y, f1, hy1, _⟩ := DataW.trod_int Tryd.underlying3 g1
        obtain ⟨s, f2, hy2, _⟩ := DataW.trod_string Tryd.underlying9 g2
        simp at f0 f1 f2
        subst f0 f1 f2
        refine ⟨(x, y, s), by simpa [show (a.add (i * 3)).add 0 = a.add (i * 3) by unfold Addr.add; simp] using e0, by simpa using e1, by simpa using e2, ?_⟩
        have hD := congrArg Prod.fst hxy
        have hD2 : D i = .agg [y0.1, y1.1, y2.1] := by simpa using hD
        rw [hD2, hy0, hy1, hy2]
        simp only [Rows.uptoBulk, Rows.uptoBulkAll]
        have := Lib.size_eq s
        omega
    obtain ⟨q, hq⟩ := choose_lt each
    have hd := congrArg Prod.fst hxx
    have hd' : d = .slice ((List.range len0).map D) ((List.range (m - len0)).map fun j => D (len0 + j)) := hd
    obtain ⟨hb1, hb2⟩ := bulk_vals q D (List.range len0) (fun i hi => (hq i (List.mem_range.1 hi)).2.2.2)
    refine ⟨(List.range len0).map q, ⟨some a, _, by rw [List.length_map, List.length_range], by rw [List.length_map, List.length_range]; omega, fun k p hk => ?_⟩, (by intro n c e; cases e), ?_, ?_⟩
    · obtain ⟨hk1, hk2⟩ := List.getElem?_eq_some_iff.1 hk
      simp at hk1 hk2
      subst hk2
      obtain ⟨g0, g1, g2, _⟩ := hq k hk1
      have hb := cell_lt g0
      rw [add_block] at hb
      exact ⟨a, rfl, Nat.zero_le _, hb, g0, g1, g2⟩
    · rw [hd']
      show _ ≤ 3 * (Rows.uptoBulkAll _ + Rows.uptoBulkAll _ + 1)
      omega
    · rw [hd', List.length_map]
      show _ ≤ (Rows.uptoBulkAll _ + Rows.uptoBulkAll _ + 1)
      omega
end
end Go.Proofs.YtclpemmpckjemaaDoor
