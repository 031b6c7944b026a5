/-
  How much a slice of bytes holds, as the second forms reckon it. Conditions: none.
-/
import Derived.Test.YtkhdfjneibnlmaaDoorFraF
import Derived.Test.YtkhdfjneibnlmaaDoorLiftZ
namespace Go.Proofs.YtkhdfjneibnlmaaDoor
open Go.ChangeShapes Go.WideShapes Go.ChangeAt Go.RowKit Go.Joins Go.Deep

theorem bulk_lits {H : Type} (k : IntKind) : ∀ zs : List Int, Rows.uptoBulkAll (lits k zs : List (DataW H)) = zs.length := by
  intro zs
  induction zs with
  | nil => rfl
  | cons z zs ih =>
    show Rows.uptoBulk (DataW.lit (Lit.int k z)) + Rows.uptoBulkAll (lits k zs) = _
    rw [ih, List.length_cons]
    show 1 + _ = _
    omega
section
variable {H : Type} {enc : TypeId × Value → H} {W : World} {base : Nat}
theorem open_bytesU {v : Value} {d : DataW H} {p : List MemPlace} (hv : Value.okWide Tryd.prog W .any base 22 v) (h : DataW.Trod enc Tryd.prog W 0 (fun _ => true) true 22 v d p) :
    ∃ l : List UInt8, RdB W 0 W.heap.size v l ∧ (∀ n c, v = .slice none n c → c = 0) ∧ l.length ≤ Rows.uptoBulk d := by
  obtain ⟨l, h1, h2⟩ := open_bytes hv h
  refine ⟨l, h1, h2, ?_⟩
  obtain ⟨a0, len0, cap0, rfl⟩ := okWide_slice Tryd.underlying22 hv
  obtain ⟨A, c, hA, _⟩ := h1
  injection hA with _ e2 _
  obtain ⟨fuel, hf⟩ := h
  rcases ChangeShapes.open_ints Tryd.underlying22 Tryd.underlying5 cellsU8 hf with ⟨hcs, _⟩ | ⟨a, len, cap, zs, hcs, _, hl, hm, hzl, hx, _, _⟩
  · simp only [Value.cells, List.cons.injEq, and_true] at hcs
    injection hcs with e1 e3 e4
    omega
  · simp only [Value.cells, List.cons.injEq, and_true] at hcs
    injection hcs with e1 e3 e4
    rw [if_pos rfl] at hzl
    have hd := congrArg Prod.fst hx
    have hd' : d = .slice (lits .u8 (zs.take len)) (lits .u8 (zs.drop len)) := hd
    rw [hd']
    show _ ≤ Rows.uptoBulkAll _ + Rows.uptoBulkAll _ + 1
    rw [bulk_lits, List.length_take]
    omega
theorem open_bytesD {v : Value} {d : DataW H} {p : List MemPlace} (hv : Value.okWide Tryd.prog W .any base 22 v) (h : DataW.Trod enc Tryd.prog W 0 (fun _ => true) true 22 v d p) :
    ∃ l : List UInt8, RdB W 0 W.heap.size v l ∧ (∀ n c, v = .slice none n c → c = 0) ∧ (l = [] ∨ ∃ es sp, d = .slice es sp ∧ es.length = l.length) := by
  obtain ⟨l, h1, h2⟩ := open_bytes hv h
  refine ⟨l, h1, h2, ?_⟩
  obtain ⟨a0, len0, cap0, rfl⟩ := okWide_slice Tryd.underlying22 hv
  obtain ⟨A, c, hA, _⟩ := h1
  injection hA with _ e2 _
  obtain ⟨fuel, hf⟩ := h
  rcases ChangeShapes.open_ints Tryd.underlying22 Tryd.underlying5 cellsU8 hf with ⟨hcs, _⟩ | ⟨a, len, cap, zs, hcs, _, hl, hm, hzl, hx, _, _⟩
  · simp only [Value.cells, List.cons.injEq, and_true] at hcs
    injection hcs with e1 e3 e4
    exact .inl (List.eq_nil_of_length_eq_zero (by omega))
  · simp only [Value.cells, List.cons.injEq, and_true] at hcs
    injection hcs with e1 e3 e4
    rw [if_pos rfl] at hzl
    have hd := congrArg Prod.fst hx
    have hd' : d = .slice (lits .u8 (zs.take len)) (lits .u8 (zs.drop len)) := hd
    exact .inr ⟨_, _, hd', by unfold lits; rw [List.length_map, List.length_take]; omega⟩
end
end Go.Proofs.YtkhdfjneibnlmaaDoor
