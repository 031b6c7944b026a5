/-
  How much a slice of bytes holds, as the second forms reckon it. Conditions: none.
-/
import Derived.Test.YtomiegfblhhhpaaFraO
import Derived.Test.YtomiegfblhhhpaaFraQ
import Derived.Test.YtomiegfblhhhpaaLiftZ
namespace Go.Proofs.Ytomiegfblhhhpaa
open Go.ChangeShapes Go.WideShapes Go.ChangeAt Go.RowKit Go.Joins Go.Deep

theorem bulk_lits {H : Type} (k : IntKind) : ∀ zs : List Int, Rows.uptoBulkAll (lits k zs : List (DataW H)) = zs.length := by
  intro zs
  induction zs with
  | nil => rfl
  | cons z zs ih =>
    show Rows.uptoBulk (DataW.lit (Lit.int k z)) + Rows.uptoBulkAll (lits k zs) = _
    rw [ih, List.length_cons]
    show 1 + _ = _
    omega
section
variable {H : Type} {enc : TypeId × Value → H} {W : World} {base : Nat}
theorem open_valU {v : Value} {d : DataW H} {p : List MemPlace} (hv : Value.okWide Try.prog W .any base 35 v) (h : DataW.Trod enc Try.prog W 0 (fun _ => true) true 35 v d p) :
    ∃ (k n : Int) (s : ByteArray), v = .agg #[.int .i64 k, .int .i64 n, .string s] ∧ I64 k ∧ I64 n ∧ s.size + 4 ≤ Rows.uptoBulk d := by
  obtain ⟨c0, c1, c2, y0, y1, y2, m, rfl, rfl, rfl, hy0, hy1, hy2⟩ := open_agg3 Try.underlying35 (by kernel_rfl) cellsVal hv h
  obtain ⟨a, e0, rfl, wa⟩ := DataW.trod_int Try.underlying3 hy0
  obtain ⟨b, e1, rfl, wb⟩ := DataW.trod_int Try.underlying3 hy1
  obtain ⟨s, e2, rfl, ws⟩ := DataW.trod_string Try.underlying9 hy2
  simp at e0 e1 e2
  subst e0 e1 e2
  refine ⟨a, b, s, rfl, i64_wf wa, i64_wf wb, ?_⟩
  simp only [Rows.uptoBulk, Rows.uptoBulkAll]
  have := Lib.size_eq s
  omega
theorem open_bytesU {v : Value} {d : DataW H} {p : List MemPlace} (hv : Value.okWide Try.prog W .any base 22 v) (h : DataW.Trod enc Try.prog W 0 (fun _ => true) true 22 v d p) :
    ∃ l : List UInt8, RdB W 0 W.heap.size v l ∧ (∀ n c, v = .slice none n c → c = 0) ∧ l.length ≤ Rows.uptoBulk d := by
  obtain ⟨l, h1, h2⟩ := open_bytes hv h
  refine ⟨l, h1, h2, ?_⟩
  obtain ⟨a0, len0, cap0, rfl⟩ := okWide_slice Try.underlying22 hv
  obtain ⟨A, c, hA, _⟩ := h1
  injection hA with _ e2 _
  obtain ⟨fuel, hf⟩ := h
  rcases ChangeShapes.open_ints Try.underlying22 Try.underlying5 cellsU8 hf with ⟨hcs, _⟩ | ⟨a, len, cap, zs, hcs, _, hl, hm, hzl, hx, _, _⟩
  · simp only [Value.cells, List.cons.injEq, and_true] at hcs
    injection hcs with e1 e3 e4
    omega
  · simp only [Value.cells, List.cons.injEq, and_true] at hcs
    injection hcs with e1 e3 e4
    rw [if_pos rfl] at hzl
    have hd := congrArg Prod.fst hx
    have hd' : d = .slice (lits .u8 (zs.take len)) (lits .u8 (zs.drop len)) := hd
    rw [hd']
    show _ ≤ Rows.uptoBulkAll _ + Rows.uptoBulkAll _ + 1
    rw [bulk_lits, List.length_take]
    omega
end
end Go.Proofs.Ytomiegfblhhhpaa
