/-
  What the statements' rows give at their first world; how slices of bytes and numbers are opened, with what a machine bears. Conditions: none.
-/
import Derived.Test.YtclpemmpckjemaaDoorRows
import Derived.Test.YtclpemmpckjemaaDoorCo2
import Derived.Test.YtclpemmpckjemaaDoorLiftZ
import Derived.MakeChecks
import Derived.ProofKit
import Derived.LaidMore
import Derived.Lay
import Derived.OpenShut
import Derived.ChangeSlices
import Derived.SizedLaws
import Derived.Deep.Slices
import Derived.Lib.SmallJoins
namespace Go.Proofs.YtclpemmpckjemaaDoor
open Go.ChangeShapes Go.WideShapes Go.ChangeAt Go.RowKit Go.Joins Go.Deep

theorem own : ownKnob Tryd.prog.godebug = none := by kernel_rfl
theorem laidOut : laidOutB Tryd.prog = true := by kernel_rfl
theorem cellsU8 : Tryd.prog.cellsOf 5 = 1 := by kernel_rfl
theorem maxLen_le : maxLen ≤ 9223372036854775807 := by unfold maxLen; omega
theorem cell_lt {w : World} {a : Addr} {v : Value} (h : w.cell? a = some v) : a.block < w.heap.size := by
  rcases Nat.lt_or_ge a.block w.heap.size with h1 | h1
  · exact h1
  · unfold World.cell? at h
    rw [Array.getElem?_eq_none h1] at h
    cases h
section
variable {H : Type} {enc : TypeId × Value → H} {W : World} {base : Nat}
theorem rdB_of_ints {a : Addr} {len cap n : Nat} {zs : List Int} (hl : len ≤ cap) (hcap : len ≤ maxLen) (hzl : zs.length = n) (hn : len ≤ n) (hx : ∀ i, i < n → W.cell? (a.add i) = some (.int .u8 (zs.getD i 0))) (hw : ∀ i, i < n → 0 ≤ zs.getD i 0 ∧ zs.getD i 0 ≤ 255) :
    ∃ l : List UInt8, RdB W 0 W.heap.size (.slice (some a) len cap) l := by
  have hml := maxLen_le
  refine ⟨(zs.take len).map fun z => UInt8.ofNat z.toNat, some a, cap, by rw [List.length_map, List.length_take]; congr 1; omega, by rw [List.length_map, List.length_take]; omega, by rw [List.length_map, List.length_take]; omega, fun k b hk => ?_⟩
  obtain ⟨hk1, hk2⟩ := List.getElem?_eq_some_iff.1 hk
  rw [List.length_map, List.length_take] at hk1
  have hc := hx k (by omega)
  have hwk := hw k (by omega)
  have hb := cell_lt hc
  rw [add_block] at hb
  refine ⟨a, rfl, Nat.zero_le _, hb, ?_⟩
  rw [hc]
  rw [List.getElem_map, List.getElem_take] at hk2
  have hg : zs.getD k 0 = zs[k]'(by omega) := by rw [List.getD_eq_getElem?_getD, List.getElem?_eq_getElem (by omega)]; rfl
  rw [hg] at hwk ⊢
  rw [← hk2, UInt8.toNat_ofNat']
  congr 2
  omega
theorem open_bytes {v : Value} {d : DataW H} {p : List MemPlace} (hv : Value.okWide Tryd.prog W .any base 26 v) (h : DataW.Trod enc Tryd.prog W 0 (fun _ => true) true 26 v d p) :
    ∃ l : List UInt8, RdB W 0 W.heap.size v l ∧ ∀ n c, v = .slice none n c → c = 0 := by
  obtain ⟨a0, len0, cap0, rfl⟩ := okWide_slice Tryd.underlying26 hv
  obtain ⟨fuel, hf⟩ := h
  rcases ChangeShapes.open_ints Tryd.underlying26 Tryd.underlying5 cellsU8 hf with ⟨hcs, _⟩ | ⟨a, len, cap, zs, hcs, _, hl, hm, hzl, _, hx, hwf⟩
  · simp only [Value.cells, List.cons.injEq, and_true] at hcs
    injection hcs with e1 e2 e3
    subst e1 e2 e3
    exact ⟨[], ⟨none, 0, rfl, by simp, by simp, by simp⟩, fun n c e => by injection e with _ _ e3; exact e3.symm⟩
  · simp only [Value.cells, List.cons.injEq, and_true] at hcs
    injection hcs with e1 e2 e3
    subst e1 e2 e3
    rw [if_pos rfl] at hzl
    obtain ⟨l, hl2⟩ := rdB_of_ints (W := W) (n := cap0) hl (Nat.le_trans hl hm) hzl (by omega) (fun i hi => hx i (by omega)) (fun i hi => by
      have hm2 : zs.getD i 0 ∈ zs := by
        rw [List.getD_eq_getElem?_getD, List.getElem?_eq_getElem (by omega)]
        exact List.getElem_mem _
      have := hwf _ hm2
      simp only [Lit.wf, Bool.and_eq_true, decide_eq_true_eq] at this
      rw [show IntKind.u8.min = 0 by rfl, show IntKind.u8.max = 255 by rfl] at this
      exact this)
    exact ⟨l, hl2, fun n c e => by cases e⟩
theorem open_bytesD {v : Value} {d : DataW H} {p : List MemPlace} (hv : Value.okWide Tryd.prog W .any base 26 v) (h : DataW.Trod enc Tryd.prog W 0 (fun _ => true) true 26 v d p) :
    ∃ l : List UInt8, RdB W 0 W.heap.size v l ∧ (∀ n c, v = .slice none n c → c = 0) ∧ (l = [] ∨ ∃ es sp, d = .slice es sp ∧ es.length = l.length) := by
  obtain ⟨l, h1, h2⟩ := open_bytes hv h
  refine ⟨l, h1, h2, ?_⟩
  obtain ⟨a0, len0, cap0, rfl⟩ := okWide_slice Tryd.underlying26 hv
  obtain ⟨A, c, hA, _⟩ := h1
  injection hA with _ e2 _
  obtain ⟨fuel, hf⟩ := h
  rcases ChangeShapes.open_ints Tryd.underlying26 Tryd.underlying5 cellsU8 hf with ⟨hcs, _⟩ | ⟨a, len, cap, zs, hcs, _, hl, hm, hzl, hx, _, _⟩
  · simp only [Value.cells, List.cons.injEq, and_true] at hcs
    injection hcs with e1 e3 e4
    exact .inl (List.eq_nil_of_length_eq_zero (by omega))
  · simp only [Value.cells, List.cons.injEq, and_true] at hcs
    injection hcs with e1 e3 e4
    rw [if_pos rfl] at hzl
    have hd := congrArg Prod.fst hx
    have hd' : d = .slice (lits .u8 (zs.take len)) (lits .u8 (zs.drop len)) := hd
    exact .inr ⟨_, _, hd', by unfold lits; rw [List.length_map, List.length_take]; omega⟩
theorem bytes_bound {es sp : List (DataW H)} {l : List UInt8} {n : Nat} (h : (es.length + sp.length) * Tryd.prog.bytesOf 5 ≤ reachBytes) (he : es.length = l.length) (hn : n = l.length) : n ≤ 140737488351232 := by
  rw [show Tryd.prog.bytesOf 5 = 1 by kernel_rfl] at h
  have : reachBytes = 140737488351232 := by decide
  omega
theorem i64_wf {n : Int} (h : (Lit.int .i64 n).wf = true) : I64 n := by
  simp only [Lit.wf, Bool.and_eq_true, decide_eq_true_eq] at h
  rw [show IntKind.i64.min = -9223372036854775808 by rfl, show IntKind.i64.max = 9223372036854775807 by rfl] at h
  exact h
end
end Go.Proofs.YtclpemmpckjemaaDoor
