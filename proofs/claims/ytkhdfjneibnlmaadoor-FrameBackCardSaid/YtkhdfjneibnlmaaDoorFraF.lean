/-
  What the statements' rows give at their first world: the table as the program lays it (Env); a start that fits; how slices of bytes are opened. Conditions: none.
-/
import Derived.Test.YtkhdfjneibnlmaaDoorRows
import Derived.Test.YtkhdfjneibnlmaaDoorFrC
import Derived.Test.YtkhdfjneibnlmaaDoorLift
import Derived.ProofKit
import Derived.LaidMore
import Derived.Lay
import Derived.OpenShut
import Derived.ChangeSlices
import Derived.Deep.Slices
import Derived.Lib.SmallJoins
namespace Go.Proofs.YtkhdfjneibnlmaaDoor
open Go.ChangeShapes Go.WideShapes Go.ChangeAt Go.RowKit Go.Joins Go.Deep

theorem own : ownKnob Tryd.prog.godebug = none := by kernel_rfl
theorem laidOut : laidOutB Tryd.prog = true := by kernel_rfl
theorem tTab : (Tryd.prog.globals[0]?).map (·.type) = some 53 := by kernel_rfl
theorem cellsTab : Tryd.prog.cellsOf 53 = 16 := by kernel_rfl
theorem cellsU32 : Tryd.prog.cellsOf 23 = 1 := by kernel_rfl
theorem cellsU8 : Tryd.prog.cellsOf 5 = 1 := by kernel_rfl
def laid1 : List (String × DataW Unit) := [("bitemporal/frame.halfByteSteps", Rows.laid_bitemporal_frame_halfByteSteps)]
theorem lowSize {w : World} (h : w.ShapedOpen Tryd.prog) : Tryd.prog.globals.size ≤ w.heap.size := by
  rw [globalsSize]
  have h0 : (((begin Tryd.prog (fun _ _ => 0) default).world.heap[0]?).bind Obj.row?).isSome = true := by kernel_rfl
  obtain ⟨⟨z, t⟩, hz⟩ := Option.isSome_iff_exists.1 h0
  obtain ⟨cs, hh, _⟩ := h.1 0 z t (by rw [globalsSize]; decide) hz
  rcases Nat.lt_or_ge 0 w.heap.size with h1 | h1
  · exact h1
  · rw [Array.getElem?_eq_none h1] at hh; cases hh
theorem env_of {w : World} (hS : w.ShapedOpen Tryd.prog) (hL : laidMetH Tryd.prog laid1 w) : Env w := by
  refine ⟨lowSize hS, ?_⟩
  rw [MakeChecks.laidMetH_plain _ _ _ (by kernel_rfl)] at hL
  obtain ⟨ps, ⟨g0, t0, cs0, f0, p0, q0, hg0, ht0, hv0, hd0, _, _⟩, _, _⟩ := hL
  obtain rfl := Option.some.inj (gTab.symm.trans hg0)
  obtain rfl := Option.some.inj (tTab.symm.trans ht0)
  unfold Lib.TabIs
  rw [hv0, ← Lib.cells_of_tab (k := .u32) (zs := tabL) Tryd.underlying53 Tryd.underlying23 cellsU32 cellsTab hd0]
set_option maxRecDepth 1000000 in
theorem start_met (os : Os) (args : Array Value) : laidMetH Tryd.prog laid1 ((World.laidAll Tryd.prog os laid1).forCall (fun _ _ => 0) ⟨#[], args, []⟩).memory := by
  rw [MakeChecks.laidMetH_plain _ _ _ (by kernel_rfl)]
  exact laidMet_laidAll _ (by kernel_rfl) (by kernel_rfl)
set_option maxRecDepth 1000000 in
theorem start_shaped (os : Os) : (World.laidAll Tryd.prog os laid1).Shaped Tryd.prog := World.shaped_of_ZipB (by kernel_rfl) (by kernel_rfl)
theorem maxLen_le : maxLen ≤ 9223372036854775807 := by unfold maxLen; omega
theorem cell_lt {w : World} {a : Addr} {v : Value} (h : w.cell? a = some v) : a.block < w.heap.size := by
  rcases Nat.lt_or_ge a.block w.heap.size with h1 | h1
  · exact h1
  · unfold World.cell? at h
    rw [Array.getElem?_eq_none h1] at h
    cases h
section
variable {H : Type} {enc : TypeId × Value → H} {W : World} {base : Nat}
theorem rdB_of_ints {a : Addr} {len cap n : Nat} {zs : List Int} (hl : len ≤ cap) (hcap : len ≤ maxLen) (hzl : zs.length = n) (hn : len ≤ n) (hx : ∀ i, i < n → W.cell? (a.add i) = some (.int .u8 (zs.getD i 0))) (hw : ∀ i, i < n → 0 ≤ zs.getD i 0 ∧ zs.getD i 0 ≤ 255) :
    ∃ l : List UInt8, RdB W 0 W.heap.size (.slice (some a) len cap) l := by
  have hml := maxLen_le
  refine ⟨(zs.take len).map fun z => UInt8.ofNat z.toNat, some a, cap, by rw [List.length_map, List.length_take]; congr 1; omega, by rw [List.length_map, List.length_take]; omega, by rw [List.length_map, List.length_take]; omega, fun k b hk => ?_⟩
  obtain ⟨hk1, hk2⟩ := List.getElem?_eq_some_iff.1 hk
  rw [List.length_map, List.length_take] at hk1
  have hc := hx k (by omega)
  have hwk := hw k (by omega)
  have hb := cell_lt hc
  rw [add_block] at hb
  refine ⟨a, rfl, Nat.zero_le _, hb, ?_⟩
  rw [hc]
  rw [List.getElem_map, List.getElem_take] at hk2
  have hg : zs.getD k 0 = zs[k]'(by omega) := by rw [List.getD_eq_getElem?_getD, List.getElem?_eq_getElem (by omega)]; rfl
  rw [hg] at hwk ⊢
  rw [← hk2, UInt8.toNat_ofNat']
  congr 2
  omega
theorem open_bytes {v : Value} {d : DataW H} {p : List MemPlace} (hv : Value.okWide Tryd.prog W .any base 22 v) (h : DataW.Trod enc Tryd.prog W 0 (fun _ => true) true 22 v d p) :
    ∃ l : List UInt8, RdB W 0 W.heap.size v l ∧ ∀ n c, v = .slice none n c → c = 0 := by
  obtain ⟨a0, len0, cap0, rfl⟩ := okWide_slice Tryd.underlying22 hv
  obtain ⟨fuel, hf⟩ := h
  rcases ChangeShapes.open_ints Tryd.underlying22 Tryd.underlying5 cellsU8 hf with ⟨hcs, _⟩ | ⟨a, len, cap, zs, hcs, _, hl, hm, hzl, _, hx, hwf⟩
  · simp only [Value.cells, List.cons.injEq, and_true] at hcs
    injection hcs with e1 e2 e3
    subst e1 e2 e3
    exact ⟨[], ⟨none, 0, rfl, by simp, by simp, by simp⟩, fun n c e => by injection e with _ _ e3; exact e3.symm⟩
  · simp only [Value.cells, List.cons.injEq, and_true] at hcs
    injection hcs with e1 e2 e3
    subst e1 e2 e3
    rw [if_pos rfl] at hzl
    obtain ⟨l, hl2⟩ := rdB_of_ints (W := W) (n := cap0) hl (Nat.le_trans hl hm) hzl (by omega) (fun i hi => hx i (by omega)) (fun i hi => by
      have hm2 : zs.getD i 0 ∈ zs := by
        rw [List.getD_eq_getElem?_getD, List.getElem?_eq_getElem (by omega)]
        exact List.getElem_mem _
      have := hwf _ hm2
      simp only [Lit.wf, Bool.and_eq_true, decide_eq_true_eq] at this
      rw [show IntKind.u8.min = 0 by rfl, show IntKind.u8.max = 255 by rfl] at this
      exact this)
    exact ⟨l, hl2, fun n c e => by cases e⟩
end
end Go.Proofs.YtkhdfjneibnlmaaDoor
