/-
  Slices of slices of bytes that came in, opened. Conditions: none.
-/
import Derived.Test.YtkhdfjneibnlmaaDoorBulk
import Derived.Test.YtkhdfjneibnlmaaDoorFrU
import Derived.Deep.Matrix
namespace Go.Proofs.YtkhdfjneibnlmaaDoor
open Go.ChangeShapes Go.WideShapes Go.ChangeAt Go.RowKit Go.Joins Go.Deep

theorem cellsB : Tryd.prog.cellsOf 22 = 1 := by kernel_rfl
theorem weights_all {H : Type} {P : Program} {e : TypeId} : ∀ (l : List (DataW H)) (d : DataW H), d ∈ l → ∀ n ∈ d.weights P e, n ∈ DataW.weightsAll P e l
  | [], d, h, _, _ => by cases h
  | d0 :: l, d, h, n, hn => by
    rw [DataW.weightsAll, List.mem_append]
    rcases List.mem_cons.1 h with rfl | h
    · exact .inl hn
    · exact .inr (weights_all l d h n hn)
section
variable {H : Type} {enc : TypeId × Value → H} {W : World} {base : Nat}
theorem open_bytess {v : Value} {d : DataW H} {p : List MemPlace} (hv : Value.okWide Tryd.prog W .any base 36 v) (h : DataW.Trod enc Tryd.prog W 0 (fun _ => true) true 36 v d p) :
    ∃ ms : List (List UInt8), RdZ W v ms ∧ ∀ B, (∀ n ∈ d.weights Tryd.prog 36, n ≤ B) → ms.length ≤ B ∧ ∀ m ∈ ms, m.length ≤ B := by
  obtain ⟨a0, len0, cap0, rfl⟩ := okWide_slice Tryd.underlying36 hv
  obtain ⟨fuel, hf⟩ := h
  rcases open_int_rows Tryd.underlying36 Tryd.underlying22 Tryd.underlying5 cellsB cellsU8 hf with ⟨hcs, _⟩ | ⟨a, len, cap, A, L, C, Z, hcs, _, hl, hm, hx, hr⟩
  · simp only [Value.cells, List.cons.injEq, and_true] at hcs
    injection hcs with e1 e2 e3
    subst e1 e2 e3
    exact ⟨[], ⟨none, 0, rfl, ⟨by simp, by simp⟩, by simp⟩, fun B _ => ⟨by simp, by simp⟩⟩
  · simp only [Value.cells, List.cons.injEq, and_true] at hcs
    injection hcs with e1 e2 e3
    subst e1 e2 e3
    have hml := maxLen_le
    have each : ∀ r, r < len0 → ∃ m : List UInt8, RdB W 0 W.heap.size (.slice (A r) (L r) (C r)) m ∧ (∀ n c, Value.slice (A r) (L r) (C r) = .slice none n c → c = 0) ∧ W.cell? (a.add r) = some (.slice (A r) (L r) (C r)) ∧ m.length = L r := by
      intro r hrl
      obtain ⟨h1, h2, h3, h4, h5, h6, h7⟩ := hr r (by omega)
      cases hA : A r with
      | none =>
        have hC := h6 hA
        have hL : L r = 0 := by omega
        refine ⟨[], ?_, ?_, by rw [← hA]; exact h1, by rw [hL]; rfl⟩
        · rw [hC, hL]; exact ⟨none, 0, rfl, by simp, by simp, by simp⟩
        · intro n c e; injection e with _ _ e3; omega
      | some a' =>
        obtain ⟨_, h8⟩ := h7 a' hA
        obtain ⟨m, hmm⟩ := rdB_of_ints (W := W) (n := C r) (zs := Z r) h2 (by omega) h4 h2 (fun i hi => h8 i hi) (fun i hi => by
          have hm2 : (Z r).getD i 0 ∈ Z r := by
            rw [List.getD_eq_getElem?_getD, List.getElem?_eq_getElem (by omega)]
            exact List.getElem_mem _
          have := h5 _ hm2
          simp only [Lit.wf, Bool.and_eq_true, decide_eq_true_eq] at this
          rw [show IntKind.u8.min = 0 by rfl, show IntKind.u8.max = 255 by rfl] at this
          exact this)
        have hlen : m.length = L r := by
          obtain ⟨A', c', hv', _⟩ := hmm
          injection hv' with _ e2 _
          exact e2.symm
        exact ⟨m, hmm, (fun n c e => by cases e), by rw [← hA]; exact h1, hlen⟩
    obtain ⟨q, hq⟩ := choose_lt each
    have hd : d = .slice ((List.range len0).map fun r => intRow .u8 (A r) (L r) (Z r)) ((List.range (cap0 - len0)).map fun j => intRow .u8 (A (len0 + j)) (L (len0 + j)) (Z (len0 + j))) := congrArg Prod.fst hx
    refine ⟨(List.range len0).map q, ⟨some a, cap0, by rw [List.length_map, List.length_range], ⟨by rw [List.length_map, List.length_range]; omega, by rw [List.length_map, List.length_range]; omega⟩, fun k p hk => ?_⟩, fun B hB => ⟨?_, ?_⟩⟩
    · obtain ⟨hk1, hk2⟩ := List.getElem?_eq_some_iff.1 hk
      simp at hk1 hk2
      subst hk2
      obtain ⟨g1, g2, g3, _⟩ := hq k hk1
      exact ⟨a, _, rfl, g3, g1, g2⟩
    · rw [List.length_map, List.length_range]
      have := hB ((len0 + (cap0 - len0)) * Tryd.prog.bytesOf 22) (by rw [hd]; simp [DataW.weights, Tryd.underlying36])
      rw [show Tryd.prog.bytesOf 22 = 24 by kernel_rfl] at this
      omega
    · intro m hm2
      rw [List.mem_map] at hm2
      obtain ⟨r, hr1, rfl⟩ := hm2
      rw [List.mem_range] at hr1
      obtain ⟨g1, g2, g3, g4⟩ := hq r hr1
      rw [g4]
      obtain ⟨h1, h2, h3, h4, h5, h6, h7⟩ := hr r (by omega)
      cases hA : A r with
      | none => have := h6 hA; omega
      | some a' =>
        have hw : ((L r + (C r - L r)) * Tryd.prog.bytesOf 5) ∈ (intRow .u8 (A r) (L r) (Z r) : DataW H).weights Tryd.prog 22 := by
          rw [hA]
          show _ ∈ (DataW.slice (lits .u8 ((Z r).take (L r))) (lits .u8 ((Z r).drop (L r))) : DataW H).weights _ _
          simp only [DataW.weights, Tryd.underlying22]
          rw [List.mem_cons]
          left
          unfold lits
          rw [List.length_map, List.length_map, List.length_take, List.length_drop, Nat.min_eq_left (by omega), h4]
        have := hB _ (by
          rw [hd]
          simp only [DataW.weights, Tryd.underlying36]
          rw [List.mem_cons, List.mem_append]
          exact .inr (.inl (weights_all _ _ (List.mem_map.2 ⟨r, List.mem_range.2 hr1, rfl⟩) _ hw)))
        rw [show Tryd.prog.bytesOf 5 = 1 by kernel_rfl] at this
        omega
end
end Go.Proofs.YtkhdfjneibnlmaaDoor
