import Derived.Test.YtbpjgipldddcfaaGP
import Derived.Test.YtbpjgipldddcfaaGM
import Derived.Test.YtbpjgipldddcfaaGA
import Derived.Test.YtbpjgipldddcfaaGQ
import Derived.WalkKit
import Derived.WalkSpells
import Derived.WalkLawsBesides
import Derived.Deep.QuietTactic
import Derived.BigQuiet
import Derived.Handy
import Derived.Lib.Hide
/-
  Contracts of Valid on lists of periods, of the program and of the reference, and of the reference's Contains. Conditions: none.
-/
namespace Go.Proofs.Ytbpjgipldddcfaa
set_option maxRecDepth 100000
set_option linter.unusedVariables false
set_option linter.unusedSimpArgs false
open Go.RowKit

theorem spB_take {z : Int} {l : List (Int × Int)} (k : Nat) (h : spB z l = true) : spB z (l.take k) = true := by
  induction l generalizing z k with
  | nil => cases k <;> rfl
  | cons p l ih =>
    cases k with
    | zero => rfl
    | succ k =>
      simp only [spB, Bool.and_eq_true] at h
      simp only [List.take_succ_cons, spB, Bool.and_eq_true]
      exact ⟨h.1, ih k h.2⟩
theorem sp_no {l : List (Int × Int)} {k : Nat} {p : Int × Int} (hk : l[k]? = some p) (h : (decide (lastTo (-1) (l.take k) < p.1) && vld p.1 p.2) = false) : spB (-1) l = false := by
  rw [Bool.eq_false_iff]
  intro hs
  have h1 := spB_take (k + 1) hs
  obtain ⟨hlt, rfl⟩ := List.getElem?_eq_some_iff.1 hk
  rw [List.take_succ_eq_append_getElem hlt, spB_snoc, Bool.and_assoc, h, Bool.and_false] at h1
  cases h1
theorem sp_yes {l : List (Int × Int)} {k : Nat} {p : Int × Int} (hk : l[k]? = some p) (h0 : spB (-1) (l.take k) = true) (h : (decide (lastTo (-1) (l.take k) < p.1) && vld p.1 p.2) = true) : spB (-1) (l.take (k + 1)) = true := by
  obtain ⟨hlt, rfl⟩ := List.getElem?_eq_some_iff.1 hk
  rw [List.take_succ_eq_append_getElem hlt, spB_snoc, Bool.and_assoc, h, h0]; rfl
theorem last_take {l : List (Int × Int)} {k : Nat} {q : Int × Int} (hk : l[k]? = some q) : lastTo (-1) (l.take (k + 1)) = q.2 := by
  obtain ⟨hlt, rfl⟩ := List.getElem?_eq_some_iff.1 hk
  rw [List.take_succ_eq_append_getElem hlt, lastTo_snoc]
theorem take_pos {l : List (Int × Int)} {k : Nat} (h0 : 0 < k) (hk : k < l.length) : ∃ j q, k = j + 1 ∧ l[j]? = some q := by
  obtain ⟨j, rfl⟩ : ∃ j, k = j + 1 := ⟨k - 1, by omega⟩
  exact ⟨j, _, rfl, List.getElem?_eq_getElem (by omega)⟩

theorem mem_yes {l : List (Int × Int)} {k : Nat} {a b t : Int} (hk : l[k]? = some (a, b)) (h : cnt a b t = true) : memL l t = true := by
  unfold memL
  rw [List.any_eq_true]
  exact ⟨_, List.mem_of_getElem? hk, h⟩
theorem mem_no {l : List (Int × Int)} {k : Nat} {a b t : Int} (hk : l[k]? = some (a, b)) (h0 : memL (l.take k) t = false) (h : cnt a b t = false) : memL (l.take (k + 1)) t = false := by
  obtain ⟨hlt, e⟩ := List.getElem?_eq_some_iff.1 hk
  rw [List.take_succ_eq_append_getElem hlt, memL_append, h0, e, memL_cons, memL_nil, h]; rfl
set_option maxRecDepth 100000 in
set_option maxHeartbeats 800000 in
theorem rMem_any (v : Value) (l : List (Int × Int)) (t : Int) (w : World) (L : Nat) (hv : RdP w L w.heap.size v l) :
    Calls Try.prog 76 #[v, .int .i64 t] w fun e w' => e = .returned (.bool (memL l t)) ∧ Below w.heap.size w w' := by
  have hv0 := hv
  obtain ⟨A, c, rfl, hlen, _⟩ := hv
  go_enter Try.func76, Try.ntmps76
  go_wp2
  go_loopw [5] (fun i wr => ∃ k : Nat, k ≤ l.length ∧ i = .int .i64 k ∧ memL (l.take k) t = false ∧ Below w.heap.size w wr) (fun i _ => l.length - (intOf i).toNat)
  case atStart => exact ⟨0, by omega, rfl, rfl, Below.refl _ _⟩
  case round =>
    obtain ⟨k, hk, rfl, hok, hbr⟩ := hrel
    have hbz := hbr.size
    by_cases hlt : k < l.length
    · have hke := List.getElem?_eq_getElem hlt
      generalize l[k] = p at hke
      obtain ⟨a, b⟩ := p
      obtain ⟨ad, rfl, hal, hab, h0, h1⟩ := (hv0.below hbr).at hke
      dsimp only at h0 h1
      cases hC : cnt a b t
      · have hT := Lib.hid (mem_no hke hok hC)
        go_wp2_with (go_at_call 91; refine (rcontains_any _ _ _ _).mono ?_; rw [hC]; rintro e w2 ⟨rfl, hb2⟩)
        go_roundw
        case rel => exact ⟨k + 1, by omega, by go_num, hT.out, hbr.trans (hb2.mono hbz)⟩
        case measure => simp [intOf]; omega
      · have hT := Lib.hid (mem_yes hke hC)
        go_wp2_with (go_at_call 91; refine (rcontains_any _ _ _ _).mono ?_; rw [hC]; rintro e w2 ⟨rfl, hb2⟩)
        go_ret
        exact ⟨congrArg (fun b => Ending.returned (.bool b)) hT.out.symm, hbr.trans (hb2.mono hbz)⟩
    · have hkl : k = l.length := by omega
      subst hkl
      rw [List.take_length] at hok
      go_wp2
      go_ret
      exact ⟨congrArg (fun b => Ending.returned (.bool b)) hok.symm, hbr⟩
end Go.Proofs.Ytbpjgipldddcfaa
