/-
  Contracts of the reference's Large and Valid. Conditions: none.
-/
import Derived.Test.YtmmecpmeemhglaaDoorVal
import Derived.WalkKit
import Derived.WalkSpells
import Derived.WalkLawsBesides
import Derived.Deep.QuietTactic
import Derived.BigQuiet
import Derived.Handy
import Derived.Lib.Hide
namespace Go.Proofs.YtmmecpmeemhglaaDoor
open Go.RowKit

/-- There are more constraints, or relations in one of them, than the statements consider. -/
def bigL (l : List Con) : Bool := decide (12 < l.length) || l.any fun e => decide (20 < e.r.length)
set_option maxRecDepth 100000 in
set_option maxHeartbeats 800000 in
theorem large_any (v : Value) (l : List Con) (w : World) (L : Nat) (hv : RdC w L w.heap.size v l) :
    Calls Tryd.prog 24 #[v] w fun e w' => e = .returned (.bool (bigL l)) ∧ Below w.heap.size w w' := by
  have hv0 := hv
  obtain ⟨A, c, rfl, hl, _⟩ := hv
  by_cases h12 : (l.length : Int) > 12
  · have hT : Hid (bigL l = true) := Lib.hid (by unfold bigL; rw [decide_eq_true (by omega)]; rfl)
    go_enter Tryd.func24, Tryd.ntmps24
    go_wp2
    go_ret
    exact ⟨congrArg (fun b => Ending.returned (.bool b)) hT.out.symm, Below.refl _ _⟩
  · go_enter Tryd.func24, Tryd.ntmps24
    go_wp2
    go_loopw [3] (fun i wr => ∃ k : Nat, k ≤ l.length ∧ i = .int .i64 k ∧ (l.take k).any (fun e => decide (20 < e.r.length)) = false ∧ w = wr) (fun i _ => l.length - (intOf i).toNat)
    case atStart => exact ⟨0, by omega, rfl, by simp, rfl⟩
    case round =>
      obtain ⟨k, hk, rfl, hno, rfl⟩ := hrel
      by_cases hlt : k < l.length
      · have hke := List.getElem?_eq_getElem hlt
        have hT := Lib.hid (List.take_succ_eq_append_getElem hlt)
        generalize he : l[k] = e at hke hT
        obtain ⟨a, b, r⟩ := e
        obtain ⟨ad, rv, rfl, hal, hab, h0, h1, h2, h3⟩ := hv0.at hke
        dsimp only at h0 h1 h2 h3
        obtain ⟨A2, c2, rfl, hlen2, _⟩ := h3
        by_cases h20 : (r.length : Int) > 20
        · have hF : Hid (bigL l = true) := Lib.hid (by
            unfold bigL
            rw [List.any_eq_true.2 ⟨_, List.mem_of_getElem? hke, decide_eq_true (by show 20 < r.length; omega)⟩, Bool.or_true])
          go_wp2
          go_ret
          exact ⟨congrArg (fun b => Ending.returned (.bool b)) hF.out.symm, Below.refl _ _⟩
        · have hN : Hid ((l.take (k + 1)).any (fun e => decide (20 < e.r.length)) = false) := Lib.hid (by
            rw [hT.out, List.any_append, hno]
            simp; omega)
          clear hT
          go_wp2
          go_roundw
          case rel => exact ⟨k + 1, by omega, by go_num, hN.out, by first | trivial | rfl⟩
          case measure => simp [intOf]; omega
      · have hkl : k = l.length := by omega
        subst hkl
        rw [List.take_length] at hno
        have hF : Hid (bigL l = false) := Lib.hid (by unfold bigL; rw [hno, decide_eq_false (by omega)]; rfl)
        clear hno
        go_wp2
        go_ret
        exact ⟨congrArg (fun b => Ending.returned (.bool b)) hF.out.symm, Below.refl _ _⟩

set_option maxRecDepth 100000 in
set_option maxHeartbeats 1600000 in
theorem rvalidC_any (n : Int) (v : Value) (l : List Con) (w : World) (L : Nat) (hv : RdC w L w.heap.size v l) :
    Calls Tryd.prog 42 #[.int .i64 n, v] w fun e w' => e = .returned (.bool (okL n l)) ∧ Below w.heap.size w w' := by
  have hv0 := hv
  obtain ⟨A, c, rfl, hlen, _⟩ := hv
  go_enter Tryd.func42, Tryd.ntmps42
  go_wp2
  go_loopw [5] (fun i wr => ∃ k : Nat, k ≤ l.length ∧ i = .int .i64 k ∧ okL n (l.take k) = true ∧ Below w.heap.size w wr) (fun i _ => l.length - (intOf i).toNat)
  case atStart => exact ⟨0, by omega, rfl, rfl, Below.refl _ _⟩
  case round =>
    obtain ⟨k, hk, rfl, hok, hbr⟩ := hrel
    by_cases hlt : k < l.length
    · have hke := List.getElem?_eq_getElem hlt
      generalize he : l[k] = e at hke
      obtain ⟨a, b, r⟩ := e
      obtain ⟨ad, rv, rfl, hal, hab, h0, h1, h2, h3⟩ := (hv0.below hbr).at hke
      dsimp only at h0 h1 h2 h3
      have h3' := h3
      obtain ⟨A2, c2, rfl, hlen2, _⟩ := h3
      have ik : (k : Int) < (l.length : Int) := by omega
      by_cases ha : a < 0
      · have hF := okL_false hke (show okC n ⟨a, b, r⟩ = false by simp [okC]; omega)
        go_wp2
        go_ret
        exact ⟨(by first | rfl | exact congrArg (fun b => Ending.returned (.bool b)) hF.symm), hbr⟩
      by_cases ha2 : a ≥ n
      · have hF := okL_false hke (show okC n ⟨a, b, r⟩ = false by simp [okC]; omega)
        go_wp2
        go_ret
        exact ⟨(by first | rfl | exact congrArg (fun b => Ending.returned (.bool b)) hF.symm), hbr⟩
      by_cases hb : b < 0
      · have hF := okL_false hke (show okC n ⟨a, b, r⟩ = false by simp [okC]; omega)
        go_wp2
        go_ret
        exact ⟨(by first | rfl | exact congrArg (fun b => Ending.returned (.bool b)) hF.symm), hbr⟩
      by_cases hb2 : b ≥ n
      · have hF := okL_false hke (show okC n ⟨a, b, r⟩ = false by simp [okC]; omega)
        go_wp2
        go_ret
        exact ⟨(by first | rfl | exact congrArg (fun b => Ending.returned (.bool b)) hF.symm), hbr⟩
      go_wp2
      go_loopw [6] (fun i wi => ∃ j : Nat, j ≤ r.length ∧ i = .int .i64 j ∧ (r.take j).all isRel = true ∧ wr = wi) (fun i _ => r.length - (intOf i).toNat)
      case atStart => exact ⟨0, by omega, rfl, rfl, rfl⟩
      case round =>
        obtain ⟨j, hj, rfl, hjk, rfl⟩ := hrel
        by_cases hjt : j < r.length
        · have hje := List.getElem?_eq_getElem hjt
          generalize hx : r[j] = x at hje
          obtain ⟨ad2, rfl, hal2, hab2, hcell⟩ := h3'.at hje
          have ij : (j : Int) < (r.length : Int) := by omega
          by_cases hx0 : x < 0
          · have hF := okL_false hke (show okC n ⟨a, b, r⟩ = false by simp [okC]; intro _ _ _ _; exact ⟨x, List.mem_of_getElem? hje, by unfold isRel; rw [decide_eq_false (by omega)]; rfl⟩)
            have HF := Lib.hid hF
            clear hF
            go_wp2
            go_ret
            exact ⟨congrArg (fun b => Ending.returned (.bool b)) HF.out.symm, hbr⟩
          by_cases hx1 : x ≥ 13
          · have hF := okL_false hke (show okC n ⟨a, b, r⟩ = false by simp [okC]; intro _ _ _ _; exact ⟨x, List.mem_of_getElem? hje, by unfold isRel; rw [decide_eq_false (p := x < 13) (by omega), Bool.and_false]⟩)
            have HF := Lib.hid hF
            clear hF
            go_wp2
            go_ret
            exact ⟨congrArg (fun b => Ending.returned (.bool b)) HF.out.symm, hbr⟩
          · have hB : Hid ((r.take (j + 1)).all isRel = true) := Lib.hid (by
              obtain ⟨hl, rfl⟩ := List.getElem?_eq_some_iff.1 hje
              rw [List.take_succ_eq_append_getElem hl, List.all_append, hjk]
              simp only [List.all_cons, List.all_nil, Bool.and_true, Bool.true_and]
              exact (isRel_iff _).2 (by omega))
            go_wp2
            go_roundw
            case rel => exact ⟨j + 1, by omega, by go_num, hB.out, by first | trivial | rfl⟩
            case measure => simp [intOf]; omega
        · have hjl : j = r.length := by omega
          subst hjl
          rw [List.take_length] at hjk
          have hK := Lib.hid (okL_step hke hok (show okC n ⟨a, b, r⟩ = true by simp [okC]; simp at hjk; exact ⟨⟨⟨⟨by omega, by omega⟩, by omega⟩, by omega⟩, hjk⟩))
          clear hjk hok
          go_wp2
          go_roundw
          case rel => exact ⟨k + 1, by omega, by go_num, hK.out, hbr⟩
          case measure => simp [intOf]; omega
    · have hkl : k = l.length := by omega
      subst hkl
      rw [List.take_length] at hok
      have HK := Lib.hid hok
      clear hok
      go_wp2
      go_ret
      exact ⟨congrArg (fun b => Ending.returned (.bool b)) HK.out.symm, hbr⟩
end Go.Proofs.YtmmecpmeemhglaaDoor
