/-
  Slices of constraints that a call reads, and the contract of allValid. Conditions: none.
-/
import Derived.Test.YtmmecpmeemhglaaDoorRd
import Derived.WalkKit
import Derived.WalkSpells
import Derived.WalkLawsBesides
import Derived.Deep.QuietTactic
import Derived.BigQuiet
import Derived.Handy
import Derived.Lib.Hide
namespace Go.Proofs.YtmmecpmeemhglaaDoor
open Go.RowKit

structure Con where
  a : Int
  b : Int
  r : List Int
/-- The slice v holds the constraints l, with the lists of their relations; all of it lies below block B and not below block L. -/
def RdC (w : World) (L B : Nat) (v : Value) (l : List Con) : Prop :=
  ∃ A c, v = .slice A l.length c ∧ l.length ≤ 9223372036854775807 ∧ ∀ (k : Nat) (e : Con), l[k]? = some e → ∃ (ad : Addr) (rv : Value), A = some ad ∧ L ≤ ad.block ∧ ad.block < B ∧
    w.cell? (ad.add (k * 3)) = some (.int .i64 e.a) ∧ w.cell? ⟨(ad.add (k * 3)).block, (ad.add (k * 3)).off + 1, none⟩ = some (.int .i64 e.b) ∧ w.cell? ⟨(ad.add (k * 3)).block, (ad.add (k * 3)).off + 2, none⟩ = some rv ∧ RdI w L B rv e.r
theorem RdC.below {w w' : World} {L B : Nat} {v : Value} {l : List Con} (h : RdC w L B v l) (hb : Below B w w') : RdC w' L B v l := by
  obtain ⟨A, c, hv, hl, hc⟩ := h
  refine ⟨A, c, hv, hl, fun k n hk => ?_⟩
  obtain ⟨ad, rv, h1, h0, h2, h3, h4, h5, h6⟩ := hc k n hk
  exact ⟨ad, rv, h1, h0, h2, (hb.cell (p := ad.add (k * 3)) (by rw [add_block]; exact h2)).trans h3, (hb.cell (p := ⟨(ad.add (k * 3)).block, (ad.add (k * 3)).off + 1, none⟩) (by show (ad.add (k * 3)).block < B; rw [add_block]; exact h2)).trans h4, (hb.cell (p := ⟨(ad.add (k * 3)).block, (ad.add (k * 3)).off + 2, none⟩) (by show (ad.add (k * 3)).block < B; rw [add_block]; exact h2)).trans h5, h6.below hb⟩
theorem RdC.more {w : World} {L L' B B' : Nat} {v : Value} {l : List Con} (h : RdC w L B v l) (hB : B ≤ B') (hL : L' ≤ L) : RdC w L' B' v l := by
  obtain ⟨A, c, hv, hl, hc⟩ := h
  refine ⟨A, c, hv, hl, fun k n hk => ?_⟩
  obtain ⟨ad, rv, h1, h0, h2, h3, h4, h5, h6⟩ := hc k n hk
  exact ⟨ad, rv, h1, by omega, by omega, h3, h4, h5, h6.more hB hL⟩
theorem RdC.at {w : World} {L B : Nat} {A : Option Addr} {m c : Nat} {l : List Con} (h : RdC w L B (.slice A m c) l) {k : Nat} {e : Con} (hk : l[k]? = some e) : ∃ (ad : Addr) (rv : Value), A = some ad ∧ L ≤ ad.block ∧ ad.block < B ∧
    w.cell? (ad.add (k * 3)) = some (.int .i64 e.a) ∧ w.cell? ⟨(ad.add (k * 3)).block, (ad.add (k * 3)).off + 1, none⟩ = some (.int .i64 e.b) ∧ w.cell? ⟨(ad.add (k * 3)).block, (ad.add (k * 3)).off + 2, none⟩ = some rv ∧ RdI w L B rv e.r := by
  obtain ⟨A', c', hv, hl, hc⟩ := h
  injection hv with e1 e2 e3
  subst e1
  exact hc k e hk

def okC (n : Int) (e : Con) : Bool := decide (0 ≤ e.a) && decide (e.a < n) && decide (0 ≤ e.b) && decide (e.b < n) && e.r.all isRel
def okL (n : Int) (l : List Con) : Bool := l.all (okC n)

theorem okL_false {n : Int} {l : List Con} {k : Nat} {e : Con} (hk : l[k]? = some e) (h : okC n e = false) : okL n l = false := by
  unfold okL
  rw [List.all_eq_false]
  exact ⟨e, List.mem_of_getElem? hk, by simp [h]⟩
theorem okL_step {n : Int} {l : List Con} {k : Nat} {e : Con} (hk : l[k]? = some e) (h : okL n (l.take k) = true) (he : okC n e = true) : okL n (l.take (k + 1)) = true := by
  obtain ⟨hl, rfl⟩ := List.getElem?_eq_some_iff.1 hk
  unfold okL at *
  rw [List.take_succ_eq_append_getElem hl, List.all_append, h]
  simp [he]

set_option maxRecDepth 100000 in
set_option maxHeartbeats 1600000 in
theorem allValid_any (n : Int) (v : Value) (l : List Con) (w : World) (L : Nat) (hv : RdC w L w.heap.size v l) :
    Calls Tryd.prog 37 #[.int .i64 n, v] w fun e w' => e = .returned (.bool (okL n l)) ∧ Below w.heap.size w w' := by
  have hv0 := hv
  obtain ⟨A, c, rfl, hlen, _⟩ := hv
  go_enter Tryd.func37, Tryd.ntmps37
  go_wp2
  go_loopw [11] (fun i wr => ∃ k : Nat, k ≤ l.length ∧ i = .int .i64 k ∧ okL n (l.take k) = true ∧ Below w.heap.size w wr) (fun i _ => l.length - (intOf i).toNat)
  case atStart => exact ⟨0, by omega, rfl, rfl, Below.refl _ _⟩
  case round =>
    obtain ⟨k, hk, rfl, hok, hbr⟩ := hrel
    by_cases hlt : k < l.length
    · have hke := List.getElem?_eq_getElem hlt
      generalize he : l[k] = e at hke
      obtain ⟨a, b, r⟩ := e
      have hrd := (hv0.below hbr).more hbr.size (Nat.le_refl _)
      obtain ⟨ad, rv, rfl, hal, hab, h0, h1, h2, h3⟩ := hrd.at hke
      dsimp only at h0 h1 h2 h3
      have hrc := (hv0.at hke)
      obtain ⟨_, rv', e1, _, _, _, _, h2', hrc⟩ := hrc
      injection e1 with e1
      subst e1
      have e2 := (hbr.cell (p := ⟨(ad.add (k * 3)).block, (ad.add (k * 3)).off + 2, none⟩) (by show (ad.add (k * 3)).block < _; rw [add_block]; assumption)).symm.trans h2
      obtain rfl : rv' = rv := Option.some.inj (h2'.symm.trans e2)
      clear h3
      have h3 := hrc
      obtain ⟨A2, c2, rfl, hlen2, _⟩ := h3
      by_cases ha : a < 0
      · have hF := okL_false hke (show okC n ⟨a, b, r⟩ = false by simp [okC]; omega)
        go_wp2
        go_ret
        exact ⟨(by first | rfl | exact congrArg (fun b => Ending.returned (.bool b)) hF.symm), hbr.alloc hbr.size _⟩
      by_cases ha2 : a ≥ n
      · have hF := okL_false hke (show okC n ⟨a, b, r⟩ = false by simp [okC]; omega)
        go_wp2
        go_ret
        exact ⟨(by first | rfl | exact congrArg (fun b => Ending.returned (.bool b)) hF.symm), hbr.alloc hbr.size _⟩
      by_cases hb : b < 0
      · have hF := okL_false hke (show okC n ⟨a, b, r⟩ = false by simp [okC]; omega)
        go_wp2
        go_ret
        exact ⟨(by first | rfl | exact congrArg (fun b => Ending.returned (.bool b)) hF.symm), hbr.alloc hbr.size _⟩
      by_cases hb2 : b ≥ n
      · have hF := okL_false hke (show okC n ⟨a, b, r⟩ = false by simp [okC]; omega)
        go_wp2
        go_ret
        exact ⟨(by first | rfl | exact congrArg (fun b => Ending.returned (.bool b)) hF.symm), hbr.alloc hbr.size _⟩
      go_wp2
      go_loopw [38] (fun i wi => ∃ j : Nat, j ≤ r.length ∧ i = .int .i64 j ∧ (r.take j).all isRel = true ∧ Below w.heap.size w wi) (fun i _ => r.length - (intOf i).toNat)
      case atStart => exact ⟨0, by omega, rfl, rfl, hbr.alloc hbr.size _⟩
      case round =>
        obtain ⟨j, hj, rfl, hjk, hbi⟩ := hrel
        by_cases hjt : j < r.length
        · have hje := List.getElem?_eq_getElem hjt
          generalize hx : r[j] = x at hje
          obtain ⟨ad2, rfl, hal2, hab2, hcell⟩ := ((hrc.below hbi).at hje)
          have hI := isrel_any x
          cases hB : isRel x
          · have hF := okL_false hke (show okC n ⟨a, b, r⟩ = false by simp [okC]; intro _ _ _ _; exact ⟨x, List.mem_of_getElem? hje, hB⟩)
            go_wp2_with (go_at_call 33; refine (isrel_any _ _).mono ?_; rintro e w1 ⟨rfl, rfl⟩)
            go_ret
            exact ⟨congrArg (fun b => Ending.returned (.bool b)) hF.symm, hbi⟩
          · go_wp2_with (go_at_call 33; refine (isrel_any _ _).mono ?_; rintro e w1 ⟨rfl, rfl⟩)
            go_roundw
            case rel => exact ⟨j + 1, by omega, by go_num, by obtain ⟨hl, rfl⟩ := List.getElem?_eq_some_iff.1 hje; rw [List.take_succ_eq_append_getElem hl, List.all_append, hjk]; simp [hB], hbi⟩
            case measure => simp [intOf]; omega
        · have hjl : j = r.length := by omega
          subst hjl
          rw [List.take_length] at hjk
          go_wp2
          go_roundw
          case rel => exact ⟨k + 1, by omega, by go_num, okL_step hke hok (by simp [okC]; simp at hjk; exact ⟨⟨⟨⟨by omega, by omega⟩, by omega⟩, by omega⟩, hjk⟩), hbi⟩
          case measure => simp [intOf]; omega
    · have hkl : k = l.length := by omega
      subst hkl
      rw [List.take_length] at hok
      go_wp2
      go_ret
      exact ⟨congrArg (fun b => Ending.returned (.bool b)) hok.symm, hbr⟩
end Go.Proofs.YtmmecpmeemhglaaDoor
