import Derived.Test.YtbpjgipldddcfaaGV
import Derived.Deep.RegionHeld3
import Derived.WalkKit
import Derived.WalkSpells
import Derived.WalkLawsBesides
import Derived.Deep.QuietTactic
import Derived.BigQuiet
import Derived.Handy
import Derived.Lib.Hide
/-
  Contracts of the reference's At, Same and Greatest on lists of steps, and of Same on periods. Conditions: none.
-/
namespace Go.Proofs.Ytbpjgipldddcfaa
set_option maxRecDepth 100000
set_option linter.unusedVariables false
set_option linter.unusedSimpArgs false
open Go.RowKit

theorem take_eq_step {α : Type} {l m : List α} {k : Nat} {x : α} (h : l.take k = m.take k) (hl : l[k]? = some x) (hm : m[k]? = some x) : l.take (k + 1) = m.take (k + 1) := by
  rw [List.take_add_one, List.take_add_one, h, hl, hm]
theorem take_eq_all {α : Type} {l m : List α} {k : Nat} (h : l.take k = m.take k) (hl : l.length ≤ k) (hm : m.length ≤ k) : l = m := by
  rwa [List.take_of_length_le hl, List.take_of_length_le hm] at h
theorem ne_of_at {α : Type} {l m : List α} {k : Nat} {x y : α} (hl : l[k]? = some x) (hm : m[k]? = some y) (h : x ≠ y) : ¬ l = m := by
  rintro rfl; rw [hl] at hm; cases hm; exact h rfl

set_option maxRecDepth 100000 in
set_option maxHeartbeats 1600000 in
theorem sameP_any (u v : Value) (l m : List (Int × Int)) (w : World) (L L' : Nat) (hu : RdP w L w.heap.size u l) (hv : RdP w L' w.heap.size v m) :
    Calls Try.prog 7 #[u, v] w fun e w' => e = .returned (.bool (decide (l = m))) ∧ Below w.heap.size w w' := by
  have hu0 := hu
  have hv0 := hv
  obtain ⟨A, c, rfl, hl, _⟩ := hu
  obtain ⟨A2, c2, rfl, hl2, _⟩ := hv
  by_cases he : l.length = m.length
  · have hne : ((l.length : Int) != (m.length : Int)) = false := by simp; omega
    have HE := Lib.hid he
    clear he
    go_enter Try.func7, Try.ntmps7
    go_wp2
    go_loopw [5] (fun i wr => ∃ k : Nat, k ≤ l.length ∧ i = .int .i64 k ∧ Hid (l.take k = m.take k) ∧ Below w.heap.size w wr) (fun i _ => l.length - (intOf i).toNat)
    case atStart => exact ⟨0, by omega, rfl, Lib.hid rfl, Below.refl _ _⟩
    case round =>
      obtain ⟨k, hk, rfl, hT, hbr⟩ := hrel
      have hbz := hbr.size
      by_cases hlt : k < l.length
      · have hlt2 : k < m.length := by have := HE.out; omega
        have hx := List.getElem?_eq_getElem hlt
        have hy := List.getElem?_eq_getElem hlt2
        generalize l[k] = x at hx
        generalize m[k] = y at hy
        have i2 : (0 : Int) ≤ (k : Int) := by omega
        have i3 : (k : Int) < (l.length : Int) := by omega
        have i4 : (k : Int) < (m.length : Int) := by omega
        obtain ⟨x1, x2⟩ := x
        obtain ⟨y1, y2⟩ := y
        obtain ⟨ad, rfl, _, hab, c0, c1⟩ := (hu0.below hbr).at hx
        obtain ⟨ad2, rfl, _, hab2, c2', c3⟩ := (hv0.below hbr).at hy
        dsimp only at c0 c1 c2' c3
        have f0 : ∀ p : After wr, p.w.cell? (ad.add (k * 2)) = some (.int .i64 x1) := after_cell (by rw [add_block]; omega) c0
        have f1 : ∀ p : After wr, p.w.cell? ⟨(ad.add (k * 2)).block, (ad.add (k * 2)).off + 1, none⟩ = some (.int .i64 x2) := after_cell (by show (ad.add (k * 2)).block < _; rw [add_block]; omega) c1
        have f2 : ∀ p : After wr, p.w.cell? (ad2.add (k * 2)) = some (.int .i64 y1) := after_cell (by rw [add_block]; omega) c2'
        have f3 : ∀ p : After wr, p.w.cell? ⟨(ad2.add (k * 2)).block, (ad2.add (k * 2)).off + 1, none⟩ = some (.int .i64 y2) := after_cell (by show (ad2.add (k * 2)).block < _; rw [add_block]; omega) c3
        by_cases h1 : x1 = y1 <;> by_cases h2 : x2 = y2
        · subst h1 h2
          have HS := Lib.hid (take_eq_step hT.out hx hy)
          have hb1 : (x1 == x1) = true := by simp
          have hb2 : (x2 == x2) = true := by simp
          clear hx hy
          go_wp2
          (refine wp_region_after (by kernel_rfl) (by kernel_rfl) ?_; (repeat (go_big_quiet_step (fail))); refine wpQuiet_nil ?_; intro wq hw0; obtain ⟨⟨wq0, hbq⟩, hw1⟩ := hw0; subst hw1; (try dsimp only))
          go_wp2
          go_roundw
          case rel => exact ⟨k + 1, by omega, by go_num, HS, hbr.trans (hbq.mono hbz)⟩
          case measure => simp [intOf]; omega
        all_goals
          have HD := Lib.hid (ne_of_at hx hy (by intro h; injection h; omega))
          have hb1 : (x1 == y1) = decide (x1 = y1) := by first | rfl | simp
          have hb2 : (x2 == y2) = decide (x2 = y2) := by first | rfl | simp
          simp only [h1, h2, decide_true, decide_false] at hb1 hb2
          clear h1 h2
          clear hx hy
          go_wp2
          (refine wp_region_after (by kernel_rfl) (by kernel_rfl) ?_; (repeat (go_big_quiet_step (fail))); refine wpQuiet_nil ?_; intro wq hw0; obtain ⟨⟨wq0, hbq⟩, hw1⟩ := hw0; subst hw1; (try dsimp only))
          go_wp2
          go_ret
          exact ⟨by rw [decide_eq_false HD.out]; rfl, hbr.trans (hbq.mono hbz)⟩

      · have hd : ¬ (k : Int) < l.length := by omega
        have hE := take_eq_all hT.out (by omega) (by have := HE.out; omega)
        have HX := Lib.hid hE
        clear hE
        go_wp2
        go_ret
        exact ⟨by rw [decide_eq_true HX.out]; rfl, hbr⟩
  · have hne : ((l.length : Int) != (m.length : Int)) = true := by simp; omega
    have HD : Hid (¬ l = m) := Lib.hid (fun h => he (by rw [h]))
    go_enter Try.func7, Try.ntmps7
    go_wp2
    go_ret
    exact ⟨by rw [decide_eq_false HD.out]; rfl, Below.refl _ _⟩
set_option maxRecDepth 100000 in
set_option maxHeartbeats 1600000 in
theorem sameT_any (u v : Value) (l m : List (Int × Int)) (w : World) (L L' : Nat) (hu : RdP w L w.heap.size u l) (hv : RdP w L' w.heap.size v m) :
    Calls Try.prog 19 #[u, v] w fun e w' => e = .returned (.bool (decide (l = m))) ∧ Below w.heap.size w w' := by
  have hu0 := hu
  have hv0 := hv
  obtain ⟨A, c, rfl, hl, _⟩ := hu
  obtain ⟨A2, c2, rfl, hl2, _⟩ := hv
  by_cases he : l.length = m.length
  · have hne : ((l.length : Int) != (m.length : Int)) = false := by simp; omega
    have HE := Lib.hid he
    clear he
    go_enter Try.func19, Try.ntmps19
    go_wp2
    go_loopw [5] (fun i wr => ∃ k : Nat, k ≤ l.length ∧ i = .int .i64 k ∧ Hid (l.take k = m.take k) ∧ Below w.heap.size w wr) (fun i _ => l.length - (intOf i).toNat)
    case atStart => exact ⟨0, by omega, rfl, Lib.hid rfl, Below.refl _ _⟩
    case round =>
      obtain ⟨k, hk, rfl, hT, hbr⟩ := hrel
      have hbz := hbr.size
      by_cases hlt : k < l.length
      · have hlt2 : k < m.length := by have := HE.out; omega
        have hx := List.getElem?_eq_getElem hlt
        have hy := List.getElem?_eq_getElem hlt2
        generalize l[k] = x at hx
        generalize m[k] = y at hy
        have i2 : (0 : Int) ≤ (k : Int) := by omega
        have i3 : (k : Int) < (l.length : Int) := by omega
        have i4 : (k : Int) < (m.length : Int) := by omega
        obtain ⟨x1, x2⟩ := x
        obtain ⟨y1, y2⟩ := y
        obtain ⟨ad, rfl, _, hab, c0, c1⟩ := (hu0.below hbr).at hx
        obtain ⟨ad2, rfl, _, hab2, c2', c3⟩ := (hv0.below hbr).at hy
        dsimp only at c0 c1 c2' c3
        have f0 : ∀ p : After wr, p.w.cell? (ad.add (k * 2)) = some (.int .i64 x1) := after_cell (by rw [add_block]; omega) c0
        have f1 : ∀ p : After wr, p.w.cell? ⟨(ad.add (k * 2)).block, (ad.add (k * 2)).off + 1, none⟩ = some (.int .i64 x2) := after_cell (by show (ad.add (k * 2)).block < _; rw [add_block]; omega) c1
        have f2 : ∀ p : After wr, p.w.cell? (ad2.add (k * 2)) = some (.int .i64 y1) := after_cell (by rw [add_block]; omega) c2'
        have f3 : ∀ p : After wr, p.w.cell? ⟨(ad2.add (k * 2)).block, (ad2.add (k * 2)).off + 1, none⟩ = some (.int .i64 y2) := after_cell (by show (ad2.add (k * 2)).block < _; rw [add_block]; omega) c3
        by_cases h1 : x1 = y1 <;> by_cases h2 : x2 = y2
        · subst h1 h2
          have HS := Lib.hid (take_eq_step hT.out hx hy)
          have hb1 : (x1 == x1) = true := by simp
          have hb2 : (x2 == x2) = true := by simp
          clear hx hy
          go_wp2
          (refine wp_region_after (by kernel_rfl) (by kernel_rfl) ?_; (repeat (go_big_quiet_step (fail))); refine wpQuiet_nil ?_; intro wq hw0; obtain ⟨⟨wq0, hbq⟩, hw1⟩ := hw0; subst hw1; (try dsimp only))
          go_wp2
          go_roundw
          case rel => exact ⟨k + 1, by omega, by go_num, HS, hbr.trans (hbq.mono hbz)⟩
          case measure => simp [intOf]; omega
        all_goals
          have HD := Lib.hid (ne_of_at hx hy (by intro h; injection h; omega))
          have hb1 : (x1 == y1) = decide (x1 = y1) := by first | rfl | simp
          have hb2 : (x2 == y2) = decide (x2 = y2) := by first | rfl | simp
          simp only [h1, h2, decide_true, decide_false] at hb1 hb2
          clear h1 h2
          clear hx hy
          go_wp2
          (refine wp_region_after (by kernel_rfl) (by kernel_rfl) ?_; (repeat (go_big_quiet_step (fail))); refine wpQuiet_nil ?_; intro wq hw0; obtain ⟨⟨wq0, hbq⟩, hw1⟩ := hw0; subst hw1; (try dsimp only))
          go_wp2
          go_ret
          exact ⟨by rw [decide_eq_false HD.out]; rfl, hbr.trans (hbq.mono hbz)⟩

      · have hd : ¬ (k : Int) < l.length := by omega
        have hE := take_eq_all hT.out (by omega) (by have := HE.out; omega)
        have HX := Lib.hid hE
        clear hE
        go_wp2
        go_ret
        exact ⟨by rw [decide_eq_true HX.out]; rfl, hbr⟩
  · have hne : ((l.length : Int) != (m.length : Int)) = true := by simp; omega
    have HD : Hid (¬ l = m) := Lib.hid (fun h => he (by rw [h]))
    go_enter Try.func19, Try.ntmps19
    go_wp2
    go_ret
    exact ⟨by rw [decide_eq_false HD.out]; rfl, Below.refl _ _⟩

def atV (l : List (Int × Int)) (t : Int) : Int := if 0 ≤ t ∧ t < 1099511627776 then valF 0 l t else 0
theorem valF_take {l : List (Int × Int)} {k : Nat} {p : Int × Int} (a t : Int) (h : l[k]? = some p) : valF a (l.take (k + 1)) t = if p.1 ≤ t then p.2 else valF a (l.take k) t := by
  rw [take_snocP h, valF_snoc]
/-- The greatest value of a list of steps. -/
def grt : List (Int × Int) → Nat → Int
  | _, 0 => 0
  | l, k + 1 => if k = 0 ∨ wlv l k > grt l k then wlv l k else grt l k
where wlv (l : List (Int × Int)) (k : Nat) : Int := (l.getD k (0, 0)).2
set_option maxRecDepth 100000 in
set_option maxHeartbeats 1600000 in
theorem rGreatest_any (v : Value) (l : List (Int × Int)) (w : World) (L : Nat) (hv : RdP w L w.heap.size v l) :
    Calls Try.prog 10 #[v] w fun e w' => e = .returned (.int .i64 (grt l l.length)) ∧ Below w.heap.size w w' := by
  have hv0 := hv
  obtain ⟨A, c, rfl, hlen, _⟩ := hv
  generalize hR : grt l l.length = R
  go_enter Try.func10, Try.ntmps10
  go_wp2
  go_loopw [3, 4] (fun n i wr => ∃ (k : Nat) (x : Int), k ≤ l.length ∧ i = .int .i64 k ∧ n = .int .i64 x ∧ Hid (grt l k = x) ∧ Below w.heap.size w wr) (fun _ i _ => l.length - (intOf i).toNat)
  case atStart => exact ⟨0, 0, by omega, rfl, rfl, Lib.hid rfl, Below.refl _ _⟩
  case round =>
    obtain ⟨k, x, hk, rfl, rfl, hX, hbr⟩ := hrel
    have hbz := hbr.size
    by_cases hlt : k < l.length
    · have hx := List.getElem?_eq_getElem hlt
      generalize l[k] = p at hx
      obtain ⟨a, b⟩ := p
      obtain ⟨ad, rfl, _, hab, c0, c1⟩ := (hv0.below hbr).at hx
      dsimp only at c0 c1
      have hw : grt.wlv l k = b := by unfold grt.wlv; rw [List.getD_eq_getElem?_getD, hx]; rfl
      have i2 : (0 : Int) ≤ (k : Int) := by omega
      have i3 : (k : Int) < (l.length : Int) := by omega
      by_cases hk0 : k = 0
      · subst hk0
        have hV : grt l (0 + 1) = b := by rw [grt, if_pos (.inl rfl), hw]
        have c2 : wr.cell? ⟨ad.block, ad.off + 1, none⟩ = some (.int .i64 b) := c1
        have HV := Lib.hid hV
        clear hV hx hw hX
        go_wp2
        go_roundw
        case rel => exact ⟨0 + 1, b, by omega, by go_num, rfl, HV, hbr⟩
        case measure => simp [intOf]; omega
      · have hkz : ((k : Int) == 0) = false := by simp; omega
        by_cases hbx : b > x
        · have hV : grt l (k + 1) = b := by rw [grt, hw, hX.out, if_pos (.inr hbx)]
          have q1 : decide (b > x) = true := decide_eq_true hbx
          have HV := Lib.hid hV
          clear hV hx hw hX
          go_wp2
          go_roundw
          case rel => exact ⟨k + 1, b, by omega, by go_num, rfl, HV, hbr⟩
          case measure => simp [intOf]; omega
        · have hV : grt l (k + 1) = x := by rw [grt, hw, hX.out, if_neg (by omega)]
          have q1 : decide (b > x) = false := decide_eq_false hbx
          have HV := Lib.hid hV
          clear hV hx hw hX
          go_wp2
          go_roundw
          case rel => exact ⟨k + 1, x, by omega, by go_num, rfl, HV, hbr⟩
          case measure => simp [intOf]; omega
    · have hkl : k = l.length := by omega
      have hE := hX.out
      rw [hkl, hR] at hE
      subst hE
      have hd : ¬ (k : Int) < l.length := by omega
      clear hX hR hkl
      go_wp2
      go_ret
      exact ⟨rfl, hbr⟩
end Go.Proofs.Ytbpjgipldddcfaa
