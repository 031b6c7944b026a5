import Derived.Test.YtbpjgipldddcfaaGLl
import Derived.WalkKit
import Derived.WalkSpells
import Derived.WalkLawsBesides
import Derived.Deep.QuietTactic
import Derived.BigQuiet
import Derived.Handy
import Derived.Lib.Hide
/-
  Contracts of the program's parts of the sum of pieces: changed at the first instant, the instant of the first piece, how many are reached, totals. Conditions: none.
-/
namespace Go.Proofs.Ytbpjgipldddcfaa
set_option maxRecDepth 100000
set_option linter.unusedVariables false
set_option linter.unusedSimpArgs false
open Go.RowKit

theorem own_cut {w : World} {base e size g n c : Nat} {xs : List Value} (h : w.ownsRow base e size (.slice (some ⟨g, 0, none⟩) n c) n xs) (m : Nat) (hm : m ≤ n) : w.ownsRow base e size (.slice (some ⟨g, 0, none⟩) m c) m (xs.take (m * size)) := by
  have hlen := h.1
  have hmul : m * size ≤ n * size := Nat.mul_le_mul_right _ hm
  refine ⟨by rw [List.length_take]; omega, ?_⟩
  rcases h.2 with ⟨hv, _⟩ | ⟨g', cap, cur, hv, hb, hh, hn, hc, hs, ht⟩
  · cases hv
  · injection hv with e1 e2 e3
    injection e1 with e1
    injection e1 with e1
    subst e1 e3
    refine .inr ⟨g, c, cur, rfl, hb, hh, by omega, hc, hs, ?_⟩
    rw [← ht, List.take_take]
    congr 1
    omega
set_option maxRecDepth 100000 in
set_option maxHeartbeats 3200000 in
/-- The step at the first instant is replaced. -/
theorem changed_zero (v : Value) (y n : Int) (w : World) (base : Nat) (hown : w.ownsRow base 37 2 v [((0 : Int), y)].length (flatP [(0, y)])) (hbase : base ≤ w.heap.size) :
    Calls Try.prog 53 #[v, .int .i64 0, .int .i64 n] w fun e w' => ∃ v', e = .returned v' ∧ w'.ownsRow base 37 2 v' [((0 : Int), n)].length (flatP [(0, n)]) ∧ Below base w w' := by
  rcases own_get hown with ⟨_, h0⟩ | ⟨g, c, rfl, hbg, hg, hnc, hcell⟩
  · simp at h0
  · have d0 : w.cell? ⟨g, 0, none⟩ = some (.int .i64 0) := hcell 0 _ rfl
    have d1 : w.cell? ⟨g, 1, none⟩ = some (.int .i64 y) := hcell 1 _ rfl
    have HC : Hid (w.ownsRow base 37 2 (.slice (some ⟨g, 0, none⟩) 0 c) ([] : List (Int × Int)).length (flatP [])) := Lib.hid (own_cut hown 0 (by omega))
    clear hown hcell
    have hnc1 : 1 ≤ c := hnc
    show Calls Try.prog 53 #[.slice (some ⟨g, 0, none⟩) 1 c, .int .i64 0, .int .i64 n] w _
    clear hnc
    go_enter Try.func53, Try.ntmps53
    go_wp2_with (at_builtin; refine append_stp _ rfl _ _ rfl base _ [] rfl (World.ownsRow.alloc HC.out _) ⟨w.heap.size, 0, none⟩ 0 n rfl (cell_two_new _ _ _ _) ?_ ?_ ?_; (focus (first | (simp; done) | (simp; omega))); (focus go_size); intro v1 w1 hown1 hb1)
    go_ret
    exact ⟨_, rfl, hown1, ((Below.refl _ _).alloc hbase _).trans hb1⟩

/-- A piece's instant and number. -/
def kBeg (c : Pc) : Int × Int := (c.1, c.2.2)
def kEnd (c : Pc) : Int × Int := (c.2.1, c.2.2)
def AsksK (g : Nat) (κ : Pc → Int × Int) : Prop := ∀ (x y z : Int) (W : World), Calls Try.prog g #[.agg #[.int .i64 x, .int .i64 y, .int .i64 z]] W fun e w' => e = .returned (.int .i64 (κ (x, y, z)).1) ∧ Below W.heap.size W w'
theorem asks_beg : AsksK 47 kBeg := by
  intro x y z W
  show Calls Try.prog 47 #[.agg #[.int .i64 x, .int .i64 y, .int .i64 z]] W _
  go_enter Try.func47, Try.ntmps47
  go_wp2
  go_ret
  refine ⟨rfl, ?_⟩
  (repeat' (first | (with_reducible exact Below.refl _ _) | (with_reducible assumption) | (with_reducible refine Below.alloc ?_ ?_ _) | (with_reducible refine Below.drew ?_) | (with_reducible refine Below.setCell ?_ ?_ _) | (with_reducible refine Below.trans ?_ (Below.mono (by assumption) ?_)) | go_size))
theorem asks_end : AsksK 48 kEnd := by
  intro x y z W
  show Calls Try.prog 48 #[.agg #[.int .i64 x, .int .i64 y, .int .i64 z]] W _
  go_enter Try.func48, Try.ntmps48
  go_wp2
  go_ret
  refine ⟨rfl, ?_⟩
  (repeat' (first | (with_reducible exact Below.refl _ _) | (with_reducible assumption) | (with_reducible refine Below.alloc ?_ ?_ _) | (with_reducible refine Below.drew ?_) | (with_reducible refine Below.setCell ?_ ?_ _) | (with_reducible refine Below.trans ?_ (Below.mono (by assumption) ?_)) | go_size))
set_option maxRecDepth 100000 in
set_option maxHeartbeats 800000 in
theorem firstC_any (g : Nat) (κ : Pc → Int × Int) (hg : AsksK g κ) (eg : ∀ args w, (callFunc g args).run Try.prog w = .ok (.enter g args) w) (v : Value) (l : List Pc) (w : World) (L : Nat) (hv : RdB w L w.heap.size v l) :
    Calls Try.prog 78 #[v, .func (.func g) #[] #[]] w fun e w' => e = .returned (.int .i64 (fstT (l.map κ))) ∧ Below w.heap.size w w' := by
  have hv0 := hv
  obtain ⟨A, c, rfl, hlen, _⟩ := hv
  cases l with
  | nil =>
    go_enter Try.func78, Try.ntmps78
    go_wp2
    go_ret
    exact ⟨rfl, Below.refl _ _⟩
  | cons p l =>
    obtain ⟨x, y, z⟩ := p
    obtain ⟨ad, rfl, _, hab, c0, c1, c2⟩ := hv0.atw (k := 0) (x := x) (y := y) (z := z) rfl
    have d0 : w.cell? ad = some (.int .i64 x) := c0
    have d1 : w.cell? ⟨ad.block, ad.off + 1, none⟩ = some (.int .i64 y) := c1
    have d2 : w.cell? ⟨ad.block, ad.off + 2, none⟩ = some (.int .i64 z) := c2
    have hln : ((x, y, z) :: l).length = l.length + 1 := rfl
    have hft : fstT (((x, y, z) :: l).map κ) = (κ (x, y, z)).1 := rfl
    rw [hln, hft]
    have hcl := hg x y z
    generalize l.length = n at *
    generalize (κ (x, y, z)).1 = kk at *
    have hn0 : (((n + 1 : Nat) : Int) == 0) = false := by simp; omega
    clear c0 c1 c2 hv0 hln hft
    go_enter Try.func78, Try.ntmps78
    go_wp2_with fail
    refine (hcl _).mono ?_
    rintro e w2 ⟨rfl, hb2⟩
    go_wp2
    go_ret
    exact ⟨rfl, hb2⟩
set_option maxRecDepth 100000 in
set_option maxHeartbeats 1600000 in
theorem reachedC_any (g : Nat) (κ : Pc → Int × Int) (hg : AsksK g κ) (eg : ∀ args w, (callFunc g args).run Try.prog w = .ok (.enter g args) w) (v : Value) (l : List Pc) (t : Int) (w : World) (L : Nat) (hv : RdB w L w.heap.size v l) :
    Calls Try.prog 79 #[v, .func (.func g) #[] #[], .int .i64 t] w fun e w' => e = .returned (.int .i64 (rch (l.map κ) t : Nat)) ∧ Below w.heap.size w w' := by
  have hv0 := hv
  obtain ⟨A, c, rfl, hlen, _⟩ := hv
  generalize hR : rch (l.map κ) t = R
  go_enter Try.func79, Try.ntmps79
  go_wp2
  go_loopw [7] (fun i wr => ∃ k : Nat, k ≤ l.length ∧ i = .int .i64 k ∧ Hid (∀ q ∈ (l.map κ).take k, q.1 ≤ t) ∧ Below w.heap.size w wr) (fun i _ => l.length - (intOf i).toNat)
  case atStart => exact ⟨0, by omega, rfl, Lib.hid (fun q hq => by simp at hq), Below.refl _ _⟩
  case round =>
    obtain ⟨k, hk, rfl, hall, hbr⟩ := hrel
    have hbz := hbr.size
    by_cases hlt : k < l.length
    · have hx := List.getElem?_eq_getElem hlt
      generalize l[k] = p at hx
      obtain ⟨x, y, z⟩ := p
      obtain ⟨ad, rfl, _, hab, c0, c1, c2⟩ := (hv0.below hbr).atw hx
      have hxm : (l.map κ)[k]? = some (κ (x, y, z)) := by rw [List.getElem?_map, hx]; rfl
      have i2 : (0 : Int) ≤ (k : Int) := by omega
      have i3 : (k : Int) < (l.length : Int) := by omega
      have q3 : decide ((k : Int) < (l.length : Int)) = true := decide_eq_true i3
      have hcl := hg x y z
      clear hx
      by_cases hat : (κ (x, y, z)).1 ≤ t
      · have q4 : decide ((κ (x, y, z)).1 ≤ t) = true := decide_eq_true hat
        have HA : Hid (∀ q ∈ (l.map κ).take (k + 1), q.1 ≤ t) := Lib.hid (fun q hq => by
          rw [take_snocP hxm] at hq
          rcases List.mem_append.1 hq with hq | hq
          · exact hall.out q hq
          · simp at hq; subst hq; exact hat)
        clear hxm
        generalize (κ (x, y, z)).1 = kk at *
        go_wp2_with fail
        refine (hcl _).mono ?_
        rintro e w2 ⟨rfl, hb2⟩
        go_wp2
        go_roundw
        case rel => exact ⟨k + 1, by omega, by go_num, HA, hbr.trans (hb2.mono hbz)⟩
        case measure => simp [intOf]; omega
      · have q4 : decide ((κ (x, y, z)).1 ≤ t) = false := decide_eq_false hat
        have hE := rch_stop hxm hall.out hat
        rw [hR] at hE
        subst hE
        clear hxm hR
        generalize (κ (x, y, z)).1 = kk at *
        go_wp2_with fail
        refine (hcl _).mono ?_
        rintro e w2 ⟨rfl, hb2⟩
        go_wp2
        go_ret
        exact ⟨rfl, hbr.trans (hb2.mono hbz)⟩
    · have q3 : decide ((k : Int) < (l.length : Int)) = false := decide_eq_false (by omega)
      have hkl : k = l.length := by omega
      have hml : (l.map κ).length = l.length := List.length_map κ
      have hT : (l.map κ).take k = l.map κ := List.take_of_length_le (by omega)
      have hE := rch_all (l := l.map κ) (t := t) (by rw [← hT]; exact hall.out)
      rw [hR, hml] at hE
      subst hE
      subst hkl
      clear hT hR hall hml
      go_wp2
      go_ret
      exact ⟨rfl, hbr⟩
/-- The sum of the numbers, as the program reckons it. -/
def totW (l : List Pc) : Int := l.foldl (fun n c => IntKind.i64.wrap (n + c.2.2)) 0
theorem totW_step {l : List Pc} {k : Nat} {c : Pc} (h : l[k]? = some c) : totW (l.take (k + 1)) = IntKind.i64.wrap (totW (l.take k) + c.2.2) := by
  rw [take_snocC h]; unfold totW; rw [List.foldl_append]; rfl
theorem totW_aux : ∀ (l : List Pc) (a : Int), l.foldl (fun n c => IntKind.i64.wrap (n + c.2.2)) (IntKind.i64.wrap a) = IntKind.i64.wrap (a + (l.map (·.2.2)).sum)
  | [], a => by simp
  | c :: l, a => by
    rw [List.foldl_cons, wr_add, totW_aux l, List.map_cons, List.sum_cons, Int.add_assoc]
theorem totW_eq (l : List Pc) : totW l = IntKind.i64.wrap ((l.map (·.2.2)).sum) := by
  have := totW_aux l 0
  rw [wr_zero, Int.zero_add] at this
  exact this
set_option maxRecDepth 100000 in
set_option maxHeartbeats 1600000 in
theorem total_any (v : Value) (l : List Pc) (w : World) (L : Nat) (hv : RdB w L w.heap.size v l) :
    Calls Try.prog 52 #[v] w fun e w' => e = .returned (.int .i64 (totW l)) ∧ Below w.heap.size w w' := by
  have hv0 := hv
  obtain ⟨A, c, rfl, hlen, _⟩ := hv
  go_enter Try.func52, Try.ntmps52
  go_wp2
  go_loopw [3, 8] (fun n i wr => ∃ k : Nat, k ≤ l.length ∧ i = .int .i64 k ∧ n = .int .i64 (totW (l.take k)) ∧ Below w.heap.size w wr) (fun _ i _ => l.length - (intOf i).toNat)
  case atStart => exact ⟨0, by omega, rfl, rfl, Below.refl _ _⟩
  case round =>
    obtain ⟨k, hk, rfl, rfl, hbr⟩ := hrel
    have hbz := hbr.size
    by_cases hlt : k < l.length
    · have hx := List.getElem?_eq_getElem hlt
      generalize l[k] = p at hx
      obtain ⟨x, y, z⟩ := p
      obtain ⟨ad, rfl, _, hab, c0, c1, c2⟩ := (hv0.below hbr).atw hx
      have i2 : (0 : Int) ≤ (k : Int) := by omega
      have i3 : (k : Int) < (l.length : Int) := by omega
      have hS := Lib.hid (totW_step hx)
      clear hx
      generalize totW (l.take k) = nn at *
      go_wp2
      go_roundw
      case rel => exact ⟨k + 1, by omega, by go_num, by rw [hS.out]; exact congrArg (Value.int IntKind.i64) (wrap64_eq _), hbr.trans (by (repeat' (first | (with_reducible exact Below.refl _ _) | (with_reducible assumption) | (with_reducible refine Below.alloc ?_ ?_ _) | (with_reducible refine Below.drew ?_) | (with_reducible refine Below.setCell ?_ ?_ _) | (with_reducible refine Below.trans ?_ (Below.mono (by assumption) ?_)) | go_size)))⟩
      case measure => simp [intOf]; omega
    · have hT : l.take k = l := List.take_of_length_le (by omega)
      have hd : ¬ (k : Int) < l.length := by omega
      rw [hT]
      go_wp2
      go_ret
      exact ⟨rfl, hbr⟩
end Go.Proofs.Ytbpjgipldddcfaa
