import Derived.Test.YtbpjgipldddcfaaGIT
import Derived.Shelf.Abstract
import Derived.WalkKit
import Derived.WalkSpells
import Derived.WalkLawsBesides
import Derived.Deep.QuietTactic
import Derived.BigQuiet
import Derived.Handy
import Derived.Lib.Hide
/-
  Contracts of the parts of the program's merge on lists of steps: the instant of a step, the first one, how many are reached. Conditions: none.
-/
namespace Go.Proofs.Ytbpjgipldddcfaa
set_option maxRecDepth 100000
set_option linter.unusedVariables false
set_option linter.unusedSimpArgs false
open Go.RowKit

/-- What a function value that gives the instant of a step answers. -/
theorem fromS_any (a b : Int) (w : World) :
    Calls Try.prog 54 #[.agg #[.int .i64 a, .int .i64 b]] w fun e w' => e = .returned (.int .i64 a) ∧ Below w.heap.size w w' := by
  go_enter Try.func54, Try.ntmps54
  go_wp2
  go_ret
  refine ⟨rfl, ?_⟩
  (repeat' (first | (with_reducible exact Below.refl _ _) | (with_reducible assumption) | (with_reducible refine Below.alloc ?_ ?_ _) | (with_reducible refine Below.drew ?_) | (with_reducible refine Below.setCell ?_ ?_ _) | (with_reducible refine Below.trans ?_ (Below.mono (by assumption) ?_)) | go_size))
theorem enters_from : ∀ args w, (callFunc 54 args).run Try.prog w = .ok (.enter 54 args) w := enters_of Try.func54 (by kernel_rfl) rfl
def fstT (l : List (Int × Int)) : Int := match l with
  | [] => 9223372036854775807
  | p :: _ => p.1
set_option maxRecDepth 100000 in
set_option maxHeartbeats 800000 in
theorem first_any (v : Value) (l : List (Int × Int)) (w : World) (L : Nat) (hv : RdP w L w.heap.size v l) :
    Calls Try.prog 80 #[v, .func (.func 54) #[] #[]] w fun e w' => e = .returned (.int .i64 (fstT l)) ∧ Below w.heap.size w w' := by
  have eg := enters_from
  have hv0 := hv
  obtain ⟨A, c, rfl, hlen, _⟩ := hv
  cases l with
  | nil =>
    go_enter Try.func80, Try.ntmps80
    go_wp2
    go_ret
    exact ⟨rfl, Below.refl _ _⟩
  | cons p l =>
    obtain ⟨a, b⟩ := p
    obtain ⟨ad, rfl, _, hab, c0, c1⟩ := hv0.at (k := 0) (p := (a, b)) rfl
    have d0 : w.cell? ad = some (.int .i64 a) := c0
    have d1 : w.cell? ⟨ad.block, ad.off + 1, none⟩ = some (.int .i64 b) := c1
    have hln : ((a, b) :: l).length = l.length + 1 := rfl
    rw [hln]
    generalize l.length = n at *
    have hn0 : (((n + 1 : Nat) : Int) == 0) = false := by simp; omega
    have hcl := fromS_any a b
    clear c0 c1 hv0 hln
    go_enter Try.func80, Try.ntmps80
    go_wp2_with fail
    refine (hcl _).mono ?_
    rintro e w2 ⟨rfl, hb2⟩
    go_wp2
    go_ret
    exact ⟨rfl, hb2⟩
/-- How many steps at the beginning lie at t or before. -/
def rch (l : List (Int × Int)) (t : Int) : Nat := (l.takeWhile fun p => decide (p.1 ≤ t)).length
theorem rch_le (l : List (Int × Int)) (t : Int) : rch l t ≤ l.length := by unfold rch; exact (List.takeWhile_sublist _).length_le
theorem rch_stop : ∀ {l : List (Int × Int)} {k : Nat} {p : Int × Int} {t : Int}, l[k]? = some p → (∀ q ∈ l.take k, q.1 ≤ t) → ¬ p.1 ≤ t → rch l t = k
  | [], _, _, _, h, _, _ => by simp at h
  | q :: l, 0, p, t, h, _, hn => by
    simp at h
    subst h
    unfold rch
    rw [List.takeWhile_cons, if_neg (by simpa using hn)]
    rfl
  | q :: l, k + 1, p, t, h, ha, hn => by
    unfold rch
    rw [List.takeWhile_cons, if_pos (by simpa using ha q (by simp)), List.length_cons]
    have := rch_stop (l := l) (k := k) (p := p) (t := t) (by simpa using h) (fun r hr => ha r (by rw [List.take_succ_cons]; exact List.mem_cons_of_mem _ hr)) hn
    unfold rch at this
    rw [this]
theorem rch_all : ∀ {l : List (Int × Int)} {t : Int}, (∀ q ∈ l, q.1 ≤ t) → rch l t = l.length
  | [], _, _ => rfl
  | q :: l, t, h => by
    unfold rch
    rw [List.takeWhile_cons, if_pos (by simpa using h q (by simp)), List.length_cons, List.length_cons]
    have := rch_all (l := l) (t := t) (fun r hr => h r (List.mem_cons_of_mem _ hr))
    unfold rch at this
    rw [this]
set_option maxRecDepth 100000 in
set_option maxHeartbeats 1600000 in
theorem reached_any (v : Value) (l : List (Int × Int)) (t : Int) (w : World) (L : Nat) (hv : RdP w L w.heap.size v l) :
    Calls Try.prog 81 #[v, .func (.func 54) #[] #[], .int .i64 t] w fun e w' => e = .returned (.int .i64 (rch l t : Nat)) ∧ Below w.heap.size w w' := by
  have eg := enters_from
  have hv0 := hv
  obtain ⟨A, c, rfl, hlen, _⟩ := hv
  generalize hR : rch l t = R
  go_enter Try.func81, Try.ntmps81
  go_wp2
  go_loopw [7] (fun i wr => ∃ k : Nat, k ≤ l.length ∧ i = .int .i64 k ∧ Hid (∀ q ∈ l.take k, q.1 ≤ t) ∧ Below w.heap.size w wr) (fun i _ => l.length - (intOf i).toNat)
  case atStart => exact ⟨0, by omega, rfl, Lib.hid (fun q hq => by simp at hq), Below.refl _ _⟩
  case round =>
    obtain ⟨k, hk, rfl, hall, hbr⟩ := hrel
    have hbz := hbr.size
    by_cases hlt : k < l.length
    · have hx := List.getElem?_eq_getElem hlt
      generalize l[k] = p at hx
      obtain ⟨a, b⟩ := p
      obtain ⟨ad, rfl, _, hab, c0, c1⟩ := (hv0.below hbr).at hx
      dsimp only at c0 c1
      have i2 : (0 : Int) ≤ (k : Int) := by omega
      have i3 : (k : Int) < (l.length : Int) := by omega
      have q3 : decide ((k : Int) < (l.length : Int)) = true := decide_eq_true i3
      have hcl := fromS_any a b
      by_cases hat : a ≤ t
      · have q4 : decide (a ≤ t) = true := decide_eq_true hat
        have HA : Hid (∀ q ∈ l.take (k + 1), q.1 ≤ t) := Lib.hid (fun q hq => by
          rw [take_snocP hx] at hq
          rcases List.mem_append.1 hq with hq | hq
          · exact hall.out q hq
          · simp at hq; subst hq; exact hat)
        clear hx
        go_wp2_with fail
        refine (hcl _).mono ?_
        rintro e w2 ⟨rfl, hb2⟩
        go_wp2
        go_roundw
        case rel => exact ⟨k + 1, by omega, by go_num, HA, hbr.trans (hb2.mono hbz)⟩
        case measure => simp [intOf]; omega
      · have q4 : decide (a ≤ t) = false := decide_eq_false hat
        have hE := rch_stop hx hall.out hat
        rw [hR] at hE
        subst hE
        clear hx hR
        go_wp2_with fail
        refine (hcl _).mono ?_
        rintro e w2 ⟨rfl, hb2⟩
        go_wp2
        go_ret
        exact ⟨rfl, hbr.trans (hb2.mono hbz)⟩
    · have q3 : decide ((k : Int) < (l.length : Int)) = false := decide_eq_false (by omega)
      have hkl : k = l.length := by omega
      have hT : l.take k = l := List.take_of_length_le (by omega)
      have hE := rch_all (l := l) (t := t) (by rw [← hT]; exact hall.out)
      rw [hR] at hE
      subst hE
      subst hkl
      clear hT hR hall
      go_wp2
      go_ret
      exact ⟨rfl, hbr⟩
end Go.Proofs.Ytbpjgipldddcfaa
