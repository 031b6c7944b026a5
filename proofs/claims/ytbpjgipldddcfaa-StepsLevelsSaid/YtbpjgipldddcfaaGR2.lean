import Derived.Test.YtbpjgipldddcfaaGCo
import Derived.WalkKit
import Derived.WalkSpells
import Derived.WalkLawsBesides
import Derived.Deep.QuietTactic
import Derived.BigQuiet
import Derived.Handy
import Derived.Lib.Hide
/-
  Contracts of the reference's functions over its combinations, and of the comparisons of lists. Conditions: the lists hold at most 30000 periods.
-/
namespace Go.Proofs.Ytbpjgipldddcfaa
set_option maxRecDepth 100000
set_option linter.unusedVariables false
set_option linter.unusedSimpArgs false
open Go.RowKit

theorem want1 : wantF 1 = fAnd := by funext a b; rfl
theorem want2 : wantF 2 = fOr := by funext a b; rfl
theorem want3 : wantF 3 = fSub := by funext a b; rfl
theorem fOr_nil (l : List (Int × Int)) : comb fOr l [] = ofL l := comb_ext rfl rfl fun t => by rw [memL_nil]; unfold fOr fA; rw [Bool.or_false]
theorem nilP (w : World) (L B : Nat) : RdP w L B (.slice none 0 0) [] := RdP.nil _ _ _ _ _

set_option maxHeartbeats 800000 in
theorem rSub_any (u v : Value) (a b : List (Int × Int)) (w : World) (L L2 : Nat) (hu : RdP w L w.heap.size u a) (hv : RdP w L2 w.heap.size v b) (ha : a.length ≤ 30000) (hb : b.length ≤ 30000) :
    Calls Try.prog 30 #[u, v] w (RetPers w (comb fSub a b)) := by
  have h := rcomb_any 3 (by decide) u v a b w L L2 hu hv ha hb
  rw [rcomb_is (by rfl), want3] at h
  clear hu hv
  go_enter Try.func30, Try.ntmps30
  go_wp2_with fail
  refine h.mono ?_
  rintro e w1 ⟨v1, rfl, hr, hb1⟩
  go_wp2
  go_ret
  exact ⟨_, rfl, hr, hb1⟩

def covB (a b : List (Int × Int)) : Bool := decide ((comb fSub b a).length = 0)
set_option maxHeartbeats 800000 in
theorem rCov_any (u v : Value) (a b : List (Int × Int)) (w : World) (L L2 : Nat) (hu : RdP w L w.heap.size u a) (hv : RdP w L2 w.heap.size v b) (ha : a.length ≤ 30000) (hb : b.length ≤ 30000) :
    Calls Try.prog 13 #[u, v] w fun e w' => e = .returned (.bool (covB a b)) ∧ Below w.heap.size w w' := by
  have h := rSub_any v u b a w L2 L hv hu hb ha
  unfold covB
  clear hu hv
  generalize comb fSub b a = r at *
  go_enter Try.func13, Try.ntmps13
  go_wp2_with fail
  refine h.mono ?_
  rintro e w1 ⟨v1, rfl, hr, hb1⟩
  obtain ⟨A, c, rfl, _, _⟩ := hr
  by_cases hd : r.length = 0
  · have h1 : ((r.length : Int) == 0) = true := by rw [beq_iff_eq]; omega
    have HD := Lib.hid hd
    clear hd
    go_wp2
    go_ret
    exact ⟨by rw [decide_eq_true HD.out]; rfl, hb1⟩
  · have h1 : ((r.length : Int) == 0) = false := by rw [beq_eq_false_iff_ne]; omega
    have HD := Lib.hid hd
    clear hd
    go_wp2
    go_ret
    exact ⟨by rw [decide_eq_false HD.out]; rfl, hb1⟩

theorem lenS_snoc {l : List (Int × Int)} {k : Nat} {a b : Int} (hk : l[k]? = some (a, b)) : lenS (l.take (k + 1)) = lenS (l.take k) + (b - a) := by
  obtain ⟨hlt, e⟩ := List.getElem?_eq_some_iff.1 hk
  rw [List.take_succ_eq_append_getElem hlt, lenS_append, e, lenS_one]
theorem ofL_at {l : List (Int × Int)} {k : Nat} {a b : Int} (hk : (ofL l)[k]? = some (a, b)) : 0 ≤ a ∧ a < b ∧ b ≤ 1099511627776 ∧ 0 ≤ lenS ((ofL l).take k) ∧ lenS ((ofL l).take k) ≤ 1099511627776 := by
  have hs : spB (-1) (ofL l) = true := comb_sp rfl l []
  have h1 := spB_take (k + 1) hs
  obtain ⟨hlt, e⟩ := List.getElem?_eq_some_iff.1 hk
  rw [List.take_succ_eq_append_getElem hlt, spB_snoc, e] at h1
  simp only [Bool.and_eq_true, decide_eq_true_eq] at h1
  have hv := vld_iff.1 h1.2
  have h2 := spB_take k hs
  have h0 : ascB 0 ((ofL l).take k) = true := by
    cases he : (ofL l).take k with
    | nil => rfl
    | cons p r =>
      rw [he] at h2
      simp only [spB, Bool.and_eq_true, decide_eq_true_eq] at h2
      simp only [ascB, Bool.and_eq_true, decide_eq_true_eq]
      exact ⟨⟨by omega, h2.1.2⟩, spB_asc _ _ h2.2⟩
  have h3 := lenS_bd h0 (by omega)
  omega
theorem ofL_len (l : List (Int × Int)) : (ofL l).length ≤ 2 * l.length := by have := comb_len fA l []; unfold ofL; simpa using this

def nxt (t : Int) : List (Int × Int) → Int × Bool
  | [] => (0, false)
  | p :: l => if t < p.2 then (max t p.1, true) else nxt t l
def nextL (l : List (Int × Int)) (t : Int) : Int × Bool := nxt t (ofL l)
theorem nxt_step {t : Int} {l : List (Int × Int)} {k : Nat} {x y : Int} (hk : l[k]? = some (x, y)) : nxt t (l.drop k) = if t < y then (max t x, true) else nxt t (l.drop (k + 1)) := by
  obtain ⟨hlt, e⟩ := List.getElem?_eq_some_iff.1 hk
  rw [List.drop_eq_getElem_cons hlt, e, nxt]
def RetPair (w : World) (r : Int × Bool) (e : Ending) (w' : World) : Prop := e = .returned (.tuple #[.int .i64 r.1, .bool r.2]) ∧ Below w.heap.size w w'
end Go.Proofs.Ytbpjgipldddcfaa
