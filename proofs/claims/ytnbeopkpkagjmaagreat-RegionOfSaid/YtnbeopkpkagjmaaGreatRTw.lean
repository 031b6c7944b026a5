import Derived.Test.YtnbeopkpkagjmaaGreatRCo
import Derived.WalkKit
import Derived.WalkSpells
import Derived.WalkLawsBesides
import Derived.Deep.QuietTactic
import Derived.BigQuiet
import Derived.Handy
import Derived.Lib.Hide
/-
  Contracts of the reference's functions over its combinations, and of the comparisons of lists. Conditions: the lists hold at most 30000 periods.
-/
namespace Go.Proofs.YtnbeopkpkagjmaaGreat
set_option maxRecDepth 100000
set_option linter.unusedVariables false
set_option linter.unusedSimpArgs false
open Go.RowKit

theorem want1 : wantF 1 = fAnd := by funext a b; rfl
theorem want2 : wantF 2 = fOr := by funext a b; rfl
theorem want3 : wantF 3 = fSub := by funext a b; rfl
theorem fOr_nil (l : List (Int × Int)) : comb fOr l [] = ofL l := comb_ext rfl rfl fun t => by rw [memL_nil]; unfold fOr fA; rw [Bool.or_false]
theorem nilP (w : World) (L B : Nat) : RdP w L B (.slice none 0 0) [] := RdP.nil _ _ _ _ _

set_option maxHeartbeats 800000 in
theorem rOf_any (u : Value) (a : List (Int × Int)) (w : World) (L : Nat) (hu : RdP w L w.heap.size u a) (ha : a.length ≤ 30000) :
    Calls Tryz.prog 34 #[u] w (RetPers w (ofL a)) := by
  have h := rcomb_any 2 (by decide) u (.slice none 0 0) a [] w L 0 hu (nilP _ _ _) ha (by simp)
  rw [rcomb_is (by rfl), want2, fOr_nil] at h
  clear hu
  go_enter Tryz.func34, Tryz.ntmps34
  go_wp2_with fail
  refine h.mono ?_
  rintro e w1 ⟨v1, rfl, hr, hb1⟩
  go_wp2
  go_ret
  exact ⟨_, rfl, hr, hb1⟩

set_option maxHeartbeats 800000 in
theorem rUnion_any (u v : Value) (a b : List (Int × Int)) (w : World) (L L2 : Nat) (hu : RdP w L w.heap.size u a) (hv : RdP w L2 w.heap.size v b) (ha : a.length ≤ 30000) (hb : b.length ≤ 30000) :
    Calls Tryz.prog 79 #[u, v] w (RetPers w (comb fOr a b)) := by
  have h := rcomb_any 2 (by decide) u v a b w L L2 hu hv ha hb
  rw [rcomb_is (by rfl), want2] at h
  clear hu hv
  go_enter Tryz.func79, Tryz.ntmps79
  go_wp2_with fail
  refine h.mono ?_
  rintro e w1 ⟨v1, rfl, hr, hb1⟩
  go_wp2
  go_ret
  exact ⟨_, rfl, hr, hb1⟩

set_option maxHeartbeats 800000 in
theorem rInter_any (u v : Value) (a b : List (Int × Int)) (w : World) (L L2 : Nat) (hu : RdP w L w.heap.size u a) (hv : RdP w L2 w.heap.size v b) (ha : a.length ≤ 30000) (hb : b.length ≤ 30000) :
    Calls Tryz.prog 80 #[u, v] w (RetPers w (comb fAnd a b)) := by
  have h := rcomb_any 1 (by decide) u v a b w L L2 hu hv ha hb
  rw [rcomb_is (by rfl), want1] at h
  clear hu hv
  go_enter Tryz.func80, Tryz.ntmps80
  go_wp2_with fail
  refine h.mono ?_
  rintro e w1 ⟨v1, rfl, hr, hb1⟩
  go_wp2
  go_ret
  exact ⟨_, rfl, hr, hb1⟩

set_option maxHeartbeats 800000 in
theorem rSub_any (u v : Value) (a b : List (Int × Int)) (w : World) (L L2 : Nat) (hu : RdP w L w.heap.size u a) (hv : RdP w L2 w.heap.size v b) (ha : a.length ≤ 30000) (hb : b.length ≤ 30000) :
    Calls Tryz.prog 81 #[u, v] w (RetPers w (comb fSub a b)) := by
  have h := rcomb_any 3 (by decide) u v a b w L L2 hu hv ha hb
  rw [rcomb_is (by rfl), want3] at h
  clear hu hv
  go_enter Tryz.func81, Tryz.ntmps81
  go_wp2_with fail
  refine h.mono ?_
  rintro e w1 ⟨v1, rfl, hr, hb1⟩
  go_wp2
  go_ret
  exact ⟨_, rfl, hr, hb1⟩

def covB (a b : List (Int × Int)) : Bool := decide ((comb fSub b a).length = 0)
theorem lenS_snoc {l : List (Int × Int)} {k : Nat} {a b : Int} (hk : l[k]? = some (a, b)) : lenS (l.take (k + 1)) = lenS (l.take k) + (b - a) := by
  obtain ⟨hlt, e⟩ := List.getElem?_eq_some_iff.1 hk
  rw [List.take_succ_eq_append_getElem hlt, lenS_append, e, lenS_one]
theorem ofL_at {l : List (Int × Int)} {k : Nat} {a b : Int} (hk : (ofL l)[k]? = some (a, b)) : 0 ≤ a ∧ a < b ∧ b ≤ 1099511627776 ∧ 0 ≤ lenS ((ofL l).take k) ∧ lenS ((ofL l).take k) ≤ 1099511627776 := by
  have hs : spB (-1) (ofL l) = true := comb_sp rfl l []
  have h1 := spB_take (k + 1) hs
  obtain ⟨hlt, e⟩ := List.getElem?_eq_some_iff.1 hk
  rw [List.take_succ_eq_append_getElem hlt, spB_snoc, e] at h1
  simp only [Bool.and_eq_true, decide_eq_true_eq] at h1
  have hv := vld_iff.1 h1.2
  have h2 := spB_take k hs
  have h0 : ascB 0 ((ofL l).take k) = true := by
    cases he : (ofL l).take k with
    | nil => rfl
    | cons p r =>
      rw [he] at h2
      simp only [spB, Bool.and_eq_true, decide_eq_true_eq] at h2
      simp only [ascB, Bool.and_eq_true, decide_eq_true_eq]
      exact ⟨⟨by omega, h2.1.2⟩, spB_asc _ _ h2.2⟩
  have h3 := lenS_bd h0 (by omega)
  omega
theorem ofL_len (l : List (Int × Int)) : (ofL l).length ≤ 2 * l.length := by have := comb_len fA l []; unfold ofL; simpa using this

def nxt (t : Int) : List (Int × Int) → Int × Bool
  | [] => (0, false)
  | p :: l => if t < p.2 then (max t p.1, true) else nxt t l
def nextL (l : List (Int × Int)) (t : Int) : Int × Bool := nxt t (ofL l)
theorem nxt_step {t : Int} {l : List (Int × Int)} {k : Nat} {x y : Int} (hk : l[k]? = some (x, y)) : nxt t (l.drop k) = if t < y then (max t x, true) else nxt t (l.drop (k + 1)) := by
  obtain ⟨hlt, e⟩ := List.getElem?_eq_some_iff.1 hk
  rw [List.drop_eq_getElem_cons hlt, e, nxt]
def RetPair (w : World) (r : Int × Bool) (e : Ending) (w' : World) : Prop := e = .returned (.tuple #[.int .i64 r.1, .bool r.2]) ∧ Below w.heap.size w w'
end Go.Proofs.YtnbeopkpkagjmaaGreat
