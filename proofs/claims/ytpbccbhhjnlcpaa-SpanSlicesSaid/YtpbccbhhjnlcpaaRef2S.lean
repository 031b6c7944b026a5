/-
  Contracts of the reference's functions over its combinations, and of the comparisons of lists. Conditions: the lists hold at most 30000 periods.
-/
import Derived.Test.YtpbccbhhjnlcpaaCombS
import Derived.WalkKit
import Derived.WalkSpells
import Derived.WalkLawsBesides
import Derived.Deep.QuietTactic
import Derived.BigQuiet
import Derived.Handy
import Derived.Lib.Hide
namespace Go.Proofs.Ytpbccbhhjnlcpaa
open Go.RowKit

theorem want1 : wantF 1 = fAnd := by funext a b; rfl
theorem want2 : wantF 2 = fOr := by funext a b; rfl
theorem want3 : wantF 3 = fSub := by funext a b; rfl
theorem fOr_nil (l : List (Int × Int)) : comb fOr l [] = ofL l := comb_ext rfl rfl fun t => by rw [memL_nil]; unfold fOr fA; rw [Bool.or_false]
theorem nilP (w : World) (L B : Nat) : RdP w L B (.slice none 0 0) [] := RdP.nil _ _ _ _ _

set_option maxHeartbeats 800000 in
theorem rOf_any (u : Value) (a : List (Int × Int)) (w : World) (L : Nat) (hu : RdP w L w.heap.size u a) (ha : a.length ≤ 30000) :
    Calls Try.prog 19 #[u] w (RetPers w (ofL a)) := by
  have h := rcomb_any 2 (by decide) u (.slice none 0 0) a [] w L 0 hu (nilP _ _ _) ha (by simp)
  rw [rcomb_is (by rfl), want2, fOr_nil] at h
  clear hu
  go_enter Try.func19, Try.ntmps19
  go_wp2_with fail
  refine h.mono ?_
  rintro e w1 ⟨v1, rfl, hr, hb1⟩
  go_wp2
  go_ret
  exact ⟨_, rfl, hr, hb1⟩

set_option maxHeartbeats 800000 in
theorem rUnion_any (u v : Value) (a b : List (Int × Int)) (w : World) (L L2 : Nat) (hu : RdP w L w.heap.size u a) (hv : RdP w L2 w.heap.size v b) (ha : a.length ≤ 30000) (hb : b.length ≤ 30000) :
    Calls Try.prog 28 #[u, v] w (RetPers w (comb fOr a b)) := by
  have h := rcomb_any 2 (by decide) u v a b w L L2 hu hv ha hb
  rw [rcomb_is (by rfl), want2] at h
  clear hu hv
  go_enter Try.func28, Try.ntmps28
  go_wp2_with fail
  refine h.mono ?_
  rintro e w1 ⟨v1, rfl, hr, hb1⟩
  go_wp2
  go_ret
  exact ⟨_, rfl, hr, hb1⟩

set_option maxHeartbeats 800000 in
theorem rInter_any (u v : Value) (a b : List (Int × Int)) (w : World) (L L2 : Nat) (hu : RdP w L w.heap.size u a) (hv : RdP w L2 w.heap.size v b) (ha : a.length ≤ 30000) (hb : b.length ≤ 30000) :
    Calls Try.prog 30 #[u, v] w (RetPers w (comb fAnd a b)) := by
  have h := rcomb_any 1 (by decide) u v a b w L L2 hu hv ha hb
  rw [rcomb_is (by rfl), want1] at h
  clear hu hv
  go_enter Try.func30, Try.ntmps30
  go_wp2_with fail
  refine h.mono ?_
  rintro e w1 ⟨v1, rfl, hr, hb1⟩
  go_wp2
  go_ret
  exact ⟨_, rfl, hr, hb1⟩

set_option maxHeartbeats 800000 in
theorem rSub_any (u v : Value) (a b : List (Int × Int)) (w : World) (L L2 : Nat) (hu : RdP w L w.heap.size u a) (hv : RdP w L2 w.heap.size v b) (ha : a.length ≤ 30000) (hb : b.length ≤ 30000) :
    Calls Try.prog 32 #[u, v] w (RetPers w (comb fSub a b)) := by
  have h := rcomb_any 3 (by decide) u v a b w L L2 hu hv ha hb
  rw [rcomb_is (by rfl), want3] at h
  clear hu hv
  go_enter Try.func32, Try.ntmps32
  go_wp2_with fail
  refine h.mono ?_
  rintro e w1 ⟨v1, rfl, hr, hb1⟩
  go_wp2
  go_ret
  exact ⟨_, rfl, hr, hb1⟩

set_option maxHeartbeats 800000 in
theorem rCompl_any (u : Value) (a : List (Int × Int)) (w : World) (L : Nat) (hu : RdP w L w.heap.size u a) (ha : a.length ≤ 30000) :
    Calls Try.prog 34 #[u] w (RetPers w (comb fSub [(0, 1099511627776)] a)) := by
  have h := rcomb_any 4 (by decide) u (.slice none 0 0) a [] w L 0 hu (nilP _ _ _) ha (by simp)
  rw [rcomb_nor] at h
  clear hu
  go_enter Try.func34, Try.ntmps34
  go_wp2_with fail
  refine h.mono ?_
  rintro e w1 ⟨v1, rfl, hr, hb1⟩
  go_wp2
  go_ret
  exact ⟨_, rfl, hr, hb1⟩

def covB (a b : List (Int × Int)) : Bool := decide ((comb fSub b a).length = 0)
set_option maxHeartbeats 800000 in
theorem rCov_any (u v : Value) (a b : List (Int × Int)) (w : World) (L L2 : Nat) (hu : RdP w L w.heap.size u a) (hv : RdP w L2 w.heap.size v b) (ha : a.length ≤ 30000) (hb : b.length ≤ 30000) :
    Calls Try.prog 36 #[u, v] w fun e w' => e = .returned (.bool (covB a b)) ∧ Below w.heap.size w w' := by
  have h := rSub_any v u b a w L2 L hv hu hb ha
  unfold covB
  clear hu hv
  generalize comb fSub b a = r at *
  go_enter Try.func36, Try.ntmps36
  go_wp2_with fail
  refine h.mono ?_
  rintro e w1 ⟨v1, rfl, hr, hb1⟩
  obtain ⟨A, c, rfl, _, _⟩ := hr
  by_cases hd : r.length = 0
  · have h1 : ((r.length : Int) == 0) = true := by rw [beq_iff_eq]; omega
    have HD := Lib.hid hd
    clear hd
    go_wp2
    go_ret
    exact ⟨by rw [decide_eq_true HD.out]; rfl, hb1⟩
  · have h1 : ((r.length : Int) == 0) = false := by rw [beq_eq_false_iff_ne]; omega
    have HD := Lib.hid hd
    clear hd
    go_wp2
    go_ret
    exact ⟨by rw [decide_eq_false HD.out]; rfl, hb1⟩

theorem lenS_snoc {l : List (Int × Int)} {k : Nat} {a b : Int} (hk : l[k]? = some (a, b)) : lenS (l.take (k + 1)) = lenS (l.take k) + (b - a) := by
  obtain ⟨hlt, e⟩ := List.getElem?_eq_some_iff.1 hk
  rw [List.take_succ_eq_append_getElem hlt, lenS_append, e, lenS_one]
theorem ofL_at {l : List (Int × Int)} {k : Nat} {a b : Int} (hk : (ofL l)[k]? = some (a, b)) : 0 ≤ a ∧ a < b ∧ b ≤ 1099511627776 ∧ 0 ≤ lenS ((ofL l).take k) ∧ lenS ((ofL l).take k) ≤ 1099511627776 := by
  have hs : spB (-1) (ofL l) = true := comb_sp rfl l []
  have h1 := spB_take (k + 1) hs
  obtain ⟨hlt, e⟩ := List.getElem?_eq_some_iff.1 hk
  rw [List.take_succ_eq_append_getElem hlt, spB_snoc, e] at h1
  simp only [Bool.and_eq_true, decide_eq_true_eq] at h1
  have hv := vld_iff.1 h1.2
  have h2 := spB_take k hs
  have h0 : ascB 0 ((ofL l).take k) = true := by
    cases he : (ofL l).take k with
    | nil => rfl
    | cons p r =>
      rw [he] at h2
      simp only [spB, Bool.and_eq_true, decide_eq_true_eq] at h2
      simp only [ascB, Bool.and_eq_true, decide_eq_true_eq]
      exact ⟨⟨by omega, h2.1.2⟩, spB_asc _ _ h2.2⟩
  have h3 := lenS_bd h0 (by omega)
  omega
theorem ofL_len (l : List (Int × Int)) : (ofL l).length ≤ 2 * l.length := by have := comb_len fA l []; unfold ofL; simpa using this

set_option maxRecDepth 100000 in
set_option maxHeartbeats 1600000 in
theorem rLen_any (u : Value) (a : List (Int × Int)) (w : World) (L : Nat) (hu : RdP w L w.heap.size u a) (ha : a.length ≤ 30000) :
    Calls Try.prog 21 #[u] w fun e w' => e = .returned (.int .i64 (lenL a)) ∧ Below w.heap.size w w' := by
  have h := rOf_any u a w L hu ha
  have hlen := ofL_len a
  have hat := fun k x y (h : (ofL a)[k]? = some (x, y)) => ofL_at h
  unfold lenL
  clear hu
  generalize ofL a = S at *
  go_enter Try.func21, Try.ntmps21
  go_wp2_with fail
  refine h.mono ?_
  rintro e w1 ⟨v1, rfl, hr, hb1⟩
  have hR := Lib.hid hr
  have HAT := Lib.hid hat
  clear hat
  obtain ⟨A, c, rfl, _, _⟩ := hr
  have hz1 := hb1.size
  go_wp2
  go_loopw [4, 5] (fun o i wr => ∃ k : Nat, k ≤ S.length ∧ i = .int .i64 k ∧ o = .int .i64 (lenS (S.take k)) ∧ Below w1.heap.size w1 wr) (fun _ i _ => S.length - (intOf i).toNat)
  case atStart => exact ⟨0, by omega, rfl, rfl, Below.refl _ _⟩
  case round =>
    obtain ⟨k, hk, rfl, rfl, hbr⟩ := hrel
    have hbz := hbr.size
    by_cases hlt : k < S.length
    · have hx := List.getElem?_eq_getElem hlt
      generalize S[k] = p at hx
      obtain ⟨x, y⟩ := p
      have hS := Lib.hid (lenS_snoc hx)
      obtain ⟨q1, q2, q3, q4, q5⟩ := HAT.out k x y hx
      obtain ⟨ad, rfl, _, hab, c0, c1⟩ := (hR.out.below hbr).at hx
      dsimp only at c0 c1
      generalize lenS (S.take k) = n at *
      have f0 : ∀ p : After wr, p.w.cell? (ad.add (k * 2)) = some (.int .i64 x) := after_cell (by rw [add_block]; omega) c0
      have f1 : ∀ p : After wr, p.w.cell? ⟨(ad.add (k * 2)).block, (ad.add (k * 2)).off + 1, none⟩ = some (.int .i64 y) := after_cell (by show (ad.add (k * 2)).block < _; rw [add_block]; omega) c1
      have i1 : IntKind.i64.wrap (n + y) = n + y := IntWalk.i64_in _ (by omega)
      have i2 : IntKind.i64.wrap (n + y - x) = n + (y - x) := by rw [show n + y - x = n + (y - x) by omega]; exact IntWalk.i64_in _ (by omega)
      clear hx
      go_wp2
      (refine wp_region_after (by kernel_rfl) (by kernel_rfl) ?_; (repeat (go_big_quiet_step (fail))); refine wpQuiet_nil ?_; intro wq hw0; obtain ⟨⟨wq0, hbq⟩, hw1⟩ := hw0; subst hw1; (try dsimp only))
      go_wp2
      go_roundw
      case rel => exact ⟨k + 1, by omega, by go_num, by rw [hS.out], hbr.trans (hbq.mono hbz)⟩
      case measure => simp [intOf]; omega
    · have hkl : k = S.length := by omega
      subst hkl
      rw [List.take_length]
      go_wp2
      go_ret
      exact ⟨rfl, hb1.trans (hbr.mono hz1)⟩

def nxt (t : Int) : List (Int × Int) → Int × Bool
  | [] => (0, false)
  | p :: l => if t < p.2 then (max t p.1, true) else nxt t l
def nextL (l : List (Int × Int)) (t : Int) : Int × Bool := nxt t (ofL l)
theorem nxt_step {t : Int} {l : List (Int × Int)} {k : Nat} {x y : Int} (hk : l[k]? = some (x, y)) : nxt t (l.drop k) = if t < y then (max t x, true) else nxt t (l.drop (k + 1)) := by
  obtain ⟨hlt, e⟩ := List.getElem?_eq_some_iff.1 hk
  rw [List.drop_eq_getElem_cons hlt, e, nxt]
def RetPair (w : World) (r : Int × Bool) (e : Ending) (w' : World) : Prop := e = .returned (.tuple #[.int .i64 r.1, .bool r.2]) ∧ Below w.heap.size w w'
set_option maxRecDepth 100000 in
set_option maxHeartbeats 1600000 in
theorem rNext_any (u : Value) (a : List (Int × Int)) (t : Int) (w : World) (L : Nat) (hu : RdP w L w.heap.size u a) (ha : a.length ≤ 30000) :
    Calls Try.prog 12 #[u, .int .i64 t] w (RetPair w (nextL a t)) := by
  have h := rOf_any u a w L hu ha
  have hlen := ofL_len a
  unfold nextL
  clear hu
  generalize ofL a = S at *
  go_enter Try.func12, Try.ntmps12
  go_wp2_with fail
  refine h.mono ?_
  rintro e w1 ⟨v1, rfl, hr, hb1⟩
  have hR := Lib.hid hr
  obtain ⟨A, c, rfl, _, _⟩ := hr
  have hz1 := hb1.size
  go_wp2
  go_loopw [7] (fun i wr => ∃ k : Nat, k ≤ S.length ∧ i = .int .i64 k ∧ Hid (nxt t S = nxt t (S.drop k)) ∧ Below w1.heap.size w1 wr) (fun i _ => S.length - (intOf i).toNat)
  case atStart => exact ⟨0, by omega, rfl, Lib.hid rfl, Below.refl _ _⟩
  case round =>
    obtain ⟨k, hk, rfl, hN, hbr⟩ := hrel
    have hbz := hbr.size
    have hbw := hb1.trans (hbr.mono hz1)
    by_cases hlt : k < S.length
    · have hx := List.getElem?_eq_getElem hlt
      generalize S[k] = p at hx
      obtain ⟨x, y⟩ := p
      have hS := nxt_step (t := t) hx
      obtain ⟨ad, rfl, _, hab, c0, c1⟩ := (hR.out.below hbr).at hx
      dsimp only at c0 c1
      clear hx
      by_cases hty : t < y
      · rw [if_pos hty] at hS
        have hE := Lib.hid (hN.out.trans hS)
        clear hS hN
        by_cases hxt : x > t
        · rw [show max t x = x by omega] at hE
          go_wp2
          go_ret2
          exact ⟨by rw [hE.out]; rfl, hbw⟩
        · rw [show max t x = t by omega] at hE
          have hxp : (t < x) = False := by simp; omega
          go_wp2
          go_ret2
          exact ⟨by rw [hE.out]; rfl, hbw⟩
      · rw [if_neg hty] at hS
        have hE := Lib.hid (hN.out.trans hS)
        clear hS hN
        go_wp2
        go_roundw
        case rel => exact ⟨k + 1, by omega, by go_num, hE, hbr⟩
        case measure => simp [intOf]; omega
    · have hE : Hid (nxt t S = (0, false)) := Lib.hid (by rw [hN.out, List.drop_eq_nil_of_le (by omega)]; rfl)
      clear hN
      have hd : ¬ (k : Int) < S.length := by omega
      go_wp2
      go_ret2
      exact ⟨by rw [hE.out]; rfl, hbw⟩
end Go.Proofs.Ytpbccbhhjnlcpaa
