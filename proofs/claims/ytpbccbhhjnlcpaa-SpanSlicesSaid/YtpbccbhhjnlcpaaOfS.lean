/-
  Contracts of the program's functions on spans: Of, Union, Intersect, Subtract, Complement, Covers, Length, Slices, Contains, Next. Conditions: the lists hold at most 50000 periods.
-/
import Derived.Test.YtpbccbhhjnlcpaaSwpS
import Derived.Test.YtpbccbhhjnlcpaaJndS
import Derived.Test.YtpbccbhhjnlcpaaRef2S
import Derived.WalkKit
import Derived.WalkSpells
import Derived.WalkLawsBesides
import Derived.Deep.QuietTactic
import Derived.BigQuiet
import Derived.Handy
import Derived.Lib.Hide
namespace Go.Proofs.Ytpbccbhhjnlcpaa
open Go.RowKit

theorem asks_Of : Asks 48 fA := fun x y W => by
  cases x <;> cases y
  all_goals
    go_enter Try.func48, Try.ntmps48
    go_wp2
    go_ret
    exact ⟨rfl, Below.refl _ _⟩
theorem enters_Of : ∀ args w, (callFunc 48 args).run Try.prog w = .ok (.enter 48 args) w := enters_of Try.func48 (by kernel_rfl) rfl
theorem asks_Union : Asks 54 fOr := fun x y W => by
  cases x <;> cases y
  all_goals
    go_enter Try.func54, Try.ntmps54
    go_wp2
    go_ret
    exact ⟨rfl, Below.refl _ _⟩
theorem enters_Union : ∀ args w, (callFunc 54 args).run Try.prog w = .ok (.enter 54 args) w := enters_of Try.func54 (by kernel_rfl) rfl
theorem asks_Intersect : Asks 55 fAnd := fun x y W => by
  cases x <;> cases y
  all_goals
    go_enter Try.func55, Try.ntmps55
    go_wp2
    go_ret
    exact ⟨rfl, Below.refl _ _⟩
theorem enters_Intersect : ∀ args w, (callFunc 55 args).run Try.prog w = .ok (.enter 55 args) w := enters_of Try.func55 (by kernel_rfl) rfl
theorem asks_Subtract : Asks 56 fSub := fun x y W => by
  cases x <;> cases y
  all_goals
    go_enter Try.func56, Try.ntmps56
    go_wp2
    go_ret
    exact ⟨rfl, Below.refl _ _⟩
theorem enters_Subtract : ∀ args w, (callFunc 56 args).run Try.prog w = .ok (.enter 56 args) w := enters_of Try.func56 (by kernel_rfl) rfl
theorem asks_Slices : Asks 53 fA := fun x y W => by
  cases x <;> cases y
  all_goals
    go_enter Try.func53, Try.ntmps53
    go_wp2
    go_ret
    exact ⟨rfl, Below.refl _ _⟩
theorem enters_Slices : ∀ args w, (callFunc 53 args).run Try.prog w = .ok (.enter 53 args) w := enters_of Try.func53 (by kernel_rfl) rfl

theorem elem_le (g : Int → Bool) (a b : List (Int × Int)) : (elem g (pts (a ++ b))).length ≤ 2 * (a.length + b.length) := by
  have h1 := elem_len g (pts (a ++ b)); have h2 := pts_len (a ++ b); rw [List.length_append] at h2; omega

set_option maxHeartbeats 800000 in
theorem sOf_any (u : Value) (a : List (Int × Int)) (w : World) (L : Nat) (hu : RdP w L w.heap.size u a) (ha : a.length ≤ 50000) :
    Calls Try.prog 18 #[u] w (RetPers w (ofL a)) := by
  have h := sweep_any 48 fA asks_Of enters_Of u (.slice none 0 0) a [] w L 0 hu (nilP _ _ _) (by omega) (by simp)
  have hl := elem_le (gOf fA a []) a []
  rw [List.length_nil] at hl
  clear hu
  go_enter Try.func18, Try.ntmps18
  go_wp2_with fail
  refine h.mono ?_
  rintro e w1 ⟨v1, rfl, hr, hb1⟩
  have z1 := hb1.size
  go_wp2_with fail
  refine (joined_any v1 _ w1 w.heap.size hr (by omega)).mono ?_
  rintro e w2 ⟨v2, rfl, hr2, hb2⟩
  go_wp2
  go_ret
  exact ⟨_, rfl, hr2.more (Nat.le_refl _) z1, hb1.trans (hb2.mono z1)⟩

set_option maxHeartbeats 800000 in
theorem sUnion_any (u v : Value) (a b : List (Int × Int)) (w : World) (L L2 : Nat) (hu : RdP w L w.heap.size u a) (hv : RdP w L2 w.heap.size v b) (ha : a.length ≤ 50000) (hb : b.length ≤ 50000) :
    Calls Try.prog 27 #[u, v] w (RetPers w (comb fOr a b)) := by
  have h := sweep_any 54 fOr asks_Union enters_Union u v a b w L L2 hu hv (by omega) (by omega)
  have hl := elem_le (gOf fOr a b) a b
  
  clear hu hv
  go_enter Try.func27, Try.ntmps27
  go_wp2_with fail
  refine h.mono ?_
  rintro e w1 ⟨v1, rfl, hr, hb1⟩
  have z1 := hb1.size
  go_wp2_with fail
  refine (joined_any v1 _ w1 w.heap.size hr (by omega)).mono ?_
  rintro e w2 ⟨v2, rfl, hr2, hb2⟩
  go_wp2
  go_ret
  exact ⟨_, rfl, hr2.more (Nat.le_refl _) z1, hb1.trans (hb2.mono z1)⟩

set_option maxHeartbeats 800000 in
theorem sIntersect_any (u v : Value) (a b : List (Int × Int)) (w : World) (L L2 : Nat) (hu : RdP w L w.heap.size u a) (hv : RdP w L2 w.heap.size v b) (ha : a.length ≤ 50000) (hb : b.length ≤ 50000) :
    Calls Try.prog 29 #[u, v] w (RetPers w (comb fAnd a b)) := by
  have h := sweep_any 55 fAnd asks_Intersect enters_Intersect u v a b w L L2 hu hv (by omega) (by omega)
  have hl := elem_le (gOf fAnd a b) a b
  
  clear hu hv
  go_enter Try.func29, Try.ntmps29
  go_wp2_with fail
  refine h.mono ?_
  rintro e w1 ⟨v1, rfl, hr, hb1⟩
  have z1 := hb1.size
  go_wp2_with fail
  refine (joined_any v1 _ w1 w.heap.size hr (by omega)).mono ?_
  rintro e w2 ⟨v2, rfl, hr2, hb2⟩
  go_wp2
  go_ret
  exact ⟨_, rfl, hr2.more (Nat.le_refl _) z1, hb1.trans (hb2.mono z1)⟩

set_option maxHeartbeats 800000 in
theorem sSubtract_any (u v : Value) (a b : List (Int × Int)) (w : World) (L L2 : Nat) (hu : RdP w L w.heap.size u a) (hv : RdP w L2 w.heap.size v b) (ha : a.length ≤ 50000) (hb : b.length ≤ 50000) :
    Calls Try.prog 31 #[u, v] w (RetPers w (comb fSub a b)) := by
  have h := sweep_any 56 fSub asks_Subtract enters_Subtract u v a b w L L2 hu hv (by omega) (by omega)
  have hl := elem_le (gOf fSub a b) a b
  
  clear hu hv
  go_enter Try.func31, Try.ntmps31
  go_wp2_with fail
  refine h.mono ?_
  rintro e w1 ⟨v1, rfl, hr, hb1⟩
  have z1 := hb1.size
  go_wp2_with fail
  refine (joined_any v1 _ w1 w.heap.size hr (by omega)).mono ?_
  rintro e w2 ⟨v2, rfl, hr2, hb2⟩
  go_wp2
  go_ret
  exact ⟨_, rfl, hr2.more (Nat.le_refl _) z1, hb1.trans (hb2.mono z1)⟩

set_option maxHeartbeats 800000 in
theorem sSlices_any (u : Value) (a : List (Int × Int)) (w : World) (L : Nat) (hu : RdP w L w.heap.size u a) (ha : a.length ≤ 50000) :
    Calls Try.prog 25 #[u] w (RetPers w (elem (memL a) (pts a))) := by
  have h := sweep_any 53 fA asks_Slices enters_Slices u (.slice none 0 0) a [] w L 0 hu (nilP _ _ _) (by omega) (by simp)
  have e1 : gOf fA a [] = memL a := by funext x; rfl
  rw [e1, List.append_nil] at h
  clear hu e1
  generalize elem (memL a) (pts a) = R at *
  go_enter Try.func25, Try.ntmps25
  go_wp2_with fail
  refine h.mono ?_
  rintro e w1 ⟨v1, rfl, hr, hb1⟩
  go_wp2
  go_ret
  exact ⟨_, rfl, hr, hb1⟩

set_option maxHeartbeats 800000 in
theorem sComplement_any (u : Value) (a : List (Int × Int)) (w : World) (L : Nat) (hu : RdP w L w.heap.size u a) (ha : a.length ≤ 50000) :
    Calls Try.prog 33 #[u] w (RetPers w (comb fSub [(0, 1099511627776)] a)) := by
  have bW : Below w.heap.size w (w.alloc (.cells #[.int .i64 0, .int .i64 1099511627776] 39)) := (Below.refl _ _).alloc (Nat.le_refl _) _
  have zW := bW.size
  have hW : RdP (w.alloc (.cells #[.int .i64 0, .int .i64 1099511627776] 39)) 0 (w.alloc (.cells #[.int .i64 0, .int .i64 1099511627776] 39)).heap.size (.slice (some ⟨w.heap.size, 0, none⟩) 1 1) [(0, 1099511627776)] := by
    refine ⟨_, 1, rfl, by simp, fun k p hk => ⟨_, rfl, Nat.zero_le _, by simp, ?_⟩⟩
    match k, hk with
    | 0, hk => simp at hk; subst hk; exact ⟨(Own.new w 39 #[.int .i64 0, .int .i64 1099511627776]).cell 0, (Own.new w 39 #[.int .i64 0, .int .i64 1099511627776]).cell 1⟩
    | k + 1, hk => simp at hk
  have h := sSubtract_any _ u [(0, 1099511627776)] a (w.alloc (.cells #[.int .i64 0, .int .i64 1099511627776] 39)) 0 L hW ((hu.below bW).more zW (Nat.le_refl _)) (by simp) ha
  clear hu hW
  generalize comb fSub [(0, 1099511627776)] a = R at *
  go_enter Try.func33, Try.ntmps33
  go_wp2_with fail
  refine h.mono ?_
  rintro e w1 ⟨v1, rfl, hr, hb1⟩
  go_wp2
  go_ret
  exact ⟨_, rfl, hr.more (Nat.le_refl _) zW, bW.trans (hb1.mono zW)⟩

set_option maxHeartbeats 800000 in
theorem sCovers_any (u v : Value) (a b : List (Int × Int)) (w : World) (L L2 : Nat) (hu : RdP w L w.heap.size u a) (hv : RdP w L2 w.heap.size v b) (ha : a.length ≤ 50000) (hb : b.length ≤ 50000) :
    Calls Try.prog 35 #[u, v] w fun e w' => e = .returned (.bool (covB a b)) ∧ Below w.heap.size w w' := by
  have h := sSubtract_any v u b a w L2 L hv hu hb ha
  unfold covB
  clear hu hv
  generalize comb fSub b a = r at *
  go_enter Try.func35, Try.ntmps35
  go_wp2_with fail
  refine h.mono ?_
  rintro e w1 ⟨v1, rfl, hr, hb1⟩
  obtain ⟨A, c, rfl, _, _⟩ := hr
  by_cases hd : r.length = 0
  · have h1 : ((r.length : Int) == 0) = true := by rw [beq_iff_eq]; omega
    have HD := Lib.hid hd
    clear hd
    go_wp2
    go_ret
    exact ⟨by rw [decide_eq_true HD.out]; rfl, hb1⟩
  · have h1 : ((r.length : Int) == 0) = false := by rw [beq_eq_false_iff_ne]; omega
    have HD := Lib.hid hd
    clear hd
    go_wp2
    go_ret
    exact ⟨by rw [decide_eq_false HD.out]; rfl, hb1⟩

set_option maxRecDepth 100000 in
set_option maxHeartbeats 1600000 in
theorem sLen_any (u : Value) (a : List (Int × Int)) (w : World) (L : Nat) (hu : RdP w L w.heap.size u a) (ha : a.length ≤ 50000) :
    Calls Try.prog 20 #[u] w fun e w' => e = .returned (.int .i64 (lenL a)) ∧ Below w.heap.size w w' := by
  have h := sOf_any u a w L hu ha
  have hlen := ofL_len a
  have hat := fun k x y (h : (ofL a)[k]? = some (x, y)) => ofL_at h
  unfold lenL
  clear hu
  generalize ofL a = S at *
  go_enter Try.func20, Try.ntmps20
  go_wp2_with fail
  refine h.mono ?_
  rintro e w1 ⟨v1, rfl, hr, hb1⟩
  have hR := Lib.hid hr
  have HAT := Lib.hid hat
  clear hat
  obtain ⟨A, c, rfl, _, _⟩ := hr
  have hz1 := hb1.size
  go_wp2
  go_loopw [3, 9] (fun o i wr => ∃ k : Nat, k ≤ S.length ∧ i = .int .i64 k ∧ o = .int .i64 (lenS (S.take k)) ∧ Below w1.heap.size w1 wr) (fun _ i _ => S.length - (intOf i).toNat)
  case atStart => exact ⟨0, by omega, rfl, rfl, Below.refl _ _⟩
  case round =>
    obtain ⟨k, hk, rfl, rfl, hbr⟩ := hrel
    have hbz := hbr.size
    by_cases hlt : k < S.length
    · have hx := List.getElem?_eq_getElem hlt
      generalize S[k] = p at hx
      obtain ⟨x, y⟩ := p
      have hS := Lib.hid (lenS_snoc hx)
      obtain ⟨q1, q2, q3, q4, q5⟩ := HAT.out k x y hx
      obtain ⟨ad, rfl, _, hab, c0, c1⟩ := (hR.out.below hbr).at hx
      dsimp only at c0 c1
      generalize lenS (S.take k) = n at *
      have i1 : IntKind.i64.wrap (y - x) = y - x := IntWalk.i64_in _ (by omega)
      have i2 : IntKind.i64.wrap (n + (y - x)) = n + (y - x) := IntWalk.i64_in _ (by omega)
      clear hx
      go_wp2
      go_roundw
      case rel => exact ⟨k + 1, by omega, by go_num, by rw [hS.out], hbr.alloc hbz _⟩
      case measure => simp [intOf]; omega
    · have hkl : k = S.length := by omega
      subst hkl
      rw [List.take_length]
      go_wp2
      go_ret
      exact ⟨rfl, hb1.trans (hbr.mono hz1)⟩
end Go.Proofs.Ytpbccbhhjnlcpaa
