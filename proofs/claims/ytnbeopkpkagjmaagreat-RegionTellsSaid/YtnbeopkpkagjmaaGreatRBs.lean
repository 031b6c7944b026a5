import Derived.Test.YtnbeopkpkagjmaaGreatNN
import Derived.Test.YtnbeopkpkagjmaaGreatMP
import Derived.Test.YtnbeopkpkagjmaaGreatMS
import Derived.Test.YtnbeopkpkagjmaaGreatMQ
import Derived.IntWalk
import Derived.Shelf.Abstract
import Derived.WalkKit
import Derived.WalkSpells
import Derived.WalkLawsBesides
import Derived.Deep.QuietTactic
import Derived.BigQuiet
import Derived.Handy
import Derived.Lib.Hide
/-
  period.Compare and slices.BinarySearchFunc of periods by it. Conditions: at most a million periods.
-/
namespace Go.Proofs.YtnbeopkpkagjmaaGreat
set_option maxRecDepth 100000
set_option linter.unusedVariables false
set_option linter.unusedSimpArgs false
open Go.RowKit

def cmpP (a b c d : Int) : Int := if a < c then -1 else if c < a then 1 else if b < d then -1 else if d < b then 1 else 0
theorem cmp_lt {a b c d : Int} : cmpP a b c d < 0 ↔ ltP (a, b) (c, d) = true := by
  unfold cmpP
  rw [ltP_iff]
  dsimp only
  repeat' split
  all_goals omega
/-- How many are less than p, in an ascending list: where p belongs. -/
def bsI (p : Int × Int) (l : List (Int × Int)) : Nat := (l.takeWhile fun q => ltP q p).length
theorem bsI_le (p : Int × Int) (l : List (Int × Int)) : bsI p l ≤ l.length := by
  have : l.length = (l.takeWhile fun q => ltP q p).length + (l.dropWhile fun q => ltP q p).length := by rw [← List.length_append, List.takeWhile_append_dropWhile]
  unfold bsI; omega
theorem bs_lt {p q : Int × Int} : ∀ {l : List (Int × Int)} {k : Nat}, l[k]? = some q → k < bsI p l → ltP q p = true
  | [], k, h, _ => by simp at h
  | x :: l, k, h, hk => by
    unfold bsI at hk
    rw [List.takeWhile_cons] at hk
    split at hk
    · rename_i hx
      cases k with
      | zero => simp at h; rw [← h]; exact hx
      | succ k => exact bs_lt (l := l) (k := k) (by simpa using h) (by unfold bsI; simpa using hk)
    · simp at hk
theorem bs_ge {p q : Int × Int} : ∀ {l : List (Int × Int)} {k : Nat}, SrtP l → l[k]? = some q → bsI p l ≤ k → ltP q p = false
  | [], k, _, h, _ => by simp at h
  | x :: l, k, hs, h, hk => by
    have h1 := List.pairwise_cons.1 hs
    unfold bsI at hk
    rw [List.takeWhile_cons] at hk
    split at hk
    · rename_i hx
      cases k with
      | zero => simp at hk
      | succ k => exact bs_ge (l := l) (k := k) h1.2 (by simpa using h) (by unfold bsI; simpa using hk)
    · rename_i hx
      have hx2 : ltP x p = false := by simpa using hx
      cases k with
      | zero => simp at h; rw [← h]; exact hx2
      | succ k =>
        have hm : q ∈ l := List.mem_of_getElem? (by simpa using h)
        exact ltP_le hx2 (h1.1 q hm)
theorem tw_take (f : Int × Int → Bool) : ∀ l : List (Int × Int), l.take (l.takeWhile f).length = l.takeWhile f
  | [] => by simp
  | x :: l => by
    rw [List.takeWhile_cons]
    split
    · rw [List.length_cons, List.take_succ_cons, tw_take f l]
    · simp
theorem tw_drop (f : Int × Int → Bool) : ∀ l : List (Int × Int), l.drop (l.takeWhile f).length = l.dropWhile f
  | [] => by simp
  | x :: l => by
    rw [List.takeWhile_cons, List.dropWhile_cons]
    split
    · rw [List.length_cons, List.drop_succ_cons, tw_drop f l]
    · simp
theorem insP_bs (p : Int × Int) (l : List (Int × Int)) : insP p l = l.take (bsI p l) ++ p :: l.drop (bsI p l) := by
  unfold insP bsI
  rw [tw_take, tw_drop]
theorem remP_bs (p : Int × Int) (l : List (Int × Int)) : remP p l = l.take (bsI p l) ++ l.drop (bsI p l + 1) := by
  unfold remP bsI
  rw [← List.drop_drop, tw_take, tw_drop]
theorem rem_at {p : Int × Int} {l : List (Int × Int)} (hs : SrtP l) (hp : p ∈ l) : bsI p l < l.length := by
  have h := rem_spec p l hs hp
  have h2 : l.length = (l.takeWhile fun q => ltP q p).length + (l.dropWhile fun q => ltP q p).length := by rw [← List.length_append, List.takeWhile_append_dropWhile]
  rw [h] at h2
  unfold bsI
  simp at h2
  omega
set_option maxHeartbeats 400000 in
theorem compare_any (a b c d : Int) (w : World) :
    Calls Tryz.prog 91 #[.agg #[.int .i64 a, .int .i64 b], .agg #[.int .i64 c, .int .i64 d]] w fun e w' => e = .returned (.int .i64 (cmpP a b c d)) ∧ Below w.heap.size w w' := by
  unfold cmpP
  rcases Int.lt_trichotomy a c with h | h | h
  · have k : (a == c) = false := by simp; omega
    rw [if_pos h]
    go_enter Tryz.func91, Tryz.ntmps91
    go_wp2
    go_ret
    refine ⟨rfl, ?_⟩; (repeat' (first | (with_reducible exact Below.refl _ _) | (with_reducible assumption) | (with_reducible refine Below.alloc ?_ ?_ _) | (with_reducible refine Below.drew ?_) | (with_reducible refine Below.setCell ?_ ?_ _) | (with_reducible refine Below.trans ?_ (Below.mono (by assumption) ?_)) | go_size))
  · subst h
    rw [if_neg (by omega), if_neg (by omega)]
    rcases Int.lt_trichotomy b d with h | h | h
    · have k : (b == d) = false := by simp; omega
      rw [if_pos h]
      go_enter Tryz.func91, Tryz.ntmps91
      go_wp2
      go_ret
      refine ⟨rfl, ?_⟩; (repeat' (first | (with_reducible exact Below.refl _ _) | (with_reducible assumption) | (with_reducible refine Below.alloc ?_ ?_ _) | (with_reducible refine Below.drew ?_) | (with_reducible refine Below.setCell ?_ ?_ _) | (with_reducible refine Below.trans ?_ (Below.mono (by assumption) ?_)) | go_size))
    · subst h
      rw [if_neg (by omega), if_neg (by omega)]
      go_enter Tryz.func91, Tryz.ntmps91
      go_wp2
      go_ret
      refine ⟨rfl, ?_⟩; (repeat' (first | (with_reducible exact Below.refl _ _) | (with_reducible assumption) | (with_reducible refine Below.alloc ?_ ?_ _) | (with_reducible refine Below.drew ?_) | (with_reducible refine Below.setCell ?_ ?_ _) | (with_reducible refine Below.trans ?_ (Below.mono (by assumption) ?_)) | go_size))
    · have k : (b == d) = false := by simp; omega
      rw [if_neg (by omega), if_pos h]
      go_enter Tryz.func91, Tryz.ntmps91
      go_wp2
      go_ret
      refine ⟨rfl, ?_⟩; (repeat' (first | (with_reducible exact Below.refl _ _) | (with_reducible assumption) | (with_reducible refine Below.alloc ?_ ?_ _) | (with_reducible refine Below.drew ?_) | (with_reducible refine Below.setCell ?_ ?_ _) | (with_reducible refine Below.trans ?_ (Below.mono (by assumption) ?_)) | go_size))
  · have k : (a == c) = false := by simp; omega
    rw [if_neg (by omega), if_pos h]
    go_enter Tryz.func91, Tryz.ntmps91
    go_wp2
    go_ret
    refine ⟨rfl, ?_⟩; (repeat' (first | (with_reducible exact Below.refl _ _) | (with_reducible assumption) | (with_reducible refine Below.alloc ?_ ?_ _) | (with_reducible refine Below.drew ?_) | (with_reducible refine Below.setCell ?_ ?_ _) | (with_reducible refine Below.trans ?_ (Below.mono (by assumption) ?_)) | go_size))

def RetBs (n : Nat) (w : World) (e : Ending) (w' : World) : Prop := (∃ b : Bool, e = .returned (.tuple #[.int .i64 n, .bool b])) ∧ Below w.heap.size w w'
theorem entersCmp : ∀ args w, (callFunc 91 args).run Tryz.prog w = .ok (.enter 91 args) w := enters_of Tryz.func91 (by kernel_rfl) rfl
set_option maxRecDepth 100000 in
set_option maxHeartbeats 3200000 in
theorem pBs_any (v : Value) (l : List (Int × Int)) (p : Int × Int) (w : World) (L : Nat) (hv : RdP w L w.heap.size v l) (hs : SrtP l) (hlen : l.length ≤ 1000000) :
    Calls Tryz.prog 90 #[v, .agg #[.int .i64 p.1, .int .i64 p.2], .func (.func 91) #[] #[]] w (RetBs (bsI p l) w) := by
  have hv0 := Lib.hid hv
  have hI := bsI_le p l
  have HL := Lib.hid (fun k q (h : l[k]? = some q) (hk : k < bsI p l) => bs_lt h hk)
  have HG := Lib.hid (fun k q (h : l[k]? = some q) (hk : bsI p l ≤ k) => bs_ge hs h hk)
  generalize bsI p l = I at *
  obtain ⟨A, c, rfl, hl, _⟩ := hv
  obtain ⟨pa, pb⟩ := p
  dsimp only
  have o1 := Own.new w 33 #[.int .i64 pa, .int .i64 pb]
  have b1 : Below w.heap.size w (w.alloc (.cells #[.int .i64 pa, .int .i64 pb] 33)) := (Below.refl _ _).alloc (Nat.le_refl _) _
  have s1 : w.heap.size < (w.alloc (.cells #[.int .i64 pa, .int .i64 pb] 33)).heap.size := by simp
  have sw : w.heap.size + 1 = (w.alloc (.cells #[.int .i64 pa, .int .i64 pb] 33)).heap.size := by simp
  clear hs
  go_enter Tryz.func90, Tryz.ntmps90
  go_wp2
  generalize hW9 : w.alloc (.cells #[.int .i64 pa, .int .i64 pb] 33) = W9 at *
  clear hW9
  go_loopw [9, 10] (fun i j wr => ∃ lo hi : Nat, i = .int .i64 lo ∧ j = .int .i64 hi ∧ lo ≤ I ∧ I ≤ hi ∧ hi ≤ l.length ∧ Below (w.heap.size + 1) W9 wr) (fun i j _ => (intOf j).toNat - (intOf i).toNat)
  case atStart => exact ⟨0, l.length, rfl, rfl, by omega, hI, by omega, Below.refl _ _⟩
  case round =>
    obtain ⟨lo, hi, rfl, rfl, h1, h2, h3, hbr⟩ := hrel
    have hbz := hbr.size
    have B0 : Below w.heap.size w wr := b1.trans (hbr.mono (by omega))
    have f1 : ∀ q : After wr, q.w.cell? ⟨w.heap.size, 0, none⟩ = some (.int .i64 pa) := after_cell (by show w.heap.size < _; omega) ((o1.below hbr (by omega)).cell 0)
    have f2 : ∀ q : After wr, q.w.cell? ⟨w.heap.size, 1, none⟩ = some (.int .i64 pb) := after_cell (by show w.heap.size < _; omega) ((o1.below hbr (by omega)).cell 1)
    by_cases hlt : lo < hi
    · obtain ⟨m, hm1, hm2, e1⟩ : ∃ m : Nat, m < hi ∧ lo ≤ m ∧ ((lo : Int) + (hi : Int)) / 2 = (m : Int) := ⟨(lo + hi) / 2, by omega, by omega, by omega⟩
      have hx := List.getElem?_eq_getElem (show m < l.length by omega)
      generalize l[m] = q at hx
      obtain ⟨qa, qb⟩ := q
      obtain ⟨ad, rfl, _, hab, c0, c1⟩ := (hv0.out.below (b1.trans (hbr.mono (by omega)))).at hx
      dsimp only at c0 c1
      have f3 : ∀ q : After wr, q.w.cell? (ad.add (m * 2)) = some (.int .i64 qa) := after_cell (by rw [add_block]; omega) c0
      have f4 : ∀ q : After wr, q.w.cell? ⟨(ad.add (m * 2)).block, (ad.add (m * 2)).off + 1, none⟩ = some (.int .i64 qb) := after_cell (by show (ad.add (m * 2)).block < _; rw [add_block]; omega) c1
      have hcm := fun W => compare_any qa qb pa pb W
      have hiff := cmp_lt (a := qa) (b := qb) (c := pa) (d := pb)
      have HX := Lib.hid hx
      generalize cmpP qa qb pa pb = C at *
      have i2 : (0 : Int) ≤ (m : Int) := by omega
      have i3 : (m : Int) < (l.length : Int) := by omega
      have w1 : IntKind.i64.wrap (m : Int) = m := IntWalk.i64_in _ (by omega)
      clear hx c0 c1
      by_cases hC : C < 0
      · have hlm : m < I := by
          rcases Nat.lt_or_ge m I with h | h
          · exact h
          · have := HG.out m (qa, qb) HX.out h; rw [hiff.1 hC] at this; cases this
        have hd : decide (C < 0) = true := decide_eq_true hC
        clear hiff
        go_wp2
        (refine wp_region_after (by kernel_rfl) (by kernel_rfl) ?_; (repeat (go_big_quiet_step ((go_at_call 91; exact calls_after (hcm _))))); refine wpQuiet_nil ?_; intro wq hw0; obtain ⟨⟨wq0, hbq⟩, hw1⟩ := hw0; subst hw1; (try dsimp only))
        go_wp2
        go_roundw
        case rel => exact ⟨m + 1, hi, by go_num, rfl, by omega, h2, h3, hbr.trans (hbq.mono (by omega))⟩
        case measure => simp [intOf]; omega
      · have hlm : I ≤ m := by
          rcases Nat.lt_or_ge m I with h | h
          · have := HL.out m (qa, qb) HX.out h; exact absurd (hiff.2 this) hC
          · exact h
        have hd : decide (C < 0) = false := decide_eq_false hC
        clear hiff
        go_wp2
        (refine wp_region_after (by kernel_rfl) (by kernel_rfl) ?_; (repeat (go_big_quiet_step ((go_at_call 91; exact calls_after (hcm _))))); refine wpQuiet_nil ?_; intro wq hw0; obtain ⟨⟨wq0, hbq⟩, hw1⟩ := hw0; subst hw1; (try dsimp only))
        go_wp2
        go_roundw
        case rel => exact ⟨lo, m, rfl, rfl, h1, hlm, by omega, hbr.trans (hbq.mono (by omega))⟩
        case measure => simp [intOf]; omega
    · obtain rfl : lo = I := by omega
      obtain rfl : hi = lo := by omega
      by_cases hn : hi < l.length
      · have hx := List.getElem?_eq_getElem hn
        generalize l[hi] = q at hx
        obtain ⟨qa, qb⟩ := q
        obtain ⟨ad, rfl, _, hab, c0, c1⟩ := (hv0.out.below (b1.trans (hbr.mono (by omega)))).at hx
        dsimp only at c0 c1
        have f3 : ∀ q : After wr, q.w.cell? (ad.add (hi * 2)) = some (.int .i64 qa) := after_cell (by rw [add_block]; omega) c0
        have f4 : ∀ q : After wr, q.w.cell? ⟨(ad.add (hi * 2)).block, (ad.add (hi * 2)).off + 1, none⟩ = some (.int .i64 qb) := after_cell (by show (ad.add (hi * 2)).block < _; rw [add_block]; omega) c1
        have hcm := fun W => compare_any qa qb pa pb W
        generalize cmpP qa qb pa pb = C at *
        have i2 : (0 : Int) ≤ (hi : Int) := by omega
        have i3 : (hi : Int) < (l.length : Int) := by omega
        clear hx c0 c1
        go_wp2
        (refine wp_region_after (by kernel_rfl) (by kernel_rfl) ?_; (repeat (go_big_quiet_step ((go_at_call 91; exact calls_after (hcm _))))); refine wpQuiet_nil ?_; intro wq hw0; obtain ⟨⟨wq0, hbq⟩, hw1⟩ := hw0; subst hw1; (try dsimp only))
        go_wp2
        go_ret2
        exact ⟨⟨_, rfl⟩, B0.trans (hbq.mono B0.size)⟩
      · have i3 : ¬ ((hi : Int) < (l.length : Int)) := by omega
        go_wp2
        (refine wp_region_after (by kernel_rfl) (by kernel_rfl) ?_; (repeat (go_big_quiet_step (fail))); refine wpQuiet_nil ?_; intro wq hw0; obtain ⟨⟨wq0, hbq⟩, hw1⟩ := hw0; subst hw1; (try dsimp only))
        go_wp2
        go_ret2
        exact ⟨⟨_, rfl⟩, B0.trans (hbq.mono B0.size)⟩
end Go.Proofs.YtnbeopkpkagjmaaGreat
