/-
  Contract of Tighten: passes until nothing changes or a set is empty. Conditions: none.
-/
import Derived.Test.YtmmecpmeemhglaaDoorCons
import Derived.Test.YtmmecpmeemhglaaDoorEql
import Derived.WalkKit
import Derived.WalkSpells
import Derived.WalkLawsBesides
import Derived.Deep.QuietTactic
import Derived.BigQuiet
import Derived.Handy
import Derived.Lib.Hide
namespace Go.Proofs.YtmmecpmeemhglaaDoor
open Go.RowKit

/-- Passes, at most f of them: nothing yet; a set is empty; the network that no pass changes. -/
def tightF (n : Nat) : Nat → Net → Option (Option Net)
  | 0, _ => none
  | f + 1, M => if hE n M then some none else if netL (refN n M) = netL M then some (some M) else tightF n f (refN n M)
theorem refS_le (M : Net) (i j k a b : Nat) : refS M i j k a b ≤ M a b := by
  unfold refS upd
  split
  · rename_i h; obtain ⟨rfl, rfl⟩ := h; exact Nat.and_le_left
  · exact Nat.le_refl _
theorem refK_le (M : Net) (i j n a b : Nat) : refK M i j n a b ≤ M a b := by
  induction n with
  | zero => exact Nat.le_refl _
  | succ n ih => rw [refK_succ]; exact Nat.le_trans (refS_le _ _ _ _ a b) ih
theorem refJ_le (n : Nat) (M : Net) (i m a b : Nat) : refJ n M i m a b ≤ M a b := by
  induction m with
  | zero => exact Nat.le_refl _
  | succ m ih => rw [refJ_succ]; exact Nat.le_trans (refK_le _ _ _ _ a b) ih
theorem refI_le (n : Nat) (M : Net) (m a b : Nat) : refI n M m a b ≤ M a b := by
  induction m with
  | zero => exact Nat.le_refl _
  | succ m ih => rw [refI_succ]; exact Nat.le_trans (refJ_le _ _ _ _ a b) ih
theorem sum_le {f g : Nat → Nat} (h : ∀ x, f x ≤ g x) : ∀ l : List Nat, (l.map f).sum ≤ (l.map g).sum
  | [] => Nat.le_refl _
  | x :: l => by simp only [List.map_cons, List.sum_cons]; exact Nat.add_le_add (h x) (sum_le h l)
theorem sum_lt {f g : Nat → Nat} (h : ∀ x, f x ≤ g x) : ∀ l : List Nat, l.map f ≠ l.map g → (l.map f).sum < (l.map g).sum
  | [], hne => absurd rfl hne
  | x :: l, hne => by
    simp only [List.map_cons, List.sum_cons]
    by_cases hx : f x = g x
    · have := sum_lt h l (fun e => hne (by simp [hx, e]))
      omega
    · have h1 := h x
      have h2 := sum_le h l
      omega
theorem refN_sum (n : Nat) (M : Net) (h : netL (refN n M) ≠ netL M) : (netL (refN n M)).sum < (netL M).sum :=
  sum_lt (fun x => refI_le n M n (x / 8) (x % 8)) _ h

/-- What the numbers of a block come to. -/
def bsum (w : World) (g : Nat) : Nat := match w.heap[g]? with | some (.cells cs _ _) => (cs.toList.map fun v => (intOf v).toNat).sum | _ => 0
theorem bsum_net {w : World} {g n : Nat} {t : TypeId} {M : Net} (h : Own w g t (netA n M)) : bsum w g = n + (netL M).sum := by
  unfold Own at h
  unfold bsum
  rw [h]
  unfold netA
  have : ∀ l : List Nat, ((l.map fun z : Nat => Value.int .u16 (z : Int)).map fun v => (intOf v).toNat) = l := by
    intro l
    induction l with
    | nil => rfl
    | cons a l ih => simp only [List.map_cons]; rw [ih]; simp [intOf]
  simp only [List.map_cons, List.sum_cons]
  rw [this]
  simp [intOf]

theorem permN_lt (n : Nat) (l : List Con) : Lo (permN n l) := by
  have : ∀ (l : List Con) (M : Net), Lo M → Lo (l.foldl conS M) := by
    intro l
    induction l with
    | nil => intro M h; exact h
    | cons c l ih => intro M h; exact ih _ (conS_lt c h)
  exact this l _ (pP_lt n n)
def TRes (n : Int) (l l' : List Con) (b : Bool) : Prop :=
  (¬ (1 ≤ n ∧ n ≤ 8 ∧ okL n l = true) ∧ l' = [] ∧ b = false) ∨
  ((1 ≤ n ∧ n ≤ 8 ∧ okL n l = true) ∧ (∃ f, tightF n.toNat f (permN n.toNat l) = some none) ∧ l' = [] ∧ b = false) ∨
  ((1 ≤ n ∧ n ≤ 8 ∧ okL n l = true) ∧ ∃ M f, tightF n.toNat f (permN n.toNat l) = some (some M) ∧ l' = conL n.toNat M ∧ b = true)

theorem tbZ : (Tryd.zeroCells56).size = (tbA 3375).size := by rw [tbA_size]; kernel_rfl
attribute [local irreducible] tbA netA permN

set_option linter.unusedSimpArgs false in
set_option maxRecDepth 100000 in
set_option maxHeartbeats 1600000 in
theorem tight_good (n : Nat) (v : Value) (l : List Con) (w : World) (L : Nat) (hv : RdC w L w.heap.size v l) (h1 : 1 ≤ n) (hn : n ≤ 8) (hok : okL n l = true) :
    Calls Tryd.prog 25 #[.int .i64 n, v] w fun e w' => ∃ v' b l', e = .returned (.tuple #[v', .bool b]) ∧ RdC w' w.heap.size w'.heap.size v' l' ∧ Below w.heap.size w w' ∧ TRes n l l' b := by
  have hv0 := hv
  obtain ⟨A, c, rfl, hlen, _⟩ := hv
  have g1 : ¬ ((n : Int) < 1) := by omega
  have g2 : ¬ ((n : Int) > 8) := by omega
  go_enter Tryd.func25, Tryd.ntmps25
  go_wp2_with (go_at_call 37; refine (allValid_any _ _ l _ L hv0).mono ?_; rintro e w1 ⟨rfl, hb1⟩; rw [hok])
  refine (tab_any _).mono ?_
  rintro e w2 ⟨rfl, hb2⟩
  go_wp2_with (refine wpList_store_row rfl 56 _ _ rfl w2.heap.size (tbA 3375) rfl rfl 56 _ (heap_alloc_new _ _) tbInfo tbZ tbOne ?_; rw [World.setRow_alloc_new])
  have hz1 := hb1.size
  have hz2 := hb2.size
  have b12 : Below w.heap.size w w2 := hb1.trans (hb2.mono hz1)
  have HT : Own (w2.alloc (.cells (tbA 3375) 56)) w2.heap.size 56 (tbA 3375) := Own.new _ _ _
  have B3 : Below w.heap.size w (w2.alloc (.cells (tbA 3375) 56)) := b12.alloc (by omega) _
  have hz3 : (w2.alloc (.cells (tbA 3375) 56)).heap.size = w2.heap.size + 1 := by simp
  generalize w2.alloc (.cells (tbA 3375) 56) = W3 at *
  go_wp2_with fail
  refine (perm_any n _ l _ L ((hv0.below B3).more (by omega) (Nat.le_refl _)) hn hok).mono ?_
  rintro e w4 ⟨rfl, hb4⟩
  go_wp2_with (refine wpList_store_row rfl 66 _ _ rfl w4.heap.size (netA n (permN n l)) rfl rfl 66 _ (heap_alloc_new _ _) (netI _ _) (netZ _ _) (netOne _ _) ?_; rw [World.setRow_alloc_new])
  have hz4 := hb4.size
  have hP : Lo (permN n l) := permN_lt n l
  have K6 : Own (w4.alloc (.cells (netA n (permN n l)) 66)) w2.heap.size 56 (tbA 3375) := (HT.below hb4 (by omega)).alloc _
  have K7 : Own (w4.alloc (.cells (netA n (permN n l)) 66)) w4.heap.size 66 (netA n (permN n l)) := Own.new _ _ _
  have KB : Below w.heap.size w (w4.alloc (.cells (netA n (permN n l)) 66)) := (B3.trans (hb4.mono (by omega))).alloc (by omega) _
  have KS : w4.heap.size < (w4.alloc (.cells (netA n (permN n l)) 66)).heap.size := by simp
  generalize w4.alloc (.cells (netA n (permN n l)) 66) = W5 at *
  generalize hg6 : w2.heap.size = g6 at *
  generalize hg7 : w4.heap.size = g7 at *
  simp only [Act.put]
  go_loopw [8] (fun _ wr => ∃ M : Net, Own wr g6 56 (tbA 3375) ∧ Own wr g7 66 (netA n M) ∧ Lo M ∧ (∀ f res, tightF n f M = some res → ∃ f', tightF n f' (permN n l) = some res) ∧ Below w.heap.size w wr) (fun _ wr => bsum wr g7)
  case atStart => exact ⟨permN n l, K6, K7, hP, fun f res h => ⟨f, h⟩, KB⟩
  case round =>
    obtain ⟨M, o6, o7, hM, hlink, hbr⟩ := hrel
    have hz5 := hbr.size
    have l6 := o6.lt
    have l7 := o7.lt
    go_wp2_with (first | (refine wpList_load_row rfl 66 _ rfl g7 rfl 66 (netA n M) (0, 0) _ o7 Tryd.underlying66 rfl (netI _ _) ?_))
    refine (emp_any n M _ hn).mono ?_
    rintro e wa ⟨rfl, hba⟩
    have oa6 := o6.below hba l6
    have oa7 := o7.below hba l7
    have bA : Below w.heap.size w wa := hbr.trans (hba.mono hz5)
    have hza := hba.size
    cases hEm : hE n M
    · go_wp2_with (first | (refine wpList_load_row rfl 66 _ rfl g7 rfl 66 (netA n M) (0, 0) _ oa7 Tryd.underlying66 rfl (netI _ _) ?_))
      refine (ref_any g6 n M _ oa6 hn hM).mono ?_
      rintro e wb ⟨rfl, hbb⟩
      have hzb := hbb.size
      have ob6 := (oa6.below hbb oa6.lt)
      have ob7 := (oa7.below hbb oa7.lt)
      have bB : Below w.heap.size w wb := bA.trans (hbb.mono bA.size)
      have oc6 : Own (wb.alloc (.cells (netA n (refN n M)) 66)) g6 56 (tbA 3375) := ob6.alloc _
      have oc7 : Own (wb.alloc (.cells (netA n (refN n M)) 66)) g7 66 (netA n M) := ob7.alloc _
      have oc8 : Own (wb.alloc (.cells (netA n (refN n M)) 66)) wb.heap.size 66 (netA n (refN n M)) := Own.new _ _ _
      have bC : Below w.heap.size w (wb.alloc (.cells (netA n (refN n M)) 66)) := bB.alloc bB.size _
      have l67 : g7 < wb.heap.size := ob7.lt
      have hQ : ∀ w, (binOp .eql 66 (.agg (netA n (refN n M))) (.agg (netA n M))).run Tryd.prog w = .ok (.bool (eqN (refN n M) M)) w := fun w => eql_nets w n (refN n M) M
      have hNL := Lib.hid (eqN_netL (refN n M) M)
      cases hEq : eqN (refN n M) M
      · rw [hEq] at hQ
        go_wp2_with (first
          | (refine wpList_store_row rfl 66 _ _ rfl wb.heap.size (netA n (refN n M)) rfl rfl 66 _ (heap_alloc_new _ _) (netI _ _) (netZ _ _) (netOne _ _) ?_; rw [World.setRow_alloc_new])
          | (refine wpList_load_row rfl 66 _ rfl g7 rfl 66 (netA n M) (0, 0) _ oc7 Tryd.underlying66 rfl (netI _ _) ?_)
          | (refine wpList_load_row rfl 66 _ rfl wb.heap.size rfl 66 (netA n (refN n M)) (0, 0) _ oc8 Tryd.underlying66 rfl (netI _ _) ?_)
          | (refine wpList_store_row rfl 66 _ _ rfl g7 (netA n (refN n M)) rfl rfl 66 _ oc7 (netI _ _) (by rw [netA_size, netA_size]) (netOne _ _) ?_))
        have hne : netL (refN n M) ≠ netL M := fun e => by have := hNL.out.2 e; rw [hEq] at this; cases this
        have s7 : Own ((wb.alloc (.cells (netA n (refN n M)) 66)).setRow g7 (netA n (refN n M))) g7 66 (netA n (refN n M)) := setRow_heap _ _ _ _ _ _ oc7
        have s6 : Own ((wb.alloc (.cells (netA n (refN n M)) 66)).setRow g7 (netA n (refN n M))) g6 56 (tbA 3375) := (setRow_other _ _ _ _ (by omega)).trans oc6
        have sB : Below w.heap.size w ((wb.alloc (.cells (netA n (refN n M)) 66)).setRow g7 (netA n (refN n M))) := below_setRow bC (by omega) _
        have hlink2 : ∀ f res, tightF n f (refN n M) = some res → ∃ f', tightF n f' (permN n l) = some res := fun f res h => hlink (f + 1) res (by unfold tightF; rw [hEm, if_neg (by simp), if_neg hne]; exact h)
        have hlt := refN_sum n M hne
        simp only [Act.put, List.setIfInBounds_toArray, List.set_cons_zero, List.set_cons_succ]
        go_roundw
        case rel => exact ⟨refN n M, s6, s7, refI_lt hM n, hlink2, sB⟩
        case measure => rw [bsum_net s7, bsum_net o7]; omega
      · rw [hEq] at hQ
        go_wp2_with (first
          | (refine wpList_store_row rfl 66 _ _ rfl wb.heap.size (netA n (refN n M)) rfl rfl 66 _ (heap_alloc_new _ _) (netI _ _) (netZ _ _) (netOne _ _) ?_; rw [World.setRow_alloc_new])
          | (refine wpList_load_row rfl 66 _ rfl g7 rfl 66 (netA n M) (0, 0) _ oc7 Tryd.underlying66 rfl (netI _ _) ?_)
          | (refine wpList_load_row rfl 66 _ rfl wb.heap.size rfl 66 (netA n (refN n M)) (0, 0) _ oc8 Tryd.underlying66 rfl (netI _ _) ?_))
        refine (cons_any n M _ hn hM).mono ?_
        rintro e wd ⟨v', rfl, hv', hbd⟩
        go_wp2
        go_ret2
        obtain ⟨f', hf'⟩ := hlink 1 (some M) (by unfold tightF; rw [hEm, if_neg (by simp), if_pos (hNL.out.1 hEq)])
        exact ⟨v', true, conL n M, rfl, hv'.more (Nat.le_refl _) bC.size, bC.trans (hbd.mono bC.size), .inr (.inr ⟨⟨by omega, by omega, hok⟩, M, f', by simpa using hf', by simp, rfl⟩)⟩
    · go_wp2
      go_ret2
      obtain ⟨f', hf'⟩ := hlink 1 none (by unfold tightF; rw [hEm, if_pos rfl])
      exact ⟨.slice none 0 0, false, [], rfl, ⟨none, 0, rfl, by simp, fun k e h => by simp at h⟩, bA, .inr (.inl ⟨⟨by omega, by omega, hok⟩, ⟨f', by simpa using hf'⟩, rfl, rfl⟩)⟩

set_option maxHeartbeats 800000 in
theorem tight_low (n : Int) (v : Value) (w : World) (h1 : n < 1) :
    Calls Tryd.prog 25 #[.int .i64 n, v] w fun e w' => e = .returned (.tuple #[.slice none 0 0, .bool false]) ∧ Below w.heap.size w w' := by
  go_enter Tryd.func25, Tryd.ntmps25
  go_wp2_with fail
  go_ret2
  exact ⟨rfl, Below.refl _ _⟩
set_option maxHeartbeats 800000 in
theorem tight_high (n : Int) (v : Value) (w : World) (h0 : ¬ n < 1) (h1 : n > 8) :
    Calls Tryd.prog 25 #[.int .i64 n, v] w fun e w' => e = .returned (.tuple #[.slice none 0 0, .bool false]) ∧ Below w.heap.size w w' := by
  go_enter Tryd.func25, Tryd.ntmps25
  go_wp2_with fail
  go_ret2
  exact ⟨rfl, Below.refl _ _⟩
set_option maxHeartbeats 800000 in
theorem tight_bad (n : Int) (v : Value) (l : List Con) (w : World) (L : Nat) (hv : RdC w L w.heap.size v l) (h0 : ¬ n < 1) (h1 : ¬ n > 8) (hok : okL n l = false) :
    Calls Tryd.prog 25 #[.int .i64 n, v] w fun e w' => e = .returned (.tuple #[.slice none 0 0, .bool false]) ∧ Below w.heap.size w w' := by
  go_enter Tryd.func25, Tryd.ntmps25
  go_wp2_with (go_at_call 37; refine (allValid_any _ _ l _ L hv).mono ?_; rintro e w1 ⟨rfl, hb1⟩; rw [hok])
  go_ret2
  exact ⟨rfl, hb1⟩
theorem RdC.none (w : World) (L B : Nat) : RdC w L B (.slice none 0 0) [] := ⟨_, _, rfl, by simp, fun k e h => by simp at h⟩
theorem tight_any (n : Int) (v : Value) (l : List Con) (w : World) (L : Nat) (hv : RdC w L w.heap.size v l) :
    Calls Tryd.prog 25 #[.int .i64 n, v] w fun e w' => ∃ v' b l', e = .returned (.tuple #[v', .bool b]) ∧ RdC w' w.heap.size w'.heap.size v' l' ∧ Below w.heap.size w w' ∧ TRes n l l' b := by
  by_cases h0 : n < 1
  · refine (tight_low n v w h0).mono ?_
    rintro e w' ⟨rfl, hb⟩
    exact ⟨_, _, [], rfl, RdC.none _ _ _, hb, .inl ⟨by omega, rfl, rfl⟩⟩
  by_cases h1 : n > 8
  · refine (tight_high n v w h0 h1).mono ?_
    rintro e w' ⟨rfl, hb⟩
    exact ⟨_, _, [], rfl, RdC.none _ _ _, hb, .inl ⟨by omega, rfl, rfl⟩⟩
  cases hok : okL n l
  · refine (tight_bad n v l w L hv h0 h1 hok).mono ?_
    rintro e w' ⟨rfl, hb⟩
    exact ⟨_, _, [], rfl, RdC.none _ _ _, hb, .inl ⟨by simp [hok], rfl, rfl⟩⟩
  · obtain ⟨m, rfl⟩ := Int.eq_ofNat_of_zero_le (show 0 ≤ n by omega)
    exact tight_good m v l w L hv (by omega) (by omega) hok
end Go.Proofs.YtmmecpmeemhglaaDoor
