/-
  The walk of the statement AllenTighten. Conditions: the table of keywords reads as the program lays it (Env).
-/
import Derived.Test.YtmmecpmeemhglaaDoorRtg
import Derived.Test.YtmmecpmeemhglaaDoorRsa
import Derived.Test.YtmmecpmeemhglaaDoorAwkA
import Derived.WalkKit
import Derived.WalkSpells
import Derived.WalkLawsBesides
import Derived.Deep.QuietTactic
import Derived.BigQuiet
import Derived.Handy
import Derived.Lib.Hide
namespace Go.Proofs.YtmmecpmeemhglaaDoor
open Go.RowKit

theorem mb_of_false {B : BNet} {i j : Nat} (h : ∀ c, c < 13 → B i j c = false) : mb (netOf B i j) 13 = [] := by
  rw [List.eq_nil_iff_forall_not_mem]
  intro r hr
  obtain ⟨h0, h1, h2⟩ := (mb_mem _ _).1 hr
  rw [netOf_one B i j r.toNat (by omega), h r.toNat (by omega)] at h2
  cases h2
/-- The program's result is the reference's. -/
theorem res_eq {n : Nat} {l l1 l2 : List Con} {b1 b2 : Bool} (h1 : 1 ≤ n) (hn : n ≤ 8) (ho : okL n l = true) (hT : TRes n l l1 b1) (hR : RRes n l l2 b2) : b1 = b2 ∧ l1 = l2 := by
  obtain ⟨B, hE, hr⟩ := hR
  rcases hT with ⟨hno, _, _⟩ | ⟨_, ⟨f, ht⟩, rfl, rfl⟩ | ⟨_, R, f, ht, rfl, rfl⟩
  · exact absurd ⟨by omega, by omega, ho⟩ hno
  · simp only [Int.toNat_natCast] at ht
    obtain ⟨i, j, hij, hj, h0⟩ := rend_none ho hE ht
    rcases hr with ⟨rfl, rfl, _⟩ | ⟨_, _, hne⟩
    · exact ⟨rfl, rfl⟩
    · exact absurd (mb_of_false h0) (hne i j hij hj)
  · simp only [Int.toNat_natCast] at ht ⊢
    have hS := rend_some hn ho hE ht
    obtain ⟨he, _, hs⟩ := tight_end hn f _ _ ht
    rcases hr with ⟨_, _, i, j, hij, hj, h0⟩ | ⟨rfl, rfl, _⟩
    · exfalso
      have hb := mb_nil h0
      have hz : R i j = 0 := ne_bit fun c => by
        rw [Bool.eq_false_iff]
        intro hc
        by_cases h13 : c < 13
        · have := (hS i j c (by omega) hj h13).2 hc
          rw [hb c h13] at this
          cases this
        · have h2 := hs i j c hc
          have := permN_lt n l i j
          have h4 : (permN n l i j).testBit c = false := Nat.testBit_lt_two_pow (Nat.lt_of_lt_of_le this (show (2 : Nat) ^ 13 ≤ 2 ^ c from Nat.pow_le_pow_right (by decide) (by omega)))
          rw [h4] at h2
          cases h2
      have := (hE_iff n R).2 ⟨i, by omega, j, hj, hz⟩
      rw [he] at this
      cases this
    · refine ⟨rfl, conL_congr fun i j hi hj c hc => ?_⟩
      rw [Bool.eq_iff_iff, netOf_one B i j c hc]
      exact (hS i j c hi hj hc).symm
/-- The reference's Tighten returns what the program's does. -/
def RetTgA (w : World) (n : Int) (l : List Con) (e : Ending) (w' : World) : Prop := ∃ v' b l', e = .returned (.tuple #[v', .bool b]) ∧ RdC w' w.heap.size w'.heap.size v' l' ∧ Below w.heap.size w w' ∧ ∀ l1 b1, TRes n l l1 b1 → b1 = b ∧ l1 = l'
theorem tres_no {n : Int} {l l1 : List Con} {b1 : Bool} (h : ¬ (1 ≤ n ∧ n ≤ 8 ∧ okL n l = true)) (hT : TRes n l l1 b1) : b1 = false ∧ l1 = [] := by
  rcases hT with ⟨_, h1, h2⟩ | ⟨h0, _⟩ | ⟨h0, _⟩
  · exact ⟨h2, h1⟩
  · exact absurd h0 h
  · exact absurd h0 h
theorem rtight_any (n : Int) (v : Value) (l : List Con) (w : World) (L : Nat) (hv : RdC w L w.heap.size v l) :
    Calls Tryd.prog 26 #[.int .i64 n, v] w (RetTgA w n l) := by
  by_cases h0 : n < 1
  · refine (rtight_low n v w h0).mono ?_
    rintro e w' ⟨rfl, hb⟩
    exact ⟨_, false, [], rfl, RdC.none _ _ _, hb, fun l1 b1 h => tres_no (fun x => by omega) h⟩
  by_cases h1 : n > 8
  · refine (rtight_high n v w h0 h1).mono ?_
    rintro e w' ⟨rfl, hb⟩
    exact ⟨_, false, [], rfl, RdC.none _ _ _, hb, fun l1 b1 h => tres_no (fun x => by omega) h⟩
  cases hok : okL n l
  · refine (rtight_bad n v l w L hv h0 h1 hok).mono ?_
    rintro e w' ⟨rfl, hb⟩
    exact ⟨_, false, [], rfl, RdC.none _ _ _, hb, fun l1 b1 h => tres_no (fun x => by rw [hok] at x; cases x.2.2) h⟩
  · obtain ⟨m, rfl⟩ := Int.eq_ofNat_of_zero_le (show 0 ≤ n by omega)
    refine (rtight_good m v l w L hv (by omega) (by omega) hok).mono ?_
    rintro e w' ⟨v', b, l', rfl, hr, hb, hR⟩
    exact ⟨v', b, l', rfl, hr, hb, fun l1 b1 h => res_eq (by omega) (by omega) hok h hR⟩
def RetTgP (w : World) (n : Int) (l : List Con) (e : Ending) (w' : World) : Prop := ∃ v' b l', e = .returned (.tuple #[v', .bool b]) ∧ RdC w' w.heap.size w'.heap.size v' l' ∧ Below w.heap.size w w' ∧ TRes n l l' b
theorem RdC.stepC {w w' : World} {L B : Nat} {v : Value} {l : List Con} (h : RdC w L B v l) (hb : Below w.heap.size w w') (hB : B ≤ w.heap.size) : RdC w' L w'.heap.size v l :=
  (h.below (hb.mono hB)).more (Nat.le_trans hB hb.size) (Nat.le_refl _)

set_option maxRecDepth 100000 in
set_option maxHeartbeats 3200000 in
theorem law_main (n : Int) (A : Option Addr) (c : Nat) (l : List Con) (w : World) (L : Nat) (hv : RdC w L w.heap.size (.slice A l.length c) l) (henv : Env w) (hp : ¬ (n > 5 ∧ n ≤ 8 ∧ (l.length : Int) > 2)) :
    Calls Tryd.prog 8 #[.int .i64 n, .slice A l.length c] w fun e w' => e = .returned (.bool true) ∧ Below w.heap.size w w' := by
  have hlg := large_any _ l w L hv
  have H0 := Lib.hid hv
  have HT := Lib.hid (fun (v : Value) (l : List Con) (w : World) L hv => (show Calls Tryd.prog 25 #[.int .i64 n, v] w (RetTgP w n l) from tight_any n v l w L hv))
  have HR := Lib.hid (fun (v : Value) (l : List Con) (w : World) L hv => rtight_any n v l w L hv)
  have HEnv := Lib.hid henv
  clear hv henv
  by_cases p1 : n > 5 <;> by_cases p2 : n ≤ 8 <;> by_cases p3 : (l.length : Int) > 2
  · exact absurd ⟨p1, p2, p3⟩ hp
  all_goals
    clear hp
    cases hB : bigL l
    · rw [hB] at hlg
      go_enter Tryd.func8, Tryd.ntmps8
      go_wp2_with fail
      refine hlg.mono ?_
      rintro e w1 ⟨rfl, hb1⟩
      have Z1 := hb1.size
      go_wp2_with fail
      refine (HT.out _ l w1 L (H0.out.stepC hb1 (Nat.le_refl _))).mono ?_
      rintro e w2 ⟨v2, b2, l2, rfl, hr2, hb2, ht2⟩
      have B2 := hb1.trans (hb2.mono Z1)
      have Z2 := B2.size
      have R2 := Lib.hid hr2
      have T2 := Lib.hid ht2
      clear hlg hb1 hb2 hr2 ht2
      go_wp2_with fail
      refine (HR.out _ l w2 L (H0.out.stepC B2 (Nat.le_refl _))).mono ?_
      rintro e w3 ⟨v3, b3, l3, rfl, hr3, hb3, he3⟩
      obtain ⟨rfl, rfl⟩ := he3 _ _ T2.out
      have B3 := B2.trans (hb3.mono Z2)
      have Z3 := B3.size
      have S2 := Lib.hid (R2.out.stepC hb3 (Nat.le_refl _))
      have R3 := Lib.hid hr3
      clear hb3 hr3 he3 R2 H0
      have hbb : (b2 != b2) = false := by simp
      go_wp2_with fail
      refine (rsame_eq v2 v3 l2 w3 _ _ S2.out R3.out).mono ?_
      rintro e w4 ⟨rfl, hb4⟩
      have B4 := B3.trans (hb4.mono Z3)
      have Z4 := B4.size
      have S4 := Lib.hid (S2.out.stepC hb4 (Nat.le_refl _))
      clear hb4 R3 S2 B3 B2 hbb
      cases b2 with
      | false =>
        go_wp2_with fail
        refine (awake_any _ (HEnv.out.step B4)).mono ?_
        rintro e w5 ⟨rfl, hb5⟩
        go_wp2
        go_ret
        exact ⟨rfl, B4.trans (hb5.mono Z4)⟩
      | true =>
        go_wp2_with fail
        refine (HT.out v2 l2 w4 _ S4.out).mono ?_
        rintro e w5 ⟨v5, b5, l5, rfl, hr5, hb5, ht5⟩
        obtain ⟨rfl, rfl⟩ := again T2.out ht5
        have B5 := B4.trans (hb5.mono Z4)
        have Z5 := B5.size
        have S5 := Lib.hid (S4.out.stepC hb5 (Nat.le_refl _))
        have R5 := Lib.hid hr5
        clear hb5 hr5 ht5 S4 T2
        go_wp2_with fail
        refine (rsame_eq v2 v5 _ w5 _ _ S5.out R5.out).mono ?_
        rintro e w6 ⟨rfl, hb6⟩
        have B6 := B5.trans (hb6.mono Z5)
        have Z6 := B6.size
        go_wp2_with fail
        refine (awake_any _ (HEnv.out.step B6)).mono ?_
        rintro e w7 ⟨rfl, hb7⟩
        go_wp2
        go_ret
        exact ⟨rfl, B6.trans (hb7.mono Z6)⟩
    · rw [hB] at hlg
      go_enter Tryd.func8, Tryd.ntmps8
      go_wp2_with fail
      refine hlg.mono ?_
      rintro e w1 ⟨rfl, hb1⟩
      go_wp2_with fail
      refine (awake_any _ (HEnv.out.step hb1)).mono ?_
      rintro e w2 ⟨rfl, hb2⟩
      go_wp2
      go_ret
      exact ⟨rfl, hb1.trans (hb2.mono hb1.size)⟩

set_option maxRecDepth 100000 in
set_option maxHeartbeats 800000 in
theorem law_tighten (n : Int) (v : Value) (l : List Con) (w : World) (L : Nat) (hv : RdC w L w.heap.size v l) (henv : Env w) :
    Calls Tryd.prog 8 #[.int .i64 n, v] w fun e w' => e = .returned (.bool true) ∧ Below w.heap.size w w' := by
  have hv0 := hv
  obtain ⟨A, c, rfl, _, _⟩ := hv
  by_cases hp : n > 5 ∧ n ≤ 8 ∧ (l.length : Int) > 2
  · obtain ⟨p1, p2, p3⟩ := hp
    go_enter Tryd.func8, Tryd.ntmps8
    go_wp2_with fail
    refine (awake_any _ henv).mono ?_
    rintro e w1 ⟨rfl, hb1⟩
    go_wp2
    go_ret
    exact ⟨rfl, hb1⟩
  · exact law_main n A c l w L hv0 henv hp
end Go.Proofs.YtmmecpmeemhglaaDoor
