/-
  Contract of the reference's Compose: the members of the table's entry. Conditions: none.
-/
import Derived.Test.YtmmecpmeemhglaaDoorRtb
import Derived.Test.YtmmecpmeemhglaaDoorCmp
import Derived.WalkKit
import Derived.WalkSpells
import Derived.WalkLawsBesides
import Derived.Deep.QuietTactic
import Derived.BigQuiet
import Derived.Handy
import Derived.Lib.Hide
namespace Go.Proofs.YtmmecpmeemhglaaDoor
open Go.RowKit

theorem perm_to : ∀ p : Fin 15, ∃ k : Fin 15, pf k.val = sf p.val ∧ pt k.val = st p.val := by decide
theorem perm_from : ∀ k : Fin 15, ∃ p : Fin 15, sf p.val = pf k.val ∧ st p.val = pt k.val := by decide
theorem rt_tb (a b c : Nat) (ha : a < 13) (hb : b < 13) (hc : c < 13) : rtE 3375 (169 * a + 13 * b + c) = (tb a b).testBit c := by
  rw [Bool.eq_iff_iff, rtE_bit _ _ (by omega), tb_bit a b c ha hb]
  constructor
  · rintro ⟨k, hk, h⟩
    unfold ix at h
    have l1 := rN_lt (k / 225) (k / 15 % 15) (by omega) (by omega)
    have l2 := rN_lt (k / 15 % 15) (k % 15) (by omega) (by omega)
    have l3 := rN_lt (k / 225) (k % 15) (by omega) (by omega)
    obtain ⟨p, p1, p2⟩ := perm_from ⟨k / 225, by omega⟩
    obtain ⟨q, q1, q2⟩ := perm_from ⟨k / 15 % 15, by omega⟩
    obtain ⟨r, r1, r2⟩ := perm_from ⟨k % 15, by omega⟩
    refine ⟨p.val, q.val, r.val, p.isLt, q.isLt, r.isLt, ?_, ?_, ?_⟩
    · have e : relN p.val q.val = rN (k / 225) (k / 15 % 15) := by unfold relN relPQ rN; rw [p1, p2, q1, q2]
      rw [e]; omega
    · have e : relN q.val r.val = rN (k / 15 % 15) (k % 15) := by unfold relN relPQ rN; rw [q1, q2, r1, r2]
      rw [e]; omega
    · have e : relN p.val r.val = rN (k / 225) (k % 15) := by unfold relN relPQ rN; rw [p1, p2, r1, r2]
      rw [e]; omega
  · rintro ⟨p, q, r, hp, hq, hr, h1, h2, h3⟩
    obtain ⟨i, i1, i2⟩ := perm_to ⟨p, hp⟩
    obtain ⟨j, j1, j2⟩ := perm_to ⟨q, hq⟩
    obtain ⟨k, k1, k2⟩ := perm_to ⟨r, hr⟩
    have li := i.isLt
    have lj := j.isLt
    have lk := k.isLt
    refine ⟨(i.val * 15 + j.val) * 15 + k.val, by omega, ?_⟩
    unfold ix
    rw [show ((i.val * 15 + j.val) * 15 + k.val) / 225 = i.val by omega, show ((i.val * 15 + j.val) * 15 + k.val) / 15 % 15 = j.val by omega, show ((i.val * 15 + j.val) * 15 + k.val) % 15 = k.val by omega]
    have e1 : relN p q = rN i.val j.val := by unfold relN relPQ rN; rw [i1, i2, j1, j2]
    have e2 : relN q r = rN j.val k.val := by unfold relN relPQ rN; rw [j1, j2, k1, k2]
    have e3 : relN p r = rN i.val k.val := by unfold relN relPQ rN; rw [i1, i2, k1, k2]
    rw [← h1, ← h2, ← h3, e1, e2, e3]
attribute [local irreducible] rtA tbA tb

set_option maxRecDepth 100000 in
set_option maxHeartbeats 800000 in
theorem rcmp_bad (a b : Int) (w : World) (h : (isRel a && isRel b) = false) :
    Calls Tryd.prog 19 #[.int .i64 a, .int .i64 b] w fun e w' => e = .returned (.slice none 0 0) ∧ Below w.heap.size w w' := by
  have hn : ¬ (isRel a = true ∧ isRel b = true) := by rw [← Bool.and_eq_true, h]; simp
  rw [isRel_iff, isRel_iff] at hn
  by_cases h1 : a < 0
  · go_enter Tryd.func19, Tryd.ntmps19
    go_wp2
    go_ret
    exact ⟨rfl, Below.refl _ _⟩
  by_cases h2 : a ≥ 13
  · go_enter Tryd.func19, Tryd.ntmps19
    go_wp2
    go_ret
    exact ⟨rfl, Below.refl _ _⟩
  by_cases h3 : b < 0
  · go_enter Tryd.func19, Tryd.ntmps19
    go_wp2
    go_ret
    exact ⟨rfl, Below.refl _ _⟩
  have h4 : b ≥ 13 := by omega
  clear hn
  go_enter Tryd.func19, Tryd.ntmps19
  go_wp2
  go_ret
  exact ⟨rfl, Below.refl _ _⟩

set_option maxRecDepth 100000 in
set_option maxHeartbeats 1600000 in
theorem rcmp_good (a b : Nat) (w : World) (ha : a < 13) (hb : b < 13) :
    Calls Tryd.prog 19 #[.int .i64 a, .int .i64 b] w (RetInts w (mb (tb a b) 13)) := by
  have a0 : ¬ (a : Int) < 0 := by omega
  have b0 : ¬ (b : Int) < 0 := by omega
  have a13 : ¬ (a : Int) ≥ 13 := by omega
  have b13 : ¬ (b : Int) ≥ 13 := by omega
  have HT := Lib.hid (fun c hc => rt_tb a b c ha hb hc)
  generalize tb a b = X at *
  go_enter Tryd.func19, Tryd.ntmps19
  go_wp2_with fail
  refine (rtable_any _).mono ?_
  rintro e w1 ⟨g, rfl, hg, ho, hb1⟩
  have HO := Lib.hid ho
  have hgl := ho.lt
  clear ho
  go_wp2
  go_loopw [6, 7] (fun o i wr => ∃ c : Nat, c ≤ 13 ∧ i = .int .i64 c ∧ wr.ownsRow w1.heap.size 3 1 o (mb X c).length (intsV (mb X c)) ∧ Below w1.heap.size w1 wr) (fun _ i _ => 13 - (intOf i).toNat)
  case atStart => exact ⟨0, by omega, rfl, own_nil _ _, Below.refl _ _⟩
  case round =>
    obtain ⟨c, hc, rfl, hown, hbr⟩ := hrel
    have hbz := hbr.size
    have HR := Lib.hid hown
    clear hown
    by_cases hct : c < 13
    · have c1 := ((HO.out.below hbr hgl).cell (169 * a + 13 * b + c)).trans (rtA_get 3375 (169 * a + 13 * b + c) (by omega))
      rw [HT.out c hct] at c1
      have hS := Lib.hid (mb_step X c)
      have hle := mb_le X c
      have i1 : IntKind.i64.wrap (169 * (a : Int)) = 169 * a := IntWalk.i64_in _ (by omega)
      have i2 : IntKind.i64.wrap (13 * (b : Int)) = 13 * b := IntWalk.i64_in _ (by omega)
      have i3 : IntKind.i64.wrap (169 * (a : Int) + 13 * b) = 169 * a + 13 * b := IntWalk.i64_in _ (by omega)
      have i4 : IntKind.i64.wrap (169 * (a : Int) + 13 * b + c) = 169 * a + 13 * b + c := IntWalk.i64_in _ (by omega)
      have i5 : (169 * (a : Int) + 13 * b + c).toNat = 169 * a + 13 * b + c := by omega
      have i6 : (0 : Int) ≤ 169 * (a : Int) + 13 * b + c := by omega
      have i7 : 169 * (a : Int) + 13 * b + c < 2197 := by omega
      have i8 : (⟨g, 0, none⟩ : Addr).add (169 * a + 13 * b + c) = ⟨g, 169 * a + 13 * b + c, none⟩ := plain_add _ _
      cases hx : X.testBit c
      · rw [hx] at c1 hS
        go_wp2
        go_roundw
        case rel => exact ⟨c + 1, by omega, by go_num, by rw [hS.out]; simpa using HR.out, hbr⟩
        case measure => simp [intOf]; omega
      · rw [hx] at c1 hS
        go_wp2_with (at_builtin; refine append_int _ rfl _ _ rfl w1.heap.size _ (mb X c) rfl (World.ownsRow.alloc HR.out _) ⟨wr.heap.size, 0, none⟩ (c : Int) rfl (cell_one_new _ _ _) ?_ ?_ ?_; (focus omega); (focus go_size); intro v1 w2 hown2 hb2)
        go_roundw
        case rel => exact ⟨c + 1, by omega, by go_num, by rw [hS.out]; exact hown2, (hbr.alloc hbz _).trans hb2⟩
        case measure => simp [intOf]; omega
    · have hc13 : c = 13 := by omega
      subst hc13
      go_wp2
      go_ret
      have hle := mb_le X 13
      exact ⟨_, rfl, (RdI.of_own HR.out (by omega)).more (Nat.le_refl _) hb1.size, hb1.trans (hbr.mono hb1.size)⟩
theorem rcmp_any (a b : Int) (w : World) :
    Calls Tryd.prog 19 #[.int .i64 a, .int .i64 b] w (RetInts w (cmpL a b)) := by
  unfold cmpL
  cases h : isRel a && isRel b
  · refine (rcmp_bad a b w h).mono ?_
    rintro e w' ⟨rfl, hb⟩
    exact ⟨_, rfl, ⟨none, 0, rfl, by simp, fun k n h => by simp at h⟩, hb⟩
  · rw [Bool.and_eq_true] at h
    obtain ⟨ha1, ha2⟩ := (isRel_iff a).1 h.1
    obtain ⟨hb1, hb2⟩ := (isRel_iff b).1 h.2
    obtain ⟨a, rfl⟩ := Int.eq_ofNat_of_zero_le ha1
    obtain ⟨b, rfl⟩ := Int.eq_ofNat_of_zero_le hb1
    exact rcmp_good a b w (by omega) (by omega)
end Go.Proofs.YtmmecpmeemhglaaDoor
