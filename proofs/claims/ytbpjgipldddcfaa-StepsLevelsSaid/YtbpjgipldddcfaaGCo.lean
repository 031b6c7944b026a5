import Derived.Test.YtbpjgipldddcfaaGJo
import Derived.WalkKit
import Derived.WalkSpells
import Derived.WalkLawsBesides
import Derived.Deep.QuietTactic
import Derived.BigQuiet
import Derived.Handy
import Derived.Lib.Hide
/-
  Contracts of the reference's combinations. Conditions: the lists hold at most 30000 periods.
-/
namespace Go.Proofs.Ytbpjgipldddcfaa
set_option maxRecDepth 100000
set_option linter.unusedVariables false
set_option linter.unusedSimpArgs false
open Go.RowKit

theorem rstep_len (acc : List (Int × Int)) (p : Int × Int) : (rstep acc p).length ≤ acc.length + 1 := by
  unfold rstep
  split
  · simp
  · split <;> simp
theorem rfold_len : ∀ (l acc : List (Int × Int)), (l.foldl rstep acc).length ≤ acc.length + l.length
  | [], acc => by simp
  | p :: l, acc => by
    have h1 := rfold_len l (rstep acc p); have h2 := rstep_len acc p
    rw [List.foldl_cons, List.length_cons]; omega

set_option maxRecDepth 100000 in
set_option maxHeartbeats 3200000 in
theorem rcomb_any (kd : Int) (hkd : kd = 1 ∨ kd = 2 ∨ kd = 3 ∨ kd = 4) (u v : Value) (a b : List (Int × Int)) (w : World) (L L' : Nat) (hu : RdP w L w.heap.size u a) (hv : RdP w L' w.heap.size v b) (hla : a.length ≤ 30000) (hlb : b.length ≤ 30000) :
    Calls Try.prog 45 #[.int .i64 kd, u, v] w (RetPers w (rcomb kd a b)) := by
  have hu0 := hu
  have hv0 := hv
  obtain ⟨A, c, rfl, hla63, _⟩ := hu
  obtain ⟨A2, c2, rfl, hlb63, _⟩ := hv
  have hpl := pts_len (all3 a b)
  have hal : (all3 a b).length = a.length + b.length + 1 := by unfold all3; simp
  unfold rcomb
  go_enter Try.func45, Try.ntmps45
  go_wp2_with (first
    | (at_builtin; refine append_per _ rfl _ _ rfl w.heap.size _ [] rfl (own_nilP _ _) ⟨w.heap.size, 0, none⟩ 0 1099511627776 rfl (cell_two_new _ _ _ _) ?_ ?_ ?_; (focus (simp)); (focus go_size); intro v1 w1 hown1 hb1; have B1 : Below w.heap.size w w1 := ((Below.refl _ _).alloc (Nat.le_refl _) _).trans hb1; have z1 := B1.size; have H1 := Lib.hid hown1; clear hown1 hb1)
    | (at_builtin; refine append_rdP _ rfl _ _ rfl w.heap.size _ [(0, 1099511627776)] rfl H1.out L w.heap.size _ a _ _ rfl (hu0.below B1) ?_ ?_ ?_; (focus (simp; omega)); (focus go_size); intro v2 w2 hown2 hb2; have B2 := B1.trans hb2; have z2 := B2.size; have H2 := Lib.hid hown2; clear hown2 hb2)
    | (at_builtin; refine append_rdP _ rfl _ _ rfl w.heap.size _ ([(0, 1099511627776)] ++ a) rfl H2.out L' w.heap.size _ b _ _ rfl (hv0.below B2) ?_ ?_ ?_; (focus (simp; omega)); (focus go_size); intro v3 w3 hown3 hb3; have B3 := B2.trans hb3; have z3 := B3.size; have H3 := Lib.hid hown3; clear hown3 hb3))
  have R3 : Hid (RdP w3 w.heap.size w3.heap.size v3 (all3 a b)) := Lib.hid (by
    have e : [(0, 1099511627776)] ++ a ++ b = all3 a b := by simp [all3]
    have h := H3.out
    rw [e] at h
    exact RdP.of_own h (by omega))
  clear H1 H2 H3
  refine (rPts_any _ (all3 a b) _ w.heap.size R3.out (by omega)).mono ?_
  rintro e w4 ⟨v4, rfl, hr4, hb4⟩
  have B4 := B3.trans (hb4.mono z3)
  have z4 := B4.size
  have hR4 := Lib.hid hr4
  obtain ⟨A4, c4, rfl, _, _⟩ := hr4
  generalize pts (all3 a b) = P at *
  go_wp2
  go_loopw [9, 10] (fun o i wr => ∃ k : Nat, k + 1 ≤ P.length + 1 ∧ i = .int .i64 (k + 1 : Nat) ∧ wr.ownsRow w4.heap.size 33 2 o ((elem (gOf (wantF kd) a b) (P.take (k + 1))).foldl rstep []).length (flatP ((elem (gOf (wantF kd) a b) (P.take (k + 1))).foldl rstep [])) ∧ Below w4.heap.size w4 wr) (fun _ i _ => P.length + 1 - (intOf i).toNat)
  case atStart =>
    refine ⟨0, by omega, rfl, ?_, Below.refl _ _⟩
    have e0 : elem (gOf (wantF kd) a b) (P.take (0 + 1)) = [] := by cases P <;> rfl
    rw [e0]
    exact own_nilP _ _
  case round =>
    obtain ⟨k, hk, rfl, hown, hbr⟩ := hrel
    have hbz := hbr.size
    have HO := Lib.hid hown
    clear hown
    have hle0 := rfold_len (elem (gOf (wantF kd) a b) (P.take (k + 1))) []
    have hle := elem_len (gOf (wantF kd) a b) (P.take (k + 1))
    rw [List.length_take] at hle
    rw [List.length_nil] at hle0
    by_cases hlt : k + 1 < P.length
    · have hx := List.getElem?_eq_getElem (show k < P.length by omega)
      have hy := List.getElem?_eq_getElem hlt
      have hS := Lib.hid (elem_step (gOf (wantF kd) a b) hx hy)
      generalize P[k] = x at hx hS
      generalize P[k + 1] = y at hy hS
      obtain ⟨ad, rfl, _, hab, c0⟩ := (hR4.out.below hbr).at hx
      obtain ⟨_, e1, _, _, c1'⟩ := (hR4.out.below hbr).at hy
      injection e1 with e1
      subst e1
      have hbw := B4.trans (hbr.mono z4)
      have hwz := hbw.size
      have HA : Hid (∀ p : After wr, RdP p.w L p.w.heap.size (.slice A a.length c) a) := Lib.hid fun p => ((hu0.below hbw).more hwz (Nat.le_refl _)).step p.h (Nat.le_refl _)
      have HB : Hid (∀ p : After wr, RdP p.w L' p.w.heap.size (.slice A2 b.length c2) b) := Lib.hid fun p => ((hv0.below hbw).more hwz (Nat.le_refl _)).step p.h (Nat.le_refl _)
      have hpos : ad.add (k + 1) = ⟨ad.block, ad.off + (k + 1), none⟩ := by unfold Addr.add; rw [if_neg (by omega)]
      rw [hpos] at c1'
      clear hpos
      have i1 : IntKind.i64.wrap ((k : Int) + 1 - 1) = k := by rw [show (k : Int) + 1 - 1 = k by omega]; exact IntWalk.i64_in _ (by omega)
      have i7 : IntKind.i64.wrap (k : Int) = k := IntWalk.i64_in _ (by omega)
      have i2 : (0 : Int) ≤ (k : Int) := by omega
      have i3 : (k : Int) < (P.length : Int) := by omega
      have i4 : (0 : Int) ≤ (k : Int) + 1 := by omega
      have i5 : (k : Int) + 1 < (P.length : Int) := by omega
      have i6 : ((k : Int) + 1).toNat = k + 1 := by omega
      clear hx hy
      go_wp2
      have f0 : ∀ p : After wr, p.w.cell? (ad.add k) = some (.int .i64 x) := after_cell (by rw [add_block]; omega) c0
      (refine wp_region_after (by kernel_rfl) (by kernel_rfl) ?_; (repeat (go_big_quiet_step ((first | (go_at_call 76; exact calls_after (rMem_any _ a _ _ _ (HA.out _))) | (go_at_call 76; exact calls_after (rMem_any _ b _ _ _ (HB.out _))) | (go_at_call 75; exact calls_after (wanted_any _ hkd _ _ _)))))); refine wpQuiet_nil ?_; intro wq hw0; obtain ⟨⟨wq0, hbq⟩, hw1⟩ := hw0; subst hw1; (try dsimp only))
      have hbb := hbr.trans (hbq.mono hbz)
      have HO2 := Lib.hid (own_below HO.out hbq)
      have hz2 := hbb.size
      cases hM : wantF kd (memL a x) (memL b x)
      · go_wp2
        go_roundw
        case rel => exact ⟨k + 1, by omega, by go_num, by rw [hS.out, show gOf (wantF kd) a b x = false from hM, if_neg (by decide), List.append_nil]; exact HO2.out, hbb⟩
        case measure => simp [intOf]; omega
      · go_wp2
        have HS : Hid (∀ w' : World, Below w4.heap.size wq w' → w'.cell? (ad.add k) = some (.int .i64 x) ∧ w'.cell? ⟨ad.block, ad.off + (k + 1), none⟩ = some (.int .i64 y)) := Lib.hid fun w' hb => by
          have h1 := (hbq.mono hbz).trans hb
          exact ⟨(h1.cell (p := ad.add k) (by rw [add_block]; omega)).trans c0, (h1.cell (p := ⟨ad.block, ad.off + (k + 1), none⟩) (by omega)).trans c1'⟩
        clear f0 c0 c1' hbq
        go_region_held3 (fun w' => w'.cell? (ad.add k) = some (.int .i64 x) ∧ w'.cell? ⟨ad.block, ad.off + (k + 1), none⟩ = some (.int .i64 y))
          (first | exact HS.out _ (by (repeat' (first | (with_reducible exact Below.refl _ _) | (with_reducible assumption) | (with_reducible refine Below.alloc ?_ ?_ _) | (with_reducible refine Below.drew ?_) | (with_reducible refine Below.setCell ?_ ?_ _) | (with_reducible refine Below.trans ?_ (Below.mono (by assumption) ?_)) | go_size))))
          ((go_at_call 24; refine (join_any _ ((elem (gOf (wantF kd) a b) (P.take (k + 1))).foldl rstep []) x y _ w4.heap.size (World.ownsRow.drew HO2.out) (by go_size) (by omega)).mono ?_; rintro e w5 ⟨v5, rfl, hown5, hb5⟩))
        have hb6 : Below w4.heap.size wq w5 := (by (repeat' (first | (with_reducible exact Below.refl _ _) | (with_reducible assumption) | (with_reducible refine Below.alloc ?_ ?_ _) | (with_reducible refine Below.drew ?_) | (with_reducible refine Below.setCell ?_ ?_ _) | (with_reducible refine Below.trans ?_ (Below.mono (by assumption) ?_)) | go_size)))
        go_wp2
        go_roundw
        case rel => exact ⟨k + 1, by omega, by go_num, by rw [hS.out, show gOf (wantF kd) a b x = true from hM, if_pos rfl, List.foldl_append]; exact hown5, hbb.trans hb6⟩
        case measure => simp [intOf]; omega
    · have hT : P.take (k + 1) = P := List.take_of_length_le (by omega)
      rw [hT] at HO hle0
      have hle2 := elem_len (gOf (wantF kd) a b) P
      have hd : ¬ ((k + 1 : Nat) : Int) < P.length := by omega
      go_wp2
      go_ret
      exact ⟨_, rfl, (RdP.of_own HO.out (by omega)).more (Nat.le_refl _) z4, B4.trans (hbr.mono z4)⟩
end Go.Proofs.Ytbpjgipldddcfaa
