/-
  The program's Int and the reference's: what is read from any bytes at any offset. Conditions: lengths.
-/
import Derived.Test.YtclpemmpckjemaaDoorCo4
import Derived.Outline
import Derived.WalkKit
import Derived.WalkSpells
import Derived.WalkLawsBesides
import Derived.Deep.QuietTactic
import Derived.BigQuiet
import Derived.Handy
import Derived.Lib.Hide
namespace Go.Proofs.YtclpemmpckjemaaDoor
open Go.RowKit

/-- Groups of seven bits read from the i-th on, z read before: the error, the number, how many groups. -/
def decI (i z : Nat) : List UInt8 → Nat × Nat × Nat
  | [] => (2, 0, 0)
  | c :: t => if (i = 9 ∧ c.toNat > 1) ∨ (0 < i ∧ c.toNat = 0) then (1, 0, 0) else if c.toNat < 128 then (0, z + c.toNat % 128 * 128 ^ i, i + 1) else decI (i + 1) (z + c.toNat % 128 * 128 ^ i) t
/-- What Int answers. -/
def intF (l : List UInt8) (i : Int) : Nat × Int × Nat :=
  if i < 0 ∨ i > l.length then (6, 0, 0) else if (decI 0 0 (l.drop i.toNat)).1 = 0 then (0, unzig (decI 0 0 (l.drop i.toNat)).2.1, i.toNat + (decI 0 0 (l.drop i.toNat)).2.2) else ((decI 0 0 (l.drop i.toNat)).1, 0, 0)
theorem run_from (W : World) (A : Option Addr) (N c i : Nat) (hi : i ≤ N) :
    (Instr.slice 26 (.slice A N c) (some (.int .i64 (i : Nat))) none none).run Tryd.prog W = .ok (.slice (if c = i then A else A.map (·.add i)) (N - i) (c - i)) W := by
  have hs := run_slice_l (P := Tryd.prog) (w := W) 26 A N c Tryd.underlying26 .i64 (i : Nat) (by omega) (by omega)
  rw [hs, show Tryd.prog.elem 26 = 5 by kernel_rfl, Tryd.sizeOf5]
  simp only [sliced, Result.andThen]
  rw [show (i : Int).toNat = i by omega, Nat.mul_one]
theorem rdB_from {w : World} {L B : Nat} {A : Option Addr} {N c : Nat} {l : List UInt8} (h : RdB w L B (.slice A N c) l) (i : Nat) (_hi : i ≤ l.length) : RdB w L B (.slice (if c = i then A else A.map (·.add i)) (N - i) (c - i)) (l.drop i) := by
  have h0 := h
  obtain ⟨A', c', e, h63, hc, hx⟩ := h
  injection e with e1 e2 e3
  subst e1 e2 e3
  by_cases hl : l.drop i = []
  · have hz : l.length - i = 0 := by have := congrArg List.length hl; simpa using this
    rw [hl, hz]
    exact rdB_none _ _ _ _ _
  · have hlt : i < l.length := by
      rcases Nat.lt_or_ge i l.length with h1 | h1
      · exact h1
      · exact absurd (List.drop_eq_nil_of_le h1) hl
    rw [if_neg (by omega)]
    obtain ⟨ad, rfl, _⟩ := hx 0 _ (List.getElem?_eq_getElem (by omega))
    have := rdB_sub h0 i (l.length - i) (c - i) (by omega) (by omega)
    rw [List.take_of_length_le (by rw [List.length_drop]; omega)] at this
    exact this
theorem decI_drop (i z : Nat) (m : List UInt8) (k : Nat) (h : k < m.length) : decI i z (m.drop k) = if (i = 9 ∧ m[k].toNat > 1) ∨ (0 < i ∧ m[k].toNat = 0) then (1, 0, 0) else if m[k].toNat < 128 then (0, z + m[k].toNat % 128 * 128 ^ i, i + 1) else decI (i + 1) (z + m[k].toNat % 128 * 128 ^ i) (m.drop (k + 1)) := by
  rw [List.drop_eq_getElem_cons h]
  rfl
theorem or_shift (Z b k : Nat) (hZ : Z < 128 ^ k) (hk : k ≤ 9) (hb : k = 9 → b % 128 ≤ 1) : bits .or .u64 (Z : Int) (IntKind.u64.wrap ((b : Int) % 128 * 2 ^ (7 * k))) = ((Z + b % 128 * 128 ^ k : Nat) : Int) ∧ Z + b % 128 * 128 ^ k < 18446744073709551616 := by
  have hp : (128 : Nat) ^ k = 2 ^ (7 * k) := by rw [Nat.pow_mul]
  have hX : b % 128 * 128 ^ k < 18446744073709551616 := by
    by_cases h9 : k = 9
    · have := hb h9
      subst h9
      have : b % 128 * 128 ^ 9 ≤ 1 * 128 ^ 9 := Nat.mul_le_mul_right _ this
      exact Nat.lt_of_le_of_lt this (by decide)
    · have h8 : (128 : Nat) ^ k ≤ 128 ^ 8 := Nat.pow_le_pow_right (by decide) (by omega)
      have : b % 128 * 128 ^ k ≤ 127 * 128 ^ 8 := Nat.mul_le_mul (by omega) h8
      exact Nat.lt_of_le_of_lt this (by decide)
  have hZ64 : Z < 18446744073709551616 := Nat.lt_of_lt_of_le hZ (Nat.le_trans (Nat.pow_le_pow_right (by decide) hk) (by decide))
  have e : IntKind.u64.wrap ((b : Int) % 128 * 2 ^ (7 * k)) = ((2 ^ (7 * k) * (b % 128) : Nat) : Int) := by
    have h1 : (b : Int) % 128 * 2 ^ (7 * k) = ((b % 128 * 128 ^ k : Nat) : Int) := by
      rw [hp, Int.natCast_mul, Int.natCast_pow, Int.natCast_emod]
      rfl
    rw [h1, IntKind.wrap_u64, Nat.mul_comm (2 ^ (7 * k)), ← hp]
    omega
  rw [e]
  rw [hp] at hZ hX
  have hor := Nat.two_pow_add_eq_or_of_lt hZ (b % 128)
  have hsum : Z + b % 128 * 128 ^ k = 2 ^ (7 * k) * (b % 128) + Z := by rw [hp, Nat.mul_comm, Nat.add_comm]
  constructor
  · rw [u64_or_nat _ _ hZ64 (by rw [Nat.mul_comm]; exact hX), hsum, hor, Nat.or_comm]
  · rw [hp]
    have hor2 : Z ||| b % 128 * 2 ^ (7 * k) < 2 ^ 64 := Nat.or_lt_two_pow hZ64 hX
    have h3 : Z + b % 128 * 2 ^ (7 * k) = Z ||| b % 128 * 2 ^ (7 * k) := by rw [Nat.add_comm, Nat.mul_comm, hor, Nat.or_comm]
    rw [h3]; exact hor2
theorem or_shift9 (Z b : Nat) (hZ : Z < 128 ^ 9) (hb : b % 128 ≤ 1) : bits .or .u64 (Z : Int) ((b : Int) % 128 * 9223372036854775808) = ((Z + b % 128 * 128 ^ 9 : Nat) : Int) ∧ Z + b % 128 * 128 ^ 9 < 18446744073709551616 := by
  have h := or_shift Z b 9 hZ (by omega) (fun _ => hb)
  rw [show (2 : Int) ^ (7 * 9) = 9223372036854775808 by decide, show IntKind.u64.wrap ((b : Int) % 128 * 9223372036854775808) = (b : Int) % 128 * 9223372036854775808 by rw [IntKind.wrap_u64]; omega] at h
  exact h
theorem intF_in {l m : List UInt8} {P : Nat} (hP : P ≤ l.length) (hm : l.drop P = m) : intF l P = if (decI 0 0 m).1 = 0 then (0, unzig (decI 0 0 m).2.1, P + (decI 0 0 m).2.2) else ((decI 0 0 m).1, 0, 0) := by
  unfold intF
  rw [if_neg (by omega), Int.toNat_natCast, hm]
set_option maxRecDepth 100000 in
set_option maxHeartbeats 3200000 in
theorem pInt_any (v : Value) (l : List UInt8) (i : Int) (w : World) (L : Nat) (hv : RdB w L w.heap.size v l) :
    Calls Tryd.prog 25 #[v, .int .i64 i] w fun e w' => e = .returned (.tuple #[.int .i64 (intF l i).2.1, .int .i64 ((intF l i).2.2 : Nat), .int .i64 ((intF l i).1 : Nat)]) ∧ Below w.heap.size w w' := by
  have hof := isOffset_any v l i w L w.heap.size hv
  have hv0 := hv
  obtain ⟨A, c, rfl, hl63, hlc, hx⟩ := hv
  by_cases h0 : 0 ≤ i ∧ i ≤ l.length
  · rw [decide_eq_true h0] at hof
    obtain ⟨P, rfl⟩ := Int.eq_ofNat_of_zero_le h0.1
    have hP : P ≤ l.length := by omega
    have HOF := Lib.hid hof
    have HX := Lib.hid hx
    have HV := Lib.hid hv0
    have hsl := fun W => run_from W A l.length c P hP
    have hru := rdB_from hv0 P hP
    have hml : (l.drop P).length = l.length - P := List.length_drop
    generalize hmm : l.drop P = m at *
    have HMM := Lib.hid hmm
    generalize (if c = P then A else A.map (·.add P)) = A2 at *
    obtain ⟨A3, c3, e3, _, _, hx2⟩ := hru
    injection e3 with e31 e32 e33
    subst e31
    have HX2 := Lib.hid hx2
    clear hof hx hv0 hmm e32 e33 hx2
    go_enter Tryd.func25, Tryd.ntmps25
    go_wp2_with (go_at_call 36; refine HOF.out.mono ?_; rintro e w1 ⟨rfl, rfl⟩)
    have HML := Lib.hid hml
    have HIN := Lib.hid (intF_in hP HMM.out)
    go_loopw [7, 18] (fun z i wr => ∃ k Z : Nat, k ≤ m.length ∧ i = .int .i64 k ∧ z = .int .u64 Z ∧ Z < 128 ^ k ∧ k ≤ 9 ∧ Hid (decI 0 0 m = decI k Z (m.drop k)) ∧ wr = w1) (fun _ i _ => m.length - (intOf i).toNat)
    case atStart => exact ⟨0, 0, Nat.zero_le _, rfl, rfl, by decide, by omega, Lib.hid rfl, rfl⟩
    case round =>
      obtain ⟨k, Z, hk, rfl, rfl, hZ, hk9, HD, rfl⟩ := hrel
      by_cases hlt : k < m.length
      · have hki : (k : Int) < ((l.length - P : Nat) : Int) := by omega
        obtain ⟨ad, rfl, _, _, hce⟩ := HX2.out k _ (List.getElem?_eq_getElem hlt)
        have hdd := decI_drop k Z m k hlt
        have hbl := (m[k]'hlt).toNat_lt
        generalize m[k]'hlt = bb at *
        have HDD := Lib.hid hdd
        clear hdd
        by_cases ha : (k = 9 ∧ bb.toNat > 1) ∨ (0 < k ∧ bb.toNat = 0)
        · have HF := Lib.hid (show intF l P = (1, 0, 0) by rw [HIN.out, HD.out, HDD.out, if_pos ha]; rfl)
          by_cases k9 : k = 9
          · by_cases b1 : bb.toNat > 1
            · subst k9
              rw [show ad.add 9 = (⟨ad.block, ad.off + 9, none⟩ : Addr) by unfold Addr.add; simp] at hce
              have c1i : (bb.toNat : Int) > 1 := by omega
              go_wp2_with fail
              go_ret3
              exact ⟨by rw [HF.out]; rfl, Below.refl _ _⟩
            · subst k9
              rw [show ad.add 9 = (⟨ad.block, ad.off + 9, none⟩ : Addr) by unfold Addr.add; simp] at hce
              have c1i : ¬ (bb.toNat : Int) > 1 := by omega
              have c0i : (bb.toNat : Int) = 0 := by omega
              go_wp2_with fail
              go_ret3
              exact ⟨by rw [HF.out]; rfl, Below.refl _ _⟩
          · have k9i : ¬ (k : Int) = 9 := by omega
            have k0i : (k : Int) > 0 := by omega
            have c0i : (bb.toNat : Int) = 0 := by omega
            go_wp2_with fail
            go_ret3
            exact ⟨by rw [HF.out]; rfl, Below.refl _ _⟩
        · by_cases hb : bb.toNat < 128
          · by_cases k9 : k = 9
            · have hbb : ¬ bb.toNat > 1 := fun h => ha (.inl ⟨k9, h⟩)
              have hb0 : ¬ bb.toNat = 0 := fun h => ha (.inr ⟨by omega, h⟩)
              subst k9
              rw [show ad.add 9 = (⟨ad.block, ad.off + 9, none⟩ : Addr) by unfold Addr.add; simp] at hce
              have c0i : ¬ (bb.toNat : Int) = 0 := by omega
              have c1i : ¬ (bb.toNat : Int) > 1 := by omega
              have hor := or_shift9 Z bb.toNat hZ (by omega)
              have HF := Lib.hid (show intF l P = (0, unzig (Z + bb.toNat % 128 * 128 ^ 9), P + (9 + 1)) by rw [HIN.out, HD.out, HDD.out, if_neg ha, if_pos hb]; rfl)
              have cbi : (bb.toNat : Int) < 128 := by omega
              generalize Z + bb.toNat % 128 * 128 ^ 9 = Z2 at *
              obtain ⟨hor1, hor2⟩ := hor
              have HOR := Lib.hid hor1
              have hfz := fun W => fromZ_any Z2 hor2 W
              have hpk : (P : Int) + 9 + 1 = ((P + (9 + 1) : Nat) : Int) := by omega
              have HPK := Lib.hid hpk
              have hpb : (P : Int) + 9 + 1 ≤ (l.length : Int) := by omega
              clear hor1 hpk
              go_wp2_with fail
              rw [HOR.out]
              with_reducible refine (hfz _).mono ?_
              rintro e w2 ⟨rfl, rfl⟩
              go_wp2_with fail
              go_ret3
              exact ⟨by rw [HF.out, ← HPK.out]; rfl, Below.refl _ _⟩
            · have k9i : ¬ (k : Int) = 9 := by omega
              by_cases k0 : 0 < k
              · have hb0 : ¬ bb.toNat = 0 := fun h => ha (.inr ⟨k0, h⟩)
                have k0i : (k : Int) > 0 := by omega
                have c0i : ¬ (bb.toNat : Int) = 0 := by omega
                have hor := or_shift Z bb.toNat k hZ hk9 (by omega)
                have HF := Lib.hid (show intF l P = (0, unzig (Z + bb.toNat % 128 * 128 ^ k), P + (k + 1)) by rw [HIN.out, HD.out, HDD.out, if_neg ha, if_pos hb]; rfl)
                have cbi : (bb.toNat : Int) < 128 := by omega
                generalize Z + bb.toNat % 128 * 128 ^ k = Z2 at *
                obtain ⟨hor1, hor2⟩ := hor
                have HOR := Lib.hid hor1
                have hfz := fun W => fromZ_any Z2 hor2 W
                have hpk : (P : Int) + k + 1 = ((P + (k + 1) : Nat) : Int) := by omega
                have HPK := Lib.hid hpk
                have hpb : (P : Int) + k + 1 ≤ (l.length : Int) := by omega
                clear hor1 hpk
                go_wp2_with fail
                rw [HOR.out]
                with_reducible refine (hfz _).mono ?_
                rintro e w2 ⟨rfl, rfl⟩
                go_wp2_with fail
                go_ret3
                exact ⟨by rw [HF.out, ← HPK.out]; rfl, Below.refl _ _⟩
              · have k0i : ¬ (k : Int) > 0 := by omega
                have hor := or_shift Z bb.toNat k hZ hk9 (by omega)
                have HF := Lib.hid (show intF l P = (0, unzig (Z + bb.toNat % 128 * 128 ^ k), P + (k + 1)) by rw [HIN.out, HD.out, HDD.out, if_neg ha, if_pos hb]; rfl)
                have cbi : (bb.toNat : Int) < 128 := by omega
                generalize Z + bb.toNat % 128 * 128 ^ k = Z2 at *
                obtain ⟨hor1, hor2⟩ := hor
                have HOR := Lib.hid hor1
                have hfz := fun W => fromZ_any Z2 hor2 W
                have hpk : (P : Int) + k + 1 = ((P + (k + 1) : Nat) : Int) := by omega
                have HPK := Lib.hid hpk
                have hpb : (P : Int) + k + 1 ≤ (l.length : Int) := by omega
                clear hor1 hpk
                go_wp2_with fail
                rw [HOR.out]
                with_reducible refine (hfz _).mono ?_
                rintro e w2 ⟨rfl, rfl⟩
                go_wp2_with fail
                go_ret3
                exact ⟨by rw [HF.out, ← HPK.out]; rfl, Below.refl _ _⟩
          · have hn9 : k ≠ 9 := fun h => ha (.inl ⟨h, by omega⟩)
            have k9i : ¬ (k : Int) = 9 := by omega
            by_cases k0 : 0 < k
            · have k0i : (k : Int) > 0 := by omega
              have c0i : ¬ (bb.toNat : Int) = 0 := by omega
              have hor := or_shift Z bb.toNat k hZ hk9 (by omega)
              have HD2 := Lib.hid (show decI 0 0 m = decI (k + 1) (Z + bb.toNat % 128 * 128 ^ k) (m.drop (k + 1)) by rw [HD.out, HDD.out, if_neg ha, if_neg hb])
              have hZ2 : Z + bb.toNat % 128 * 128 ^ k < 128 ^ (k + 1) := by
                have h1 : bb.toNat % 128 * 128 ^ k ≤ 127 * 128 ^ k := Nat.mul_le_mul_right _ (by omega)
                rw [Nat.pow_succ]
                omega
              have HZ2 := Lib.hid hZ2
              have cbi : ¬ (bb.toNat : Int) < 128 := by omega
              generalize Z + bb.toNat % 128 * 128 ^ k = Z2 at *
              have HOR := Lib.hid hor.1
              clear hor hZ2
              go_wp2_with fail
              go_round
              case rel => exact ⟨k + 1, Z2, by omega, by go_num, by rw [HOR.out], HZ2.out, by omega, HD2, by first | rfl | trivial⟩
              case measure => simp [intOf]; omega
            · have k0i : ¬ (k : Int) > 0 := by omega
              have hor := or_shift Z bb.toNat k hZ hk9 (by omega)
              have HD2 := Lib.hid (show decI 0 0 m = decI (k + 1) (Z + bb.toNat % 128 * 128 ^ k) (m.drop (k + 1)) by rw [HD.out, HDD.out, if_neg ha, if_neg hb])
              have hZ2 : Z + bb.toNat % 128 * 128 ^ k < 128 ^ (k + 1) := by
                have h1 : bb.toNat % 128 * 128 ^ k ≤ 127 * 128 ^ k := Nat.mul_le_mul_right _ (by omega)
                rw [Nat.pow_succ]
                omega
              have HZ2 := Lib.hid hZ2
              have cbi : ¬ (bb.toNat : Int) < 128 := by omega
              generalize Z + bb.toNat % 128 * 128 ^ k = Z2 at *
              have HOR := Lib.hid hor.1
              clear hor hZ2
              go_wp2_with fail
              go_round
              case rel => exact ⟨k + 1, Z2, by omega, by go_num, by rw [HOR.out], HZ2.out, by omega, HD2, by first | rfl | trivial⟩
              case measure => simp [intOf]; omega
      · have hki : ¬ (k : Int) < ((l.length - P : Nat) : Int) := by omega
        have hkk : k = m.length := by omega
        have HF := Lib.hid (show intF l P = (2, 0, 0) by rw [HIN.out, HD.out, hkk, List.drop_of_length_le (Nat.le_refl _)]; rfl)
        go_wp2_with fail
        go_ret3
        exact ⟨by rw [HF.out]; rfl, Below.refl _ _⟩
  · rw [decide_eq_false h0] at hof
    have HF := Lib.hid (show intF l i = (6, 0, 0) by unfold intF; rw [if_pos (by omega)])
    have HOF := Lib.hid hof
    clear hof hx hv0
    go_enter Tryd.func25, Tryd.ntmps25
    go_wp2_with (go_at_call 36; refine HOF.out.mono ?_; rintro e w1 ⟨rfl, rfl⟩)
    go_ret3
    exact ⟨by rw [HF.out]; rfl, Below.refl _ _⟩
end Go.Proofs.YtclpemmpckjemaaDoor
