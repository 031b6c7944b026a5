/-
  The reference's with and PutInt: what each answers. Conditions: numbers of 64 bits; lengths.
-/
import Derived.Test.YtomiegfblhhhpaaCo3
import Derived.Outline
import Derived.WalkKit
import Derived.WalkSpells
import Derived.WalkLawsBesides
import Derived.Deep.QuietTactic
import Derived.BigQuiet
import Derived.Handy
import Derived.Lib.Hide
namespace Go.Proofs.Ytomiegfblhhhpaa
open Go.RowKit

theorem rdB_notnone {w : World} {L B : Nat} {v : Value} {l : List UInt8} (h : RdB w L B v l) (hl : 0 < l.length) : ∀ n c, v = .slice none n c → c = 0 := by
  intro n c e
  obtain ⟨A, c', rfl, _, _, hx2⟩ := h
  injection e with e1 e2 e3
  subst e1
  obtain ⟨ad, h1, _⟩ := hx2 0 _ (List.getElem?_eq_getElem hl)
  cases h1
set_option maxHeartbeats 1600000 in
theorem with_any (v u : Value) (l m : List UInt8) (w : World) (L L2 : Nat) (hv : RdB w L w.heap.size v l) (hu : RdB w L2 w.heap.size u m) (hvn : ∀ n c, v = .slice none n c → c = 0) (hun : ∀ n c, u = .slice none n c → c = 0) (hl : l.length + m.length ≤ 140737488355328) :
    Calls Try.prog 46 #[v, u] w (RetB w.heap.size w (l ++ m)) := by
  have HUN := Lib.hid hun
  have HVN := Lib.hid hvn
  have b2 := (Below.refl w.heap.size w).alloc (Nat.le_refl _) (.cells #[] 5)
  have z2 := b2.size
  have O2 := Lib.hid (own_lit w [] (by unfold maxLen; simp) #[] rfl)
  have RV2 := Lib.hid (hv.step b2 (Nat.le_refl _))
  have HU := Lib.hid hu
  have HL0 := Lib.hid (show ([] : List UInt8).length + l.length ≤ 140737488355328 by simp; omega)
  have HL1 := Lib.hid hl
  obtain ⟨A, c, rfl, _, _, _⟩ := hv
  obtain ⟨A2, c2, rfl, _, _, _⟩ := hu
  clear hun hvn
  go_enter Try.func46, Try.ntmps46
  go_wp2_with (first
    | (at_builtin; refine append_x _ rfl _ _ rfl w.heap.size _ [] rfl O2.out _ l _ _ rfl RV2.out HVN.out HL0.out z2 ?_; intro v3 w3 ho3 hb3; rw [List.nil_append] at ho3; have O3 := Lib.hid ho3; have b3 := b2.trans hb3; have z3 := b3.size; have RU3 := Lib.hid (HU.out.step b3 (Nat.le_refl _)); clear ho3)
    | (at_builtin; refine append_x _ rfl _ _ rfl w.heap.size _ l rfl O3.out _ m _ _ rfl RU3.out HUN.out HL1.out z3 ?_; intro v4 w4 ho4 hb4))
  go_ret
  exact ⟨_, rfl, ho4, b3.trans hb4⟩
set_option maxRecDepth 100000 in
set_option maxHeartbeats 3200000 in
theorem rPutInt_any (v : Value) (l : List UInt8) (n : Int) (hn : I64 n) (w : World) (L : Nat) (hv : RdB w L w.heap.size v l) (hvn : ∀ n c, v = .slice none n c → c = 0) (hl : l.length ≤ 140737488355300) :
    Calls Try.prog 15 #[v, .int .i64 n] w (RetB w.heap.size w (l ++ vint (zig n))) := by
  have hzl := zig_lt hn
  have hv10 := vint_len10 hzl
  generalize hZZ : zig n = Z at *
  have HZ := Lib.hid hZZ
  have HV10 := Lib.hid hv10
  have HV := Lib.hid hv
  have HVN := Lib.hid hvn
  clear hv10 hZZ hvn
  obtain ⟨A, c, rfl, _, _, _⟩ := hv
  unfold I64 at hn
  by_cases h0 : n < 0
  · have hzi : 2 * -(n + 1) + 1 = (Z : Int) := by rw [← HZ.out]; unfold zig; rw [if_pos h0]; omega
    have HZI := Lib.hid hzi
    clear hzi
    go_enter Try.func15, Try.ntmps15
    go_wp2_with fail
    go_loopw [5, 6] (fun z o wr => ∃ (dn : List UInt8) (zz : Nat), z = .int .u64 zz ∧ zz < 18446744073709551616 ∧ Hid (wr.ownsRow w.heap.size 5 1 o dn.length (bytV dn)) ∧ Hid (dn ++ vint zz = vint Z) ∧ Below w.heap.size w wr) (fun z _ _ => (intOf z).toNat)
    case atStart => exact ⟨[], Z, by rw [HZI.out], hzl, Lib.hid (World.ownsRow_nil w _ _ 1), Lib.hid rfl, Below.refl _ _⟩
    case round =>
      obtain ⟨dn, zz, rfl, hzz, HO, HD, hbr⟩ := hrel
      have hbz := hbr.size
      have hdl : dn.length + 1 ≤ 10 := by
        have h1 := congrArg List.length HD.out
        rw [List.length_append] at h1
        have h2 := HV10.out
        have h3 : 0 < (vint zz).length := by
          by_cases h : zz < 128
          · rw [vint_last h]; simp
          · rw [vint_more h]; simp
        omega
      have HDL := Lib.hid hdl
      clear hdl
      by_cases hlt : zz < 128
      · have hlti : (zz : Int) < 128 := by omega
        have HE := Lib.hid (show dn ++ [UInt8.ofNat zz] = vint Z by rw [← HD.out, vint_last hlt])
        have hby := ofNat_lt (show zz < 256 by omega)
        have bm := bel_mark wr (.cells #[.int .u8 (zz : Nat)] 5)
        have HAL := Lib.hid (own_below HO.out bm)
        have HRB := Lib.hid (rdB_byte wr (zz : Nat) (UInt8.ofNat zz) hby.symm)
        have hzb := Nat.le_trans hbz bm.size
        have HB1 := Lib.hid (hbr.trans (bm.mono hbz))
        clear hby bm
        go_wp2_with (at_builtin; refine append_x _ rfl _ _ rfl w.heap.size _ dn rfl HAL.out _ [UInt8.ofNat zz] _ _ rfl HRB.out (by rintro n' c' h'; cases h') (by have := HDL.out; simp; omega) hzb ?_; intro v2 w2 ho2 hb2; have HO2 := Lib.hid ho2; have B2 := HB1.out.trans hb2; have z2 := B2.size; clear ho2)
        have hw := with_any _ v2 l (dn ++ [UInt8.ofNat zz]) w2 L w.heap.size (HV.out.step B2 (Nat.le_refl _)) (RdB.of_own HO2.out (by have := HDL.out; simp; omega)) HVN.out (own_not_none HO2.out) (by have := HDL.out; simp; omega)
        rw [HE.out] at hw
        with_reducible refine hw.mono ?_
        rintro e w3 ⟨v3, rfl, ho3, hb3⟩
        go_wp2_with fail
        go_ret
        exact ⟨_, rfl, ownsRow_low ho3 z2, B2.trans (hb3.mono z2)⟩
      · have hlti : ¬ (zz : Int) < 128 := by omega
        have HD2 := Lib.hid (show (dn ++ [UInt8.ofNat (zz % 128 + 128)]) ++ vint (zz / 128) = vint Z by rw [← HD.out, vint_more hlt, List.append_assoc]; rfl)
        have hby := ofNat_lt (show zz % 128 + 128 < 256 by omega)
        have hbx : ((zz % 128 + 128 : Nat) : Int) = (zz : Int) % 128 + 128 := by omega
        rw [hbx] at hby
        have bm := bel_mark wr (.cells #[.int .u8 ((zz : Int) % 128 + 128)] 5)
        have HAL := Lib.hid (own_below HO.out bm)
        have HRB := Lib.hid (rdB_byte wr ((zz : Int) % 128 + 128) (UInt8.ofNat (zz % 128 + 128)) hby.symm)
        have hzb := Nat.le_trans hbz bm.size
        have HB1 := Lib.hid (hbr.trans (bm.mono hbz))
        clear hby bm hbx
        go_wp2_with (at_builtin; refine append_x _ rfl _ _ rfl w.heap.size _ dn rfl HAL.out _ [UInt8.ofNat (zz % 128 + 128)] _ _ rfl HRB.out (by rintro n' c' h'; cases h') (by have := HDL.out; simp; omega) hzb ?_; intro v2 w2 ho2 hb2)
        go_round
        case rel => exact ⟨dn ++ [UInt8.ofNat (zz % 128 + 128)], zz / 128, by go_num, by omega, Lib.hid ho2, HD2, HB1.out.trans hb2⟩
        case measure => simp [intOf]; omega
  · have hzi : 2 * n = (Z : Int) := by rw [← HZ.out]; unfold zig; rw [if_neg h0]; omega
    have HZI := Lib.hid hzi
    clear hzi
    go_enter Try.func15, Try.ntmps15
    go_wp2_with fail
    go_loopw [5, 6] (fun z o wr => ∃ (dn : List UInt8) (zz : Nat), z = .int .u64 zz ∧ zz < 18446744073709551616 ∧ Hid (wr.ownsRow w.heap.size 5 1 o dn.length (bytV dn)) ∧ Hid (dn ++ vint zz = vint Z) ∧ Below w.heap.size w wr) (fun z _ _ => (intOf z).toNat)
    case atStart => exact ⟨[], Z, by first | rw [HZI.out] | rw [Int.mul_comm, HZI.out], hzl, Lib.hid (World.ownsRow_nil w _ _ 1), Lib.hid rfl, Below.refl _ _⟩
    case round =>
      obtain ⟨dn, zz, rfl, hzz, HO, HD, hbr⟩ := hrel
      have hbz := hbr.size
      have hdl : dn.length + 1 ≤ 10 := by
        have h1 := congrArg List.length HD.out
        rw [List.length_append] at h1
        have h2 := HV10.out
        have h3 : 0 < (vint zz).length := by
          by_cases h : zz < 128
          · rw [vint_last h]; simp
          · rw [vint_more h]; simp
        omega
      have HDL := Lib.hid hdl
      clear hdl
      by_cases hlt : zz < 128
      · have hlti : (zz : Int) < 128 := by omega
        have HE := Lib.hid (show dn ++ [UInt8.ofNat zz] = vint Z by rw [← HD.out, vint_last hlt])
        have hby := ofNat_lt (show zz < 256 by omega)
        have bm := bel_mark wr (.cells #[.int .u8 (zz : Nat)] 5)
        have HAL := Lib.hid (own_below HO.out bm)
        have HRB := Lib.hid (rdB_byte wr (zz : Nat) (UInt8.ofNat zz) hby.symm)
        have hzb := Nat.le_trans hbz bm.size
        have HB1 := Lib.hid (hbr.trans (bm.mono hbz))
        clear hby bm
        go_wp2_with (at_builtin; refine append_x _ rfl _ _ rfl w.heap.size _ dn rfl HAL.out _ [UInt8.ofNat zz] _ _ rfl HRB.out (by rintro n' c' h'; cases h') (by have := HDL.out; simp; omega) hzb ?_; intro v2 w2 ho2 hb2; have HO2 := Lib.hid ho2; have B2 := HB1.out.trans hb2; have z2 := B2.size; clear ho2)
        have hw := with_any _ v2 l (dn ++ [UInt8.ofNat zz]) w2 L w.heap.size (HV.out.step B2 (Nat.le_refl _)) (RdB.of_own HO2.out (by have := HDL.out; simp; omega)) HVN.out (own_not_none HO2.out) (by have := HDL.out; simp; omega)
        rw [HE.out] at hw
        with_reducible refine hw.mono ?_
        rintro e w3 ⟨v3, rfl, ho3, hb3⟩
        go_wp2_with fail
        go_ret
        exact ⟨_, rfl, ownsRow_low ho3 z2, B2.trans (hb3.mono z2)⟩
      · have hlti : ¬ (zz : Int) < 128 := by omega
        have HD2 := Lib.hid (show (dn ++ [UInt8.ofNat (zz % 128 + 128)]) ++ vint (zz / 128) = vint Z by rw [← HD.out, vint_more hlt, List.append_assoc]; rfl)
        have hby := ofNat_lt (show zz % 128 + 128 < 256 by omega)
        have hbx : ((zz % 128 + 128 : Nat) : Int) = (zz : Int) % 128 + 128 := by omega
        rw [hbx] at hby
        have bm := bel_mark wr (.cells #[.int .u8 ((zz : Int) % 128 + 128)] 5)
        have HAL := Lib.hid (own_below HO.out bm)
        have HRB := Lib.hid (rdB_byte wr ((zz : Int) % 128 + 128) (UInt8.ofNat (zz % 128 + 128)) hby.symm)
        have hzb := Nat.le_trans hbz bm.size
        have HB1 := Lib.hid (hbr.trans (bm.mono hbz))
        clear hby bm hbx
        go_wp2_with (at_builtin; refine append_x _ rfl _ _ rfl w.heap.size _ dn rfl HAL.out _ [UInt8.ofNat (zz % 128 + 128)] _ _ rfl HRB.out (by rintro n' c' h'; cases h') (by have := HDL.out; simp; omega) hzb ?_; intro v2 w2 ho2 hb2)
        go_round
        case rel => exact ⟨dn ++ [UInt8.ofNat (zz % 128 + 128)], zz / 128, by go_num, by omega, Lib.hid ho2, HD2, HB1.out.trans hb2⟩
        case measure => simp [intOf]; omega
end Go.Proofs.Ytomiegfblhhhpaa
