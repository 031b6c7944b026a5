import Derived.Test.YtdhemhmgenhmaaaGreatQT
import Derived.WalkKit
import Derived.WalkSpells
import Derived.WalkLawsBesides
import Derived.Deep.QuietTactic
import Derived.BigQuiet
import Derived.Handy
import Derived.Lib.Hide
set_option maxRecDepth 100000
set_option maxHeartbeats 25600000
set_option linter.unusedVariables false
set_option linter.unusedSimpArgs false
/-
  Negations, conjunctions and disjunctions over the values of the arguments, by the program. Conditions: lengths.
-/
namespace Go.Proofs.YtdhemhmgenhmaaaGreat
open Go.RowKit
def logS (op t : Int) (p : Vl) : Int := if op = 5 then Va.vand t (truP p) else Va.vor t (truP p)
def logF (op t : Int) (l : List Vl) : Int := l.foldl (logS op) t
def logP (op : Int) (l : List Vl) : Int := if op = 4 then Va.vnot (truP (l.getD 0 nullP)) else logF op (truP (l.getD 0 nullP)) l.tail
theorem logF_drop (op t : Int) (l : List Vl) (k : Nat) (p : Vl) (h : l[k]? = some p) : logF op t (l.drop k) = logF op (logS op t p) (l.drop (k + 1)) := by
 obtain ⟨h1, rfl⟩ := List.getElem?_eq_some_iff.1 h
 rw [List.drop_eq_getElem_cons h1]
 rfl
theorem pLogic_any (op n k1 k2 : Int) (s nm : ByteArray) (A : Option Addr) (c : Nat) (l : List Vl) (p q : Addr) (w : World) (hA : Args w (.pointer (some p)) (.pointer (some q)) l) (hl : l.length ≤ 1099511627776) (h1 : 1 ≤ l.length) (hop : op = 4 ∨ op = 5 ∨ op = 6) :
  Calls Tryz.prog 52 #[.agg #[.int .i64 op, .int .i64 n, .int .i64 k1, .int .i64 k2, .string s, .string nm, .slice A l.length c], .func (.func 49) #[] #[.pointer (some p), .pointer (some q)]] w fun e w' => e = .returned (.int .i64 (logP op l)) ∧ Below w.heap.size w w' := by
 have HA := Lib.hid hA
 have HT := Lib.hid (fun (r : Vl) (W : World) => eTruth r W)
 have b0 := bel_mk w (.cells #[.int .i64 op, .int .i64 n, .int .i64 k1, .int .i64 k2, .string s, .string nm, .slice A l.length c] 26)
 have HB0 := Lib.hid b0
 have HO0 := Lib.hid (Own.new w 26 #[.int .i64 op, .int .i64 n, .int .i64 k1, .int .i64 k2, .string s, .string nm, .slice A l.length c])
 have hc0 := hA 0 (w.alloc (.cells #[.int .i64 op, .int .i64 n, .int .i64 k1, .int .i64 k2, .string s, .string nm, .slice A l.length c] 26)) (by omega) b0
 rw [show ((0 : Nat) : Int) = 0 from rfl] at hc0
 unfold logP
 generalize l.getD 0 nullP = l0 at *
 have HC0 := Lib.hid hc0
 clear hc0 hA b0
 rcases hop with rfl | rfl | rfl
 ·rw [if_pos rfl]
  go_enter Tryz.func52, Tryz.ntmps52
  go_wp2_with fail
  with_reducible refine HC0.out.mono ?_
  rintro e w1 ⟨rfl, hb1⟩
  have o1 := Lib.hid (HO0.out.below hb1 HO0.out.lt)
  have B1 := Lib.hid (HB0.out.trans (hb1.mono HB0.out.size))
  clear hb1 HC0
  go_wp2_with fail
  with_reducible refine (HT.out _ _).mono ?_
  rintro e w2 ⟨rfl, hb2⟩
  have o2 := o1.out.below hb2 o1.out.lt
  have x0 := o2.cell 0
  have B2 := Lib.hid (B1.out.trans (hb2.mono B1.out.size))
  clear hb2 o1 B1 o2 HO0 HB0
  go_wp2_with fail
  with_reducible refine (Va.pNot_any _ _).mono ?_
  rintro e w3 ⟨rfl, hb3⟩
  go_wp2
  go_ret
  exact ⟨rfl, B2.out.trans (hb3.mono B2.out.size)⟩
 ·rw [if_neg (by decide)]
  go_enter Tryz.func52, Tryz.ntmps52
  go_wp2_with fail
  with_reducible refine HC0.out.mono ?_
  rintro e w1 ⟨rfl, hb1⟩
  have o1 := Lib.hid (HO0.out.below hb1 HO0.out.lt)
  have B1 := Lib.hid (HB0.out.trans (hb1.mono HB0.out.size))
  clear hb1 HC0
  go_wp2_with fail
  with_reducible refine (HT.out _ _).mono ?_
  rintro e w2 ⟨rfl, hb2⟩
  have o2 := o1.out.below hb2 o1.out.lt
  have x0 := o2.cell 0
  have HO2 := Lib.hid o2
  have B2 := Lib.hid (B1.out.trans (hb2.mono B1.out.size))
  clear hb2 o1 B1 o2 HO0 HB0
  go_wp2_with fail
  clear x0
  go_loopw [5, 7] (fun t i wr => ∃ (k : Nat) (tv : Int), 1 ≤ k ∧ k ≤ l.length ∧ i = .int .i64 k ∧ t = .int .i64 tv ∧ Hid (logF 5 (truP l0) l.tail = logF 5 tv (l.drop k)) ∧ Hid (Own wr w.heap.size 26 #[.int .i64 5, .int .i64 n, .int .i64 k1, .int .i64 k2, .string s, .string nm, .slice A l.length c]) ∧ Below w.heap.size w wr) (fun _ i _ => l.length - (intOf i).toNat)
  case atStart => exact ⟨1, _, Nat.le_refl _, by omega, rfl, rfl, Lib.hid (by rw [List.drop_one]), HO2, B2.out⟩
  case round =>
   obtain ⟨k, tv, hk1, hk, rfl, rfl, HR, HO, hbr⟩ := hrel
   have hbz := hbr.size
   have x6 := HO.out.cell 6
   clear HO2 B2
   by_cases hlt : k < l.length
   ·have hki : (k : Int) < l.length := by omega
    have hcall := HA.out k wr hlt hbr
    have hdr := logF_drop 5 tv l k _ (List.getElem?_eq_getElem hlt)
    rw [← HR.out] at hdr
    rw [show l.getD k nullP = l[k] by simp [List.getD, List.getElem?_eq_getElem hlt]] at hcall
    generalize l[k] = p1 at *
    have HC := Lib.hid hcall
    have HD := Lib.hid hdr
    clear hcall hdr HR
    go_wp2_with fail
    with_reducible refine HC.out.mono ?_
    rintro e w3 ⟨rfl, hb1⟩
    have o1 := Lib.hid (HO.out.below hb1 HO.out.lt)
    have B1 := Lib.hid (hbr.trans (hb1.mono hbz))
    clear hb1 HC x6
    go_wp2_with fail
    with_reducible refine (HT.out _ _).mono ?_
    rintro e w4 ⟨rfl, hb2⟩
    have o2 := Lib.hid (o1.out.below hb2 o1.out.lt)
    have B2 := Lib.hid (B1.out.trans (hb2.mono B1.out.size))
    clear hb2 o1 B1
    go_wp2_with fail
    with_reducible refine (Va.pAnd_any _ _ _).mono ?_
    rintro e w5 ⟨rfl, hb3⟩
    have o3 := Lib.hid (o2.out.below hb3 o2.out.lt)
    have B3 := Lib.hid (B2.out.trans (hb3.mono B2.out.size))
    clear hb3 o2 B2
    have HD2 := Lib.hid (show logF 5 (truP l0) l.tail = logF 5 (Va.vand tv (truP p1)) (l.drop (k + 1)) by rw [HD.out]; rfl)
    clear HD
    go_wp2
    go_round
    case rel => exact ⟨k + 1, _, by omega, by omega, by go_num, rfl, HD2, o3, B3.out⟩
    case measure => simp [intOf]; omega
   ·have hki : ¬ (k : Int) < l.length := by omega
    have HF := Lib.hid (show logF 5 (truP l0) l.tail = tv by rw [HR.out, List.drop_eq_nil_of_le (by omega)]; rfl)
    clear HR
    go_wp2
    go_ret
    exact ⟨by rw [HF.out]; rfl, hbr⟩
 ·rw [if_neg (by decide)]
  go_enter Tryz.func52, Tryz.ntmps52
  go_wp2_with fail
  with_reducible refine HC0.out.mono ?_
  rintro e w1 ⟨rfl, hb1⟩
  have o1 := Lib.hid (HO0.out.below hb1 HO0.out.lt)
  have B1 := Lib.hid (HB0.out.trans (hb1.mono HB0.out.size))
  clear hb1 HC0
  go_wp2_with fail
  with_reducible refine (HT.out _ _).mono ?_
  rintro e w2 ⟨rfl, hb2⟩
  have o2 := o1.out.below hb2 o1.out.lt
  have x0 := o2.cell 0
  have HO2 := Lib.hid o2
  have B2 := Lib.hid (B1.out.trans (hb2.mono B1.out.size))
  clear hb2 o1 B1 o2 HO0 HB0
  go_wp2_with fail
  clear x0
  go_loopw [5, 7] (fun t i wr => ∃ (k : Nat) (tv : Int), 1 ≤ k ∧ k ≤ l.length ∧ i = .int .i64 k ∧ t = .int .i64 tv ∧ Hid (logF 6 (truP l0) l.tail = logF 6 tv (l.drop k)) ∧ Hid (Own wr w.heap.size 26 #[.int .i64 6, .int .i64 n, .int .i64 k1, .int .i64 k2, .string s, .string nm, .slice A l.length c]) ∧ Below w.heap.size w wr) (fun _ i _ => l.length - (intOf i).toNat)
  case atStart => exact ⟨1, _, Nat.le_refl _, by omega, rfl, rfl, Lib.hid (by rw [List.drop_one]), HO2, B2.out⟩
  case round =>
   obtain ⟨k, tv, hk1, hk, rfl, rfl, HR, HO, hbr⟩ := hrel
   have hbz := hbr.size
   have x6 := HO.out.cell 6
   clear HO2 B2
   by_cases hlt : k < l.length
   ·have hki : (k : Int) < l.length := by omega
    have hcall := HA.out k wr hlt hbr
    have hdr := logF_drop 6 tv l k _ (List.getElem?_eq_getElem hlt)
    rw [← HR.out] at hdr
    rw [show l.getD k nullP = l[k] by simp [List.getD, List.getElem?_eq_getElem hlt]] at hcall
    generalize l[k] = p1 at *
    have HC := Lib.hid hcall
    have HD := Lib.hid hdr
    clear hcall hdr HR
    go_wp2_with fail
    with_reducible refine HC.out.mono ?_
    rintro e w3 ⟨rfl, hb1⟩
    have o1 := Lib.hid (HO.out.below hb1 HO.out.lt)
    have B1 := Lib.hid (hbr.trans (hb1.mono hbz))
    clear hb1 HC x6
    go_wp2_with fail
    with_reducible refine (HT.out _ _).mono ?_
    rintro e w4 ⟨rfl, hb2⟩
    have o2 := Lib.hid (o1.out.below hb2 o1.out.lt)
    have B2 := Lib.hid (B1.out.trans (hb2.mono B1.out.size))
    clear hb2 o1 B1
    go_wp2_with fail
    with_reducible refine (Va.pOr_any _ _ _).mono ?_
    rintro e w5 ⟨rfl, hb3⟩
    have o3 := Lib.hid (o2.out.below hb3 o2.out.lt)
    have B3 := Lib.hid (B2.out.trans (hb3.mono B2.out.size))
    clear hb3 o2 B2
    have HD2 := Lib.hid (show logF 6 (truP l0) l.tail = logF 6 (Va.vor tv (truP p1)) (l.drop (k + 1)) by rw [HD.out]; rfl)
    clear HD
    go_wp2
    go_round
    case rel => exact ⟨k + 1, _, by omega, by omega, by go_num, rfl, HD2, o3, B3.out⟩
    case measure => simp [intOf]; omega
   ·have hki : ¬ (k : Int) < l.length := by omega
    have HF := Lib.hid (show logF 6 (truP l0) l.tail = tv by rw [HR.out, List.drop_eq_nil_of_le (by omega)]; rfl)
    clear HR
    go_wp2
    go_ret
    exact ⟨by rw [HF.out]; rfl, hbr⟩
end Go.Proofs.YtdhemhmgenhmaaaGreat
