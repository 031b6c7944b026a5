import Derived.Test.YtdhemhmgenhmaaaGreatPV
import Derived.Test.YtdhemhmgenhmaaaGreatMW
import Derived.Deep.DeepCutAuto
import Derived.WalkKit
import Derived.WalkSpells
import Derived.WalkLawsBesides
import Derived.Deep.QuietTactic
import Derived.BigQuiet
import Derived.Handy
import Derived.Lib.Hide
set_option maxRecDepth 100000
set_option maxHeartbeats 25600000
set_option linter.unusedVariables false
set_option linter.unusedSimpArgs false
/-
  What a comparison of a column with a constant states: condition. Conditions: lengths.
-/
namespace Go.Proofs.YtdhemhmgenhmaaaGreat
open Go.RowKit
def cndV : Option Cnd → Value
 | none => .agg #[.int .i64 0, .int .i64 0, .int .i64 0, .int .i64 0, .string ⟨#[]⟩]
 | some c => .agg #[.int .i64 c.op, .int .i64 c.col, .int .i64 c.v.1, .int .i64 c.v.2.1, .string c.v.2.2]
theorem pIsC_any (op : Int) (w : World) : Calls Tryz.prog 115 #[.int .i64 op] w fun e w' => e = .returned (.bool (cmqO op)) ∧ Below w.heap.size w w' := by
 unfold cmqO
 by_cases h1 : op = 7
 ·subst h1; go_enter Tryz.func115, Tryz.ntmps115; go_wp2; go_ret; exact ⟨rfl, Below.refl _ _⟩
 by_cases h2 : op = 9
 ·subst h2; go_enter Tryz.func115, Tryz.ntmps115; go_wp2; go_ret; exact ⟨rfl, Below.refl _ _⟩
 by_cases h3 : op = 10
 ·subst h3; go_enter Tryz.func115, Tryz.ntmps115; go_wp2; go_ret; exact ⟨rfl, Below.refl _ _⟩
 by_cases h4 : op = 11
 ·subst h4; go_enter Tryz.func115, Tryz.ntmps115; go_wp2; go_ret; exact ⟨rfl, Below.refl _ _⟩
 by_cases h5 : op = 12
 ·subst h5; go_enter Tryz.func115, Tryz.ntmps115; go_wp2; go_ret; exact ⟨rfl, Below.refl _ _⟩
 have b1 : (op == 7) = false := by rw [beq_eq_false_iff_ne]; exact h1
 have b2 : (op == 9) = false := by rw [beq_eq_false_iff_ne]; exact h2
 have b3 : (op == 10) = false := by rw [beq_eq_false_iff_ne]; exact h3
 have b4 : (op == 11) = false := by rw [beq_eq_false_iff_ne]; exact h4
 have b5 : (op == 12) = false := by rw [beq_eq_false_iff_ne]; exact h5
 go_enter Tryz.func115, Tryz.ntmps115; go_wp2; go_ret; exact ⟨by simp [b1, b2, b3, b4, b5], Below.refl _ _⟩
theorem pMir_any (op : Int) (w : World) : Calls Tryz.prog 116 #[.int .i64 op] w fun e w' => e = .returned (.int .i64 (mirO op)) ∧ Below w.heap.size w w' := by
 unfold mirO
 by_cases h2 : op = 9
 ·subst h2; go_enter Tryz.func116, Tryz.ntmps116; go_wp2; go_ret; exact ⟨rfl, Below.refl _ _⟩
 by_cases h3 : op = 10
 ·subst h3; go_enter Tryz.func116, Tryz.ntmps116; go_wp2; go_ret; exact ⟨rfl, Below.refl _ _⟩
 by_cases h4 : op = 11
 ·subst h4; go_enter Tryz.func116, Tryz.ntmps116; go_wp2; go_ret; exact ⟨rfl, Below.refl _ _⟩
 by_cases h5 : op = 12
 ·subst h5; go_enter Tryz.func116, Tryz.ntmps116; go_wp2; go_ret; exact ⟨rfl, Below.refl _ _⟩
 have b2 : (op == 9) = false := by rw [beq_eq_false_iff_ne]; exact h2
 have b3 : (op == 10) = false := by rw [beq_eq_false_iff_ne]; exact h3
 have b4 : (op == 11) = false := by rw [beq_eq_false_iff_ne]; exact h4
 have b5 : (op == 12) = false := by rw [beq_eq_false_iff_ne]; exact h5
 go_enter Tryz.func116, Tryz.ntmps116; go_wp2; go_ret; exact ⟨by simp [h2, h3, h4, h5], Below.refl _ _⟩
theorem load_cnd {w : World} {g : Nat} {a b c d e : Value} (ho : Own w g 64 #[a, b, c, d, e]) : (loadVar 64 ⟨g, 0, none⟩).run Tryz.prog w = .ok (.agg #[a, b, c, d, e]) w :=
 run_loadVar_row w g 64 64 #[a, b, c, d, e] (0, 0) _ ho Tryz.underlying64 rfl (by kernel_rfl)
theorem eqV_nul (v : Vl) : Va.eqV v.1 v.2.1 v.2.2 0 0 ⟨#[]⟩ = true ↔ v = nullP := by
 obtain ⟨k, n, s⟩ := v
 unfold Va.eqV nullP
 simp only [Bool.and_eq_true, beq_iff_eq, Prod.mk.injEq]
 constructor
 ·rintro ⟨h1, h2, h3⟩
  exact ⟨h1, h2, mk_ext (by rw [← Lib.toList_data, ← Lib.toList_data]; exact h3)⟩
 ·rintro ⟨h1, h2, h3⟩
  exact ⟨h1, h2, by rw [h3]⟩
def BoxK (w : World) (w0 : Nat) (op : Int) (a b : ExU) (s4 s5 s6 : Value) (x : World) : Prop :=
 s4 = .int .i64 op ∧ ∃ g5 g6, s5 = .pointer (some ⟨g5, 0, none⟩) ∧ s6 = .pointer (some ⟨g6, 0, none⟩) ∧ g5 ≠ g6 ∧ w0 + 1 < g5 ∧ w0 + 1 < g6 ∧ Own x g5 26 #[.int .i64 a.1.op, .int .i64 a.1.n, .int .i64 a.1.v.1, .int .i64 a.1.v.2.1, .string a.1.v.2.2, .string a.1.nm, a.2] ∧
  Own x g6 26 #[.int .i64 b.1.op, .int .i64 b.1.n, .int .i64 b.1.v.1, .int .i64 b.1.v.2.1, .string b.1.v.2.2, .string b.1.nm, b.2] ∧ Own x (w0 + 1) 64 #[.int .i64 0, .int .i64 0, .int .i64 0, .int .i64 0, .string ⟨#[]⟩] ∧ Below w0 w x
def selK (op : Int) (a b : ExU) : Int × ExU × ExU := if a.1.op = 1 then (mirO op, b, a) else (op, a, b)
def BoxL (w : World) (w0 g5 g6 : Nat) (r : Int × ExU × ExU) (s4 : Value) (x : World) : Prop :=
 s4 = .int .i64 r.1 ∧ Own x g5 26 #[.int .i64 r.2.1.1.op, .int .i64 r.2.1.1.n, .int .i64 r.2.1.1.v.1, .int .i64 r.2.1.1.v.2.1, .string r.2.1.1.v.2.2, .string r.2.1.1.nm, r.2.1.2] ∧ Own x g6 26 #[.int .i64 r.2.2.1.op, .int .i64 r.2.2.1.n, .int .i64 r.2.2.1.v.1, .int .i64 r.2.2.1.v.2.1, .string r.2.2.1.v.2.2, .string r.2.2.1.nm, r.2.2.2] ∧ Own x (w0 + 1) 64 #[.int .i64 0, .int .i64 0, .int .i64 0, .int .i64 0, .string ⟨#[]⟩] ∧ Below w0 w x
theorem cond_sel (op n : Int) (v : Vl) (nm : ByteArray) (a b : ExU) (h : cmqO op = true) : condE ⟨op, n, v, nm, [a.1, b.1]⟩ = cndO (selK op a b).1 (selK op a b).2.1.1 (selK op a b).2.2.1 := by
 unfold condE selK
 dsimp only
 rw [if_pos h]
 by_cases h1 : a.1.op = 1
 ·rw [if_pos h1, if_pos h1]
 ·rw [if_neg h1, if_neg h1]
theorem boxL_swap {w w2 : World} {w0 g5 g6 : Nat} {a b : Ex} {Aa Ab : Option Addr} {ca cb : Nat} {mo : Int} (ha : a.op = 1) (hne : g5 ≠ g6) (l5 : w0 + 1 < g5) (l6 : w0 + 1 < g6) (H5 : Own w2 g5 26 #[.int .i64 a.op, .int .i64 a.n, .int .i64 a.v.1, .int .i64 a.v.2.1, .string a.v.2.2, .string a.nm, .slice Aa a.args.length ca]) (H6 : Own w2 g6 26 #[.int .i64 b.op, .int .i64 b.n, .int .i64 b.v.1, .int .i64 b.v.2.1, .string b.v.2.2, .string b.nm, .slice Ab b.args.length cb]) (HR : Own w2 (w0 + 1) 64 #[.int .i64 0, .int .i64 0, .int .i64 0, .int .i64 0, .string ⟨#[]⟩]) (HB : Below w0 w w2) :
  BoxL w w0 g5 g6 (mo, ((b, .slice Ab b.args.length cb) : ExU), ((a, .slice Aa a.args.length ca) : ExU)) (.int .i64 mo) ((((((((((((((w2.setCell ⟨g5, 0, none⟩ (.int .i64 b.op)).setCell ⟨g5, 1, none⟩ (.int .i64 b.n)).setCell ⟨g5, 2, none⟩ (.int .i64 b.v.1)).setCell ⟨g5, 3, none⟩ (.int .i64 b.v.2.1)).setCell ⟨g5, 4, none⟩ (.string b.v.2.2)).setCell ⟨g5, 5, none⟩ (.string b.nm)).setCell ⟨g5, 6, none⟩ (.slice Ab b.args.length cb)).setCell ⟨g6, 0, none⟩ (.int .i64 1)).setCell ⟨g6, 1, none⟩ (.int .i64 a.n)).setCell ⟨g6, 2, none⟩ (.int .i64 a.v.1)).setCell ⟨g6, 3, none⟩ (.int .i64 a.v.2.1)).setCell ⟨g6, 4, none⟩ (.string a.v.2.2)).setCell ⟨g6, 5, none⟩ (.string a.nm)).setCell ⟨g6, 6, none⟩ (.slice Aa a.args.length ca)) := by
 refine ⟨rfl, ?_, ?_, ((((((((((((((HR.far (p := ⟨g5, 0, none⟩) (by show (w0 + 1) ≠ g5; omega) _).far (p := ⟨g5, 1, none⟩) (by show (w0 + 1) ≠ g5; omega) _).far (p := ⟨g5, 2, none⟩) (by show (w0 + 1) ≠ g5; omega) _).far (p := ⟨g5, 3, none⟩) (by show (w0 + 1) ≠ g5; omega) _).far (p := ⟨g5, 4, none⟩) (by show (w0 + 1) ≠ g5; omega) _).far (p := ⟨g5, 5, none⟩) (by show (w0 + 1) ≠ g5; omega) _).far (p := ⟨g5, 6, none⟩) (by show (w0 + 1) ≠ g5; omega) _).far (p := ⟨g6, 0, none⟩) (by show (w0 + 1) ≠ g6; omega) _).far (p := ⟨g6, 1, none⟩) (by show (w0 + 1) ≠ g6; omega) _).far (p := ⟨g6, 2, none⟩) (by show (w0 + 1) ≠ g6; omega) _).far (p := ⟨g6, 3, none⟩) (by show (w0 + 1) ≠ g6; omega) _).far (p := ⟨g6, 4, none⟩) (by show (w0 + 1) ≠ g6; omega) _).far (p := ⟨g6, 5, none⟩) (by show (w0 + 1) ≠ g6; omega) _).far (p := ⟨g6, 6, none⟩) (by show (w0 + 1) ≠ g6; omega) _), ((((((((((((((HB.sc g5 0 _).sc g5 1 _).sc g5 2 _).sc g5 3 _).sc g5 4 _).sc g5 5 _).sc g5 6 _).sc g6 0 _).sc g6 1 _).sc g6 2 _).sc g6 3 _).sc g6 4 _).sc g6 5 _).sc g6 6 _)⟩
 ·have h := ((((((((((((((H5.store 0 (.int .i64 b.op)).store 1 (.int .i64 b.n)).store 2 (.int .i64 b.v.1)).store 3 (.int .i64 b.v.2.1)).store 4 (.string b.v.2.2)).store 5 (.string b.nm)).store 6 (.slice Ab b.args.length cb)).far (p := ⟨g6, 0, none⟩) (by show g5 ≠ g6; omega) (.int .i64 1)).far (p := ⟨g6, 1, none⟩) (by show g5 ≠ g6; omega) (.int .i64 a.n)).far (p := ⟨g6, 2, none⟩) (by show g5 ≠ g6; omega) (.int .i64 a.v.1)).far (p := ⟨g6, 3, none⟩) (by show g5 ≠ g6; omega) (.int .i64 a.v.2.1)).far (p := ⟨g6, 4, none⟩) (by show g5 ≠ g6; omega) (.string a.v.2.2)).far (p := ⟨g6, 5, none⟩) (by show g5 ≠ g6; omega) (.string a.nm)).far (p := ⟨g6, 6, none⟩) (by show g5 ≠ g6; omega) (.slice Aa a.args.length ca))
  simp only [List.setIfInBounds_toArray, List.set_cons_zero, List.set_cons_succ] at h
  exact h
 ·have h := ((((((((((((((H6.far (p := ⟨g5, 0, none⟩) (by show g6 ≠ g5; omega) (.int .i64 b.op)).far (p := ⟨g5, 1, none⟩) (by show g6 ≠ g5; omega) (.int .i64 b.n)).far (p := ⟨g5, 2, none⟩) (by show g6 ≠ g5; omega) (.int .i64 b.v.1)).far (p := ⟨g5, 3, none⟩) (by show g6 ≠ g5; omega) (.int .i64 b.v.2.1)).far (p := ⟨g5, 4, none⟩) (by show g6 ≠ g5; omega) (.string b.v.2.2)).far (p := ⟨g5, 5, none⟩) (by show g6 ≠ g5; omega) (.string b.nm)).far (p := ⟨g5, 6, none⟩) (by show g6 ≠ g5; omega) (.slice Ab b.args.length cb)).store 0 (.int .i64 1)).store 1 (.int .i64 a.n)).store 2 (.int .i64 a.v.1)).store 3 (.int .i64 a.v.2.1)).store 4 (.string a.v.2.2)).store 5 (.string a.nm)).store 6 (.slice Aa a.args.length ca))
  simp only [List.setIfInBounds_toArray, List.set_cons_zero, List.set_cons_succ] at h
  dsimp only
  rw [ha]
  exact h
theorem pCnd_two (op n k1 k2 : Int) (s nm : ByteArray) (a b : Ex) (A : Option Addr) (c : Nat) (w : World) (L d : Nat) (h : RdE w L w.heap.size (d + 1) (.slice A 2 c) [a, b]) (ho : cmqO op = true) :
  Calls Tryz.prog 86 #[.agg #[.int .i64 op, .int .i64 n, .int .i64 k1, .int .i64 k2, .string s, .string nm, .slice A 2 c]] w fun e' w' => e' = .returned (.tuple #[cndV (condE ⟨op, n, (k1, k2, s), nm, [a, b]⟩), .bool (condE ⟨op, n, (k1, k2, s), nm, [a, b]⟩).isSome]) ∧ Below w.heap.size w w' := by
 have HI := Lib.hid (fun W => by have h := pIsC_any op W; rw [ho] at h; exact h)
 obtain ⟨A', c', hv', _, hc⟩ := h
 obtain ⟨ad, ua, rfl, _, hab, hxa, hra⟩ := hc 0 a rfl
 obtain ⟨ad2, ub, hA2, _, _, hxb, hrb⟩ := hc 1 b rfl
 injection hv' with hv1 hv2 hv3
 subst hv1 hv3
 injection hA2 with hA2
 subst hA2
 obtain ⟨Aa, ca, rfl, _⟩ := hra.slice
 obtain ⟨Ab, cb, rfl, _⟩ := hrb.slice
 rw [show (0 : Nat) * 7 = 0 from rfl, show ad.add 0 = ad by unfold Addr.add; simp] at hxa
 rw [show (1 : Nat) * 7 = 7 from rfl, show ad.add 7 = ⟨ad.block, ad.off + 7, none⟩ by unfold Addr.add; simp] at hxb
 have HE0 := Lib.hid (show Own ((w.alloc (.cells #[.int .i64 op, .int .i64 n, .int .i64 k1, .int .i64 k2, .string s, .string nm, .slice (some ad) 2 c] 26)).alloc (.cells #[.int .i64 0, .int .i64 0, .int .i64 0, .int .i64 0, .string ⟨#[]⟩] 64)) w.heap.size 26 #[.int .i64 op, .int .i64 n, .int .i64 k1, .int .i64 k2, .string s, .string nm, .slice (some ad) 2 c] from (Own.new w _ _).alloc _)
 have HO0 := Lib.hid (show Own ((w.alloc (.cells #[.int .i64 op, .int .i64 n, .int .i64 k1, .int .i64 k2, .string s, .string nm, .slice (some ad) 2 c] 26)).alloc (.cells #[.int .i64 0, .int .i64 0, .int .i64 0, .int .i64 0, .string ⟨#[]⟩] 64)) (w.heap.size + 1) 64 #[.int .i64 0, .int .i64 0, .int .i64 0, .int .i64 0, .string ⟨#[]⟩] from Va.own_two _)
 have HB0 := Lib.hid (show Below w.heap.size w ((w.alloc (.cells #[.int .i64 op, .int .i64 n, .int .i64 k1, .int .i64 k2, .string s, .string nm, .slice (some ad) 2 c] 26)).alloc (.cells #[.int .i64 0, .int .i64 0, .int .i64 0, .int .i64 0, .string ⟨#[]⟩] 64)) from (bel_mk w _).trans ((bel_mk _ _).mono (by simp)))
 have HXA := Lib.hid hxa
 have HXB := Lib.hid hxb
 clear hxa hxb hra hrb hc
 rw [show condE ⟨op, n, (k1, k2, s), nm, [a, b]⟩ = cndO (selK op (a, .slice Aa a.args.length ca) (b, .slice Ab b.args.length cb)).1 (selK op (a, .slice Aa a.args.length ca) (b, .slice Ab b.args.length cb)).2.1.1 (selK op (a, .slice Aa a.args.length ca) (b, .slice Ab b.args.length cb)).2.2.1 from cond_sel op n (k1, k2, s) nm (a, .slice Aa a.args.length ca) (b, .slice Ab b.args.length cb) ho]
 generalize hsel : selK op (a, .slice Aa a.args.length ca) (b, .slice Ab b.args.length cb) = r
 have HSL := Lib.hid hsel
 clear hsel
 go_enter Tryz.func86, Tryz.ntmps86
 go_wp2_with fail
 with_reducible refine (HI.out _).mono ?_
 rintro e w1 ⟨rfl, hb1⟩
 have HE1 := Lib.hid (HE0.out.below hb1 HE0.out.lt)
 have HO1 := Lib.hid (HO0.out.below hb1 HO0.out.lt)
 have HB1 := Lib.hid (HB0.out.trans (hb1.mono HB0.out.size))
 clear hb1 HE0 HO0 HB0
 have e0 := HE1.out.cell 0
 have e6 := HE1.out.cell 6
 obtain ⟨x0, x1, x2, x3, x4, x5, x6⟩ := HXA.out.below HB1.out hab
 obtain ⟨y0, y1, y2, y3, y4, y5, y6⟩ := HXB.out.below HB1.out hab
 have hlt1 := HO1.out.lt
 have hlt0 := HE1.out.lt
 have habw : ad.block < w1.heap.size := Nat.lt_of_lt_of_le hab HB1.out.size
 go_wp2_with fail
 go_cut [4, 5, 6] (fun s4 s5 s6 x => BoxK w w.heap.size op (a, .slice Aa a.args.length ca) (b, .slice Ab b.args.length cb) s4 s5 s6 x)
 case first =>
  go_region
  ·go_wp2_with fail
   go_meet
   exact ⟨rfl, w1.heap.size, w1.heap.size + 1, rfl, rfl, by omega, by omega, by omega, (Own.new w1 _ _).alloc _, Va.own_two _, (HO1.out.alloc _).alloc _, ((HB1.out.trans ((bel_mk w1 _).mono HB1.out.size)).trans ((bel_mk _ _).mono (by have := HB1.out.size; simp only [World.size_alloc]; omega))).drew⟩
  ·go_wp2_with fail
   go_meet
   exact ⟨rfl, w1.heap.size + 1, w1.heap.size, rfl, rfl, by omega, by omega, by omega, Va.own_two _, (Own.new w1 _ _).alloc _, (HO1.out.alloc _).alloc _, ((HB1.out.trans ((bel_mk w1 _).mono HB1.out.size)).trans ((bel_mk _ _).mono (by have := HB1.out.size; simp only [World.size_alloc]; omega))).drew⟩
 case rest =>
  clear x0 x1 x2 x3 x4 x5 x6 y0 y1 y2 y3 y4 y5 y6 e0 e6 HE1 HO1 HB1 hlt1 hlt0 habw HXA HXB HI
  unfold BoxK at hcut
  dsimp only at hcut
  obtain ⟨rfl, g5, g6, rfl, rfl, hne, l5, l6, O5, O6, OR, HBx⟩ := hcut
  have hne2 : g6 ≠ g5 := fun e => hne e.symm
  have HO5 := Lib.hid O5
  have HO6 := Lib.hid O6
  have HOR := Lib.hid OR
  have HBX := Lib.hid HBx
  clear O5 O6 OR HBx
  have q0 := HO5.out.cell 0
  go_upto_if 31 with fail
  go_cut [4] (fun s4 x => BoxL w w.heap.size g5 g6 r s4 x)
  case first =>
   by_cases ha : a.op = 1
   ·have HR2 := Lib.hid (show r = (mirO op, ((b, .slice Ab b.args.length cb) : ExU), ((a, .slice Aa a.args.length ca) : ExU)) from HSL.out.symm.trans (if_pos ha))
    have HM := Lib.hid (fun W => pMir_any op W)
    generalize mirO op = mo at *
    have q1 := HO5.out.cell 1
    have q2 := HO5.out.cell 2
    have q3 := HO5.out.cell 3
    have q4 := HO5.out.cell 4
    have q5 := HO5.out.cell 5
    have q6 := HO5.out.cell 6
    have r0 := HO6.out.cell 0
    have r1 := HO6.out.cell 1
    have r2 := HO6.out.cell 2
    have r3 := HO6.out.cell 3
    have r4 := HO6.out.cell 4
    have r5 := HO6.out.cell 5
    have r6 := HO6.out.cell 6
    have HD5 := Lib.hid (show Own wc.drew g5 _ _ from HO5.out)
    have HD6 := Lib.hid (show Own wc.drew g6 _ _ from HO6.out)
    have HDR := Lib.hid (show Own wc.drew (w.heap.size + 1) _ _ from HOR.out)
    have HDB := Lib.hid (HBX.out.drew)
    clear HO5 HO6 HOR HBX HSL
    go_wp2_with fail
    go_region_law (first
     | (go_simp; go_at_call 116; with_reducible refine (HM.out _).mono ?_; rintro e w2 ⟨rfl, hb2⟩; have H5 := Lib.hid (HD5.out.below hb2 HD5.out.lt); have H6 := Lib.hid (HD6.out.below hb2 HD6.out.lt); have HR3 := Lib.hid (HDR.out.below hb2 HDR.out.lt); have HB3 := Lib.hid (HDB.out.trans (hb2.mono HDB.out.size)); have u0 := H5.out.cell 0; have u1 := H5.out.cell 1; have u2 := H5.out.cell 2; have u3 := H5.out.cell 3; have u4 := H5.out.cell 4; have u5 := H5.out.cell 5; have u6 := H5.out.cell 6; have v0 := H6.out.cell 0; have v1 := H6.out.cell 1; have v2 := H6.out.cell 2; have v3 := H6.out.cell 3; have v4 := H6.out.cell 4; have v5 := H6.out.cell 5; have v6 := H6.out.cell 6; have m0 := H5.out.free 0; have m1 := H5.out.free 1; have m2 := H5.out.free 2; have m3 := H5.out.free 3; have m4 := H5.out.free 4; have m5 := H5.out.free 5; have m6 := H5.out.free 6; have n0 := H6.out.free 0; have n1 := H6.out.free 1; have n2 := H6.out.free 2; have n3 := H6.out.free 3; have n4 := H6.out.free 4; have n5 := H6.out.free 5; have n6 := H6.out.free 6; clear hb2))
    all_goals
     go_wp2_with fail
     go_meet
     rw [HR2.out]
     exact boxL_swap ha hne l5 l6 H5.out H6.out HR3.out HB3.out
   ·have HR2 := Lib.hid (show r = (op, ((a, .slice Aa a.args.length ca) : ExU), ((b, .slice Ab b.args.length cb) : ExU)) from HSL.out.symm.trans (if_neg ha))
    have hab1 : (a.op == 1) = false := by rw [beq_eq_false_iff_ne]; exact ha
    go_wp2_with fail
    go_meet
    unfold BoxL
    rw [HR2.out]
    exact ⟨rfl, HO5.out, HO6.out, HOR.out, HBX.out⟩
  case rest =>
   unfold BoxL at hcut
   obtain ⟨rfl, O5, O6, OR, HBx⟩ := hcut
   have HP5 := Lib.hid O5
   have HP6 := Lib.hid O6
   have HPR := Lib.hid OR
   have HPB := Lib.hid HBx
   clear O5 O6 OR HBx q0 HO5 HO6 HOR HBX HSL
   obtain ⟨op', ⟨c, uc⟩, ⟨x, ux⟩⟩ := r
   dsimp only at *
   obtain ⟨c0, c1, ⟨c2, c3, c4⟩, c5, c6⟩ := c
   obtain ⟨x0, x1, ⟨x2, x3, x4⟩, x5, x6⟩ := x
   dsimp only at *
   go_upto_region 6 with fail
   go_cut [7] (fun s7 x => ∃ kn : Bool, s7 = .bool kn ∧ (kn = true ↔ vldP (x2, x3, x4) = true ∧ ((x2, x3, x4) : Vl) ≠ nullP) ∧ Own x g5 26 #[.int .i64 c0, .int .i64 c1, .int .i64 c2, .int .i64 c3, .string c4, .string c5, uc] ∧ Own x g6 26 #[.int .i64 x0, .int .i64 x1, .int .i64 x2, .int .i64 x3, .string x4, .string x5, ux] ∧ Own x (w.heap.size + 1) 64 #[.int .i64 0, .int .i64 0, .int .i64 0, .int .i64 0, .string ⟨#[]⟩] ∧ Below w.heap.size w x)
   case first =>
    have hg6lt := HP6.out.lt
    obtain ⟨y0, y1, y2, y3, y4, y5, y6⟩ := ex_cells (e := ⟨x0, x1, (x2, x3, x4), x5, x6⟩) (u := ux) hg6lt HP6.out
    have HN := Lib.hid (fun W => show Calls Tryz.prog 14 #[] W fun e w' => e = .returned (.agg #[.int .i64 0, .int .i64 0, .string ⟨#[]⟩]) ∧ Below W.heap.size W w' from eNull W)
    clear hg6lt
    cases hv : vldP (x2, x3, x4)
    ·have HV := Lib.hid (fun W => show Calls Tryz.prog 95 #[.agg #[.int .i64 x2, .int .i64 x3, .string x4]] W fun e w' => e = .returned (.bool false) ∧ Below W.heap.size W w' from by
      have h := Va.pValid_any x2 x3 x4 W
      rw [show Va.vldV x2 x3 x4 = false from hv] at h
      exact h)
     go_wp2_with fail
     (refine wp_region_after (by kernel_rfl) (by kernel_rfl) ?_; (repeat (go_big_quiet_step ((first | (go_at_call 95; exact calls_after (HV.out _)) | (go_at_call 14; exact calls_after (HN.out _)))))); refine wpQuiet_nil ?_; intro wq hw0; obtain ⟨⟨wq0, hbq⟩, hw1⟩ := hw0; subst hw1; (try dsimp only))
     go_wp2_with fail
     go_meet
     exact ⟨_, rfl, ⟨fun h => (by cases h), fun h => (by rw [hv] at h; cases h.1)⟩, HP5.out.below hbq HP5.out.lt, HP6.out.below hbq HP6.out.lt, HPR.out.below hbq HPR.out.lt, HPB.out.trans (hbq.mono HPB.out.size)⟩
    ·have HV := Lib.hid (fun W => show Calls Tryz.prog 95 #[.agg #[.int .i64 x2, .int .i64 x3, .string x4]] W fun e w' => e = .returned (.bool true) ∧ Below W.heap.size W w' from by
      have h := Va.pValid_any x2 x3 x4 W
      rw [show Va.vldV x2 x3 x4 = true from hv] at h
      exact h)
     cases hn0 : Va.eqV x2 x3 x4 0 0 ⟨#[]⟩
     all_goals
      have HEQ := Lib.hid hn0
      have hq := fun W => Va.neq_val x2 x3 x4 0 0 ⟨#[]⟩ W
      rw [hn0] at hq
      clear hn0
      go_wp2_with fail
      (refine wp_region_after (by kernel_rfl) (by kernel_rfl) ?_; (repeat (go_big_quiet_step ((first | (go_at_call 95; exact calls_after (HV.out _)) | (go_at_call 14; exact calls_after (HN.out _)))))); refine wpQuiet_nil ?_; intro wq hw0; obtain ⟨⟨wq0, hbq⟩, hw1⟩ := hw0; subst hw1; (try dsimp only))
      go_wp2_with fail
      go_meet
      exact ⟨_, rfl, ⟨fun h => ⟨hv, fun e => (by first | (have h2 := (eqV_nul (x2, x3, x4)).2 e; have h3 := HEQ.out; dsimp only at h2; rw [h2] at h3; cases h3; done) | (cases h; done))⟩, fun h => (by first | rfl | exact absurd ((eqV_nul (x2, x3, x4)).1 HEQ.out) h.2)⟩, HP5.out.below hbq HP5.out.lt, HP6.out.below hbq HP6.out.lt, HPR.out.below hbq HPR.out.lt, HPB.out.trans (hbq.mono HPB.out.size)⟩
   case rest =>
    obtain ⟨kn, rfl, hkn0, O5, O6, OR, HBx⟩ := hcut
    have HKN := Lib.hid hkn0
    have HQ5 := Lib.hid O5
    have HQ6 := Lib.hid O6
    have HR7 := Lib.hid OR
    have HB7 := Lib.hid HBx
    clear hkn0 O5 O6 OR HBx HP5 HP6 HPR HPB
    have p0 := HQ5.out.cell 0
    have p1 := HQ5.out.cell 1
    have z0 := HQ6.out.cell 0
    have z2 := HQ6.out.cell 2
    have z3 := HQ6.out.cell 3
    have z4 := HQ6.out.cell 4
    have r0 := HR7.out.cell 0
    have r1 := HR7.out.cell 1
    have r2 := HR7.out.cell 2
    have r3 := HR7.out.cell 3
    have r4 := HR7.out.cell 4
    have f0 := HR7.out.free 0
    have f1 := HR7.out.free 1
    have f2 := HR7.out.free 2
    have f3 := HR7.out.free 3
    have f4 := HR7.out.free 4
    by_cases hc : c0 = 2
    ·by_cases hx1 : x0 = 1
     ·subst hc hx1
      cases hkn : kn
      ·go_wp2
       have hx := (((((HR7.out.store 0 (.int .i64 0)).store 1 (.int .i64 0)).store 2 (.int .i64 0)).store 3 (.int .i64 0)).store 4 (.string ⟨#[]⟩))
       simp only [List.setIfInBounds_toArray, List.set_cons_zero, List.set_cons_succ] at hx
       (try simp only [Exit.inBlock, Exit.then]); refine bodyPost_ret_by (rcell2 (by rfl) _ _ (w.heap.size + 1) _ (by rfl) (load_cnd hx)) ?_ ?_; (focus rfl)
       refine ⟨?_, (((((HB7.out.sc (w.heap.size + 1) 0 _).sc (w.heap.size + 1) 1 _).sc (w.heap.size + 1) 2 _).sc (w.heap.size + 1) 3 _).sc (w.heap.size + 1) 4 _)⟩
       rw [show cndO op' ⟨2, c1, (c2, c3, c4), c5, c6⟩ ⟨1, x1, (x2, x3, x4), x5, x6⟩ = none from if_neg (fun h => by have h2 := HKN.out.2 ⟨h.2.2.1, h.2.2.2⟩; rw [hkn] at h2; cases h2)]; rfl
      ·go_wp2
       have hx := (((((HR7.out.store 0 (.int .i64 op')).store 1 (.int .i64 c1)).store 2 (.int .i64 x2)).store 3 (.int .i64 x3)).store 4 (.string x4))
       simp only [List.setIfInBounds_toArray, List.set_cons_zero, List.set_cons_succ] at hx
       (try simp only [Exit.inBlock, Exit.then]); refine bodyPost_ret_by (rcell2 (by rfl) _ _ (w.heap.size + 1) _ (by rfl) (load_cnd hx)) ?_ ?_; (focus rfl)
       refine ⟨?_, (((((HB7.out.sc (w.heap.size + 1) 0 _).sc (w.heap.size + 1) 1 _).sc (w.heap.size + 1) 2 _).sc (w.heap.size + 1) 3 _).sc (w.heap.size + 1) 4 _)⟩
       rw [show cndO op' ⟨2, c1, (c2, c3, c4), c5, c6⟩ ⟨1, x1, (x2, x3, x4), x5, x6⟩ = some ⟨op', c1, (x2, x3, x4)⟩ from if_pos ⟨rfl, rfl, (HKN.out.1 hkn).1, (HKN.out.1 hkn).2⟩]; rfl
     ·subst hc
      have hx1b : (x0 == 1) = false := by rw [beq_eq_false_iff_ne]; exact hx1
      go_wp2
      have hx := (((((HR7.out.store 0 (.int .i64 0)).store 1 (.int .i64 0)).store 2 (.int .i64 0)).store 3 (.int .i64 0)).store 4 (.string ⟨#[]⟩))
      simp only [List.setIfInBounds_toArray, List.set_cons_zero, List.set_cons_succ] at hx
      (try simp only [Exit.inBlock, Exit.then]); refine bodyPost_ret_by (rcell2 (by rfl) _ _ (w.heap.size + 1) _ (by rfl) (load_cnd hx)) ?_ ?_; (focus rfl)
      refine ⟨?_, (((((HB7.out.sc (w.heap.size + 1) 0 _).sc (w.heap.size + 1) 1 _).sc (w.heap.size + 1) 2 _).sc (w.heap.size + 1) 3 _).sc (w.heap.size + 1) 4 _)⟩
      rw [show cndO op' ⟨2, c1, (c2, c3, c4), c5, c6⟩ ⟨x0, x1, (x2, x3, x4), x5, x6⟩ = none from if_neg (fun h => hx1 h.2.1)]; rfl
    ·have hcb : (c0 == 2) = false := by rw [beq_eq_false_iff_ne]; exact hc
     go_wp2
     have hx := (((((HR7.out.store 0 (.int .i64 0)).store 1 (.int .i64 0)).store 2 (.int .i64 0)).store 3 (.int .i64 0)).store 4 (.string ⟨#[]⟩))
     simp only [List.setIfInBounds_toArray, List.set_cons_zero, List.set_cons_succ] at hx
     (try simp only [Exit.inBlock, Exit.then]); refine bodyPost_ret_by (rcell2 (by rfl) _ _ (w.heap.size + 1) _ (by rfl) (load_cnd hx)) ?_ ?_; (focus rfl)
     refine ⟨?_, (((((HB7.out.sc (w.heap.size + 1) 0 _).sc (w.heap.size + 1) 1 _).sc (w.heap.size + 1) 2 _).sc (w.heap.size + 1) 3 _).sc (w.heap.size + 1) 4 _)⟩
     rw [show cndO op' ⟨c0, c1, (c2, c3, c4), c5, c6⟩ ⟨x0, x1, (x2, x3, x4), x5, x6⟩ = none from if_neg (fun h => hc h.1)]; rfl
theorem cnd_len (op n : Int) (v : Vl) (nm : ByteArray) (es : List Ex) (h : es.length ≠ 2) : condE ⟨op, n, v, nm, es⟩ = none := by
 unfold condE
 match es, h with
 | [], _ => rfl
 | [_], _ => rfl
 | [_, _], h => exact absurd rfl h
 | _ :: _ :: _ :: _, _ => rfl
theorem cnd_op (op n : Int) (v : Vl) (nm : ByteArray) (es : List Ex) (h : cmqO op = false) : condE ⟨op, n, v, nm, es⟩ = none := by
 unfold condE
 dsimp only
 split
 ·rw [if_neg (by simp [h])]
 ·rfl
end Go.Proofs.YtdhemhmgenhmaaaGreat
