import Derived.Test.YthnmcpfmljibeaaGreatPKb
import Derived.Test.YthnmcpfmljibeaaGreatQEE
import Derived.Deep.DeepCutAuto
import Derived.WalkKit
import Derived.WalkSpells
import Derived.WalkLawsBesides
import Derived.Deep.QuietTactic
import Derived.BigQuiet
import Derived.Handy
import Derived.Lib.Hide
/-
  condition, by the reference. Conditions: lengths.
-/
namespace Go.Proofs.YthnmcpfmljibeaaGreat
set_option maxRecDepth 100000
set_option linter.unusedVariables false
set_option linter.unusedSimpArgs false
open Go.RowKit

/-- A constant that is not a null. -/
def plnX (e : Ex) : Bool := e.op == 1 && vldP e.v && (e.v.1 != 0)
def cndR (op : Int) (a b : Ex) : Option Cnd := if a.op = 2 ∧ plnX b = true then some ⟨op, a.n, b.v⟩ else if b.op = 2 ∧ plnX a = true then some ⟨mirO op, b.n, a.v⟩ else none
theorem pln_iff (e : Ex) : plnX e = true ↔ e.op = 1 ∧ vldP e.v = true ∧ e.v ≠ nullP := by
  obtain ⟨op, n, ⟨k, m, s⟩, nm, es⟩ := e
  unfold plnX
  simp only [Bool.and_eq_true, beq_iff_eq, bne_iff_ne, and_assoc]
  constructor
  · rintro ⟨h1, h2, h3⟩
    exact ⟨h1, h2, fun e => h3 (by unfold nullP at e; injection e)⟩
  · rintro ⟨h1, h2, h3⟩
    refine ⟨h1, h2, fun e => h3 ?_⟩
    subst e
    unfold vldP Va.vldV at h2
    dsimp only at h2
    rw [if_pos rfl] at h2
    simp only [Bool.and_eq_true, decide_eq_true_eq] at h2
    obtain ⟨h4, h5⟩ := h2
    subst h4
    unfold Va.emp at h5
    unfold nullP
    simp only [Prod.mk.injEq, true_and]
    have h6 : s.toList = [] := by simpa using h5
    exact mk_ext (by rw [← Lib.toList_data, ← Lib.toList_data, h6, Lib.toList_data])
theorem cond_R (op n : Int) (v : Vl) (nm : ByteArray) (a b : Ex) (h : cmqO op = true) : condE ⟨op, n, v, nm, [a, b]⟩ = cndR op a b := by
  unfold condE cndR
  dsimp only
  rw [if_pos h]
  by_cases h1 : a.op = 1
  · rw [if_pos h1, if_neg (by rintro ⟨h2, _⟩; omega)]
    unfold cndO
    by_cases h2 : b.op = 2 ∧ plnX a = true
    · rw [if_pos h2, if_pos ⟨h2.1, h1, ((pln_iff a).1 h2.2).2⟩]
    · rw [if_neg h2, if_neg (fun h3 => h2 ⟨h3.1, (pln_iff a).2 ⟨h1, h3.2.2⟩⟩)]
  · rw [if_neg h1]
    have hp : ¬ plnX a = true := fun h2 => h1 ((pln_iff a).1 h2).1
    unfold cndO
    by_cases h2 : a.op = 2 ∧ plnX b = true
    · rw [if_pos h2, if_pos ⟨h2.1, (pln_iff b).1 h2.2⟩]
    · rw [if_neg (fun h3 => h2 ⟨h3.1, (pln_iff b).2 h3.2⟩), if_neg h2, if_neg (fun h3 => hp h3.2)]
set_option maxRecDepth 100000 in
set_option maxHeartbeats 1600000 in
theorem rMir_any (op : Int) (w : World) : Calls Tryz.prog 114 #[.int .i64 op] w fun e w' => e = .returned (.int .i64 (mirO op)) ∧ Below w.heap.size w w' := by
  unfold mirO
  by_cases h2 : op = 9
  · subst h2; go_enter Tryz.func114, Tryz.ntmps114; go_wp2; go_ret; exact ⟨rfl, Below.refl _ _⟩
  by_cases h3 : op = 10
  · subst h3; go_enter Tryz.func114, Tryz.ntmps114; go_wp2; go_ret; exact ⟨rfl, Below.refl _ _⟩
  by_cases h4 : op = 11
  · subst h4; go_enter Tryz.func114, Tryz.ntmps114; go_wp2; go_ret; exact ⟨rfl, Below.refl _ _⟩
  by_cases h5 : op = 12
  · subst h5; go_enter Tryz.func114, Tryz.ntmps114; go_wp2; go_ret; exact ⟨rfl, Below.refl _ _⟩
  have b2 : (op == 9) = false := by rw [beq_eq_false_iff_ne]; exact h2
  have b3 : (op == 10) = false := by rw [beq_eq_false_iff_ne]; exact h3
  have b4 : (op == 11) = false := by rw [beq_eq_false_iff_ne]; exact h4
  have b5 : (op == 12) = false := by rw [beq_eq_false_iff_ne]; exact h5
  go_enter Tryz.func114, Tryz.ntmps114; go_wp2; go_ret; exact ⟨by simp [h2, h3, h4, h5], Below.refl _ _⟩
set_option maxRecDepth 100000 in
set_option maxHeartbeats 1600000 in
theorem rPln_any (x0 x1 x2 x3 : Int) (x4 x5 : ByteArray) (es : List Ex) (u : Value) (w : World) : Calls Tryz.prog 113 #[.agg #[.int .i64 x0, .int .i64 x1, .int .i64 x2, .int .i64 x3, .string x4, .string x5, u]] w fun e w' => e = .returned (.bool (plnX ⟨x0, x1, (x2, x3, x4), x5, es⟩)) ∧ Below w.heap.size w w' := by
  unfold plnX vldP
  dsimp only
  have HV := Lib.hid (fun W => Va.rValid_any x2 x3 x4 W)
  unfold Va.vV at HV
  have HE := Lib.hid (Own.new w 26 #[.int .i64 x0, .int .i64 x1, .int .i64 x2, .int .i64 x3, .string x4, .string x5, u])
  have HB := Lib.hid (bel_mk w (.cells #[.int .i64 x0, .int .i64 x1, .int .i64 x2, .int .i64 x3, .string x4, .string x5, u] 26))
  by_cases h1 : x0 = 1
  · subst h1
    generalize Va.vldV x2 x3 x4 = vl at *
    go_enter Tryz.func113, Tryz.ntmps113
    go_wp2_with fail
    with_reducible refine (HV.out _).mono ?_
    rintro e w1 ⟨rfl, hb1⟩
    have c2 := (HE.out.below hb1 HE.out.lt).cell 2
    have HB1 := Lib.hid (HB.out.trans (hb1.mono HB.out.size))
    clear hb1
    cases vl
    · go_wp2
      go_ret
      exact ⟨by simp, HB1.out⟩
    · by_cases h2 : x2 = 0
      · subst h2
        go_wp2
        go_ret
        exact ⟨by simp, HB1.out⟩
      · have h2b : (x2 == 0) = false := by rw [beq_eq_false_iff_ne]; exact h2
        go_wp2
        go_ret
        exact ⟨by simp [h2], HB1.out⟩
  · have h1b : (x0 == 1) = false := by rw [beq_eq_false_iff_ne]; exact h1
    go_enter Tryz.func113, Tryz.ntmps113
    go_wp2
    go_ret
    exact ⟨by simp [h1], HB.out⟩
end Go.Proofs.YthnmcpfmljibeaaGreat
/-
  condition of the reference, over any expression. Conditions: lengths.
-/
namespace Go.Proofs.YthnmcpfmljibeaaGreat
set_option maxRecDepth 100000
set_option linter.unusedVariables false
set_option linter.unusedSimpArgs false
open Go.RowKit

set_option maxRecDepth 100000 in
set_option maxHeartbeats 6400000 in
theorem rCnd_none (op n k1 k2 : Int) (s nm : ByteArray) (A : Option Addr) (l c : Nat) (w : World) (h : cmqO op = false ∨ l ≠ 2) :
    Calls Tryz.prog 62 #[.agg #[.int .i64 op, .int .i64 n, .int .i64 k1, .int .i64 k2, .string s, .string nm, .slice A l c]] w fun e' w' => e' = .returned (.tuple #[.agg #[.int .i64 0, .int .i64 0, .int .i64 0, .int .i64 0, .string ⟨#[]⟩], .bool false]) ∧ Below w.heap.size w w' := by
  have HB := Lib.hid (show Below w.heap.size w ((w.alloc (.cells #[.int .i64 op, .int .i64 n, .int .i64 k1, .int .i64 k2, .string s, .string nm, .slice A l c] 26)).alloc (.cells #[.int .i64 0, .int .i64 0, .int .i64 0, .int .i64 0, .string ⟨#[]⟩] 42)) from (bel_mk w _).trans ((bel_mk _ _).mono (by simp)))
  have HO := Lib.hid (show Own ((w.alloc (.cells #[.int .i64 op, .int .i64 n, .int .i64 k1, .int .i64 k2, .string s, .string nm, .slice A l c] 26)).alloc (.cells #[.int .i64 0, .int .i64 0, .int .i64 0, .int .i64 0, .string ⟨#[]⟩] 42)) (w.heap.size + 1) 42 #[.int .i64 0, .int .i64 0, .int .i64 0, .int .i64 0, .string ⟨#[]⟩] from Va.own_two _)
  cases ho : cmqO op
  · have q : ¬ op = 7 ∧ ¬ op = 9 ∧ ¬ op = 10 ∧ ¬ op = 11 ∧ ¬ op = 12 := by
      unfold cmqO at ho
      simp only [Bool.or_eq_false_iff, beq_eq_false_iff_ne] at ho
      exact ⟨ho.1.1.1.1, ho.1.1.1.2, ho.1.1.2, ho.1.2, ho.2⟩
    obtain ⟨q1, q2, q3, q4, q5⟩ := q
    clear h ho
    go_enter Tryz.func62, Tryz.ntmps62
    go_wp2
    (try simp only [Exit.inBlock, Exit.then]); refine bodyPost_ret_by (rcell2 (by rfl) _ _ (w.heap.size + 1) _ (by rfl) (load_cnd HO.out)) ?_ ?_; (focus rfl)
    exact ⟨rfl, HB.out⟩
  · have hl5 : l ≠ 2 := by rcases h with h | h; rw [ho] at h; cases h; exact h
    have hl4 : ¬ (l : Int) = 2 := by omega
    have hl3 : ((l : Int) == 2) = false := by rw [beq_eq_false_iff_ne]; exact hl4
    have q : op = 7 ∨ op = 9 ∨ op = 10 ∨ op = 11 ∨ op = 12 := by
      unfold cmqO at ho
      simp only [Bool.or_eq_true, beq_iff_eq] at ho
      omega
    clear h ho
    rcases q with rfl | rfl | rfl | rfl | rfl
    all_goals
      go_enter Tryz.func62, Tryz.ntmps62
      go_wp2
      (try simp only [Exit.inBlock, Exit.then]); refine bodyPost_ret_by (rcell2 (by rfl) _ _ (w.heap.size + 1) _ (by rfl) (load_cnd HO.out)) ?_ ?_; (focus rfl)
      exact ⟨rfl, HB.out⟩
end Go.Proofs.YthnmcpfmljibeaaGreat
/-
  condition of the reference, over two arguments. Conditions: lengths.
-/
namespace Go.Proofs.YthnmcpfmljibeaaGreat
set_option maxRecDepth 100000
set_option linter.unusedVariables false
set_option linter.unusedSimpArgs false
open Go.RowKit

set_option maxRecDepth 100000 in
set_option maxHeartbeats 12800000 in
theorem rCnd_two (op n k1 k2 : Int) (s nm : ByteArray) (a b : Ex) (A : Option Addr) (c : Nat) (w : World) (L d : Nat) (h : RdE w L w.heap.size (d + 1) (.slice A 2 c) [a, b]) (ho : cmqO op = true) :
    Calls Tryz.prog 62 #[.agg #[.int .i64 op, .int .i64 n, .int .i64 k1, .int .i64 k2, .string s, .string nm, .slice A 2 c]] w fun e' w' => e' = .returned (.tuple #[cndV (condE ⟨op, n, (k1, k2, s), nm, [a, b]⟩), .bool (condE ⟨op, n, (k1, k2, s), nm, [a, b]⟩).isSome]) ∧ Below w.heap.size w w' := by
  rw [cond_R op n (k1, k2, s) nm a b ho]
  obtain ⟨A', c', hv', _, hc⟩ := h
  obtain ⟨ad, ua, rfl, _, hab, hxa, hra⟩ := hc 0 a rfl
  obtain ⟨ad2, ub, hA2, _, _, hxb, hrb⟩ := hc 1 b rfl
  injection hv' with hv1 hv2 hv3
  subst hv1 hv3
  injection hA2 with hA2
  subst hA2
  obtain ⟨Aa, ca, rfl, _⟩ := hra.slice
  obtain ⟨Ab, cb, rfl, _⟩ := hrb.slice
  rw [show (0 : Nat) * 7 = 0 from rfl, show ad.add 0 = ad by unfold Addr.add; simp] at hxa
  rw [show (1 : Nat) * 7 = 7 from rfl, show ad.add 7 = ⟨ad.block, ad.off + 7, none⟩ by unfold Addr.add; simp] at hxb
  clear hra hrb hc hv2
  obtain ⟨a0, a1, ⟨a2, a3, a4⟩, a5, a6⟩ := a
  obtain ⟨b0, b1, ⟨b2, b3, b4⟩, b5, b6⟩ := b
  obtain ⟨x0, x1, x2, x3, x4, x5, x6⟩ := hxa
  obtain ⟨y0, y1, y2, y3, y4, y5, y6⟩ := hxb
  have hab1 : ad.block < w.heap.size + 1 := by omega
  have hab3 : ad.block < w.heap.size + 1 + 1 := by omega
  have hab4 : ad.block < w.heap.size + 1 + 1 + 1 := by omega
  have hne1 : ad.block ≠ w.heap.size := by omega
  have hne2 : ad.block ≠ w.heap.size + 1 := by omega
  have hne3 : ad.block ≠ w.heap.size + 1 + 1 := by omega
  have HPA := Lib.hid (fun W => rPln_any a0 a1 a2 a3 a4 a5 a6 (.slice Aa a6.length ca) W)
  have HPB := Lib.hid (fun W => rPln_any b0 b1 b2 b3 b4 b5 b6 (.slice Ab b6.length cb) W)
  have HM := Lib.hid (fun W => rMir_any op W)
  generalize hcr : cndR op ⟨a0, a1, (a2, a3, a4), a5, a6⟩ ⟨b0, b1, (b2, b3, b4), b5, b6⟩ = rr
  have HCR := Lib.hid hcr
  unfold cndR at HCR
  dsimp only at HCR
  generalize hpa : plnX ⟨a0, a1, (a2, a3, a4), a5, a6⟩ = pa at *
  generalize hpb : plnX ⟨b0, b1, (b2, b3, b4), b5, b6⟩ = pb at *
  generalize mirO op = mo at *
  have hqa : pa = true → a0 = 1 := fun h => by rw [← hpa] at h; exact ((pln_iff _).1 h).1
  have HQA := Lib.hid hqa
  clear hcr hpa hpb hqa
  have HO0 := Lib.hid (show Own ((((w.alloc (.cells #[.int .i64 op, .int .i64 n, .int .i64 k1, .int .i64 k2, .string s, .string nm, .slice (some ad) 2 c] 26)).alloc (.cells #[.int .i64 0, .int .i64 0, .int .i64 0, .int .i64 0, .string ⟨#[]⟩] 42)).alloc (.cells #[.int .i64 a0, .int .i64 a1, .int .i64 a2, .int .i64 a3, .string a4, .string a5, .slice Aa a6.length ca] 26)).alloc (.cells #[.int .i64 b0, .int .i64 b1, .int .i64 b2, .int .i64 b3, .string b4, .string b5, .slice Ab b6.length cb] 26)) (w.heap.size) 26 #[.int .i64 op, .int .i64 n, .int .i64 k1, .int .i64 k2, .string s, .string nm, .slice (some ad) 2 c] from by have h := Own.new w 26 #[.int .i64 op, .int .i64 n, .int .i64 k1, .int .i64 k2, .string s, .string nm, .slice (some ad) 2 c]; (try simp only [World.size_alloc] at h); exact (((h.alloc (.cells #[.int .i64 0, .int .i64 0, .int .i64 0, .int .i64 0, .string ⟨#[]⟩] 42)).alloc (.cells #[.int .i64 a0, .int .i64 a1, .int .i64 a2, .int .i64 a3, .string a4, .string a5, .slice Aa a6.length ca] 26)).alloc (.cells #[.int .i64 b0, .int .i64 b1, .int .i64 b2, .int .i64 b3, .string b4, .string b5, .slice Ab b6.length cb] 26)))
  have HO1 := Lib.hid (show Own ((((w.alloc (.cells #[.int .i64 op, .int .i64 n, .int .i64 k1, .int .i64 k2, .string s, .string nm, .slice (some ad) 2 c] 26)).alloc (.cells #[.int .i64 0, .int .i64 0, .int .i64 0, .int .i64 0, .string ⟨#[]⟩] 42)).alloc (.cells #[.int .i64 a0, .int .i64 a1, .int .i64 a2, .int .i64 a3, .string a4, .string a5, .slice Aa a6.length ca] 26)).alloc (.cells #[.int .i64 b0, .int .i64 b1, .int .i64 b2, .int .i64 b3, .string b4, .string b5, .slice Ab b6.length cb] 26)) (w.heap.size + 1) 42 #[.int .i64 0, .int .i64 0, .int .i64 0, .int .i64 0, .string ⟨#[]⟩] from by have h := Own.new (w.alloc (.cells #[.int .i64 op, .int .i64 n, .int .i64 k1, .int .i64 k2, .string s, .string nm, .slice (some ad) 2 c] 26)) 42 #[.int .i64 0, .int .i64 0, .int .i64 0, .int .i64 0, .string ⟨#[]⟩]; (try simp only [World.size_alloc] at h); exact ((h.alloc (.cells #[.int .i64 a0, .int .i64 a1, .int .i64 a2, .int .i64 a3, .string a4, .string a5, .slice Aa a6.length ca] 26)).alloc (.cells #[.int .i64 b0, .int .i64 b1, .int .i64 b2, .int .i64 b3, .string b4, .string b5, .slice Ab b6.length cb] 26)))
  have HO2 := Lib.hid (show Own ((((w.alloc (.cells #[.int .i64 op, .int .i64 n, .int .i64 k1, .int .i64 k2, .string s, .string nm, .slice (some ad) 2 c] 26)).alloc (.cells #[.int .i64 0, .int .i64 0, .int .i64 0, .int .i64 0, .string ⟨#[]⟩] 42)).alloc (.cells #[.int .i64 a0, .int .i64 a1, .int .i64 a2, .int .i64 a3, .string a4, .string a5, .slice Aa a6.length ca] 26)).alloc (.cells #[.int .i64 b0, .int .i64 b1, .int .i64 b2, .int .i64 b3, .string b4, .string b5, .slice Ab b6.length cb] 26)) (w.heap.size + 1 + 1) 26 #[.int .i64 a0, .int .i64 a1, .int .i64 a2, .int .i64 a3, .string a4, .string a5, .slice Aa a6.length ca] from by have h := Own.new ((w.alloc (.cells #[.int .i64 op, .int .i64 n, .int .i64 k1, .int .i64 k2, .string s, .string nm, .slice (some ad) 2 c] 26)).alloc (.cells #[.int .i64 0, .int .i64 0, .int .i64 0, .int .i64 0, .string ⟨#[]⟩] 42)) 26 #[.int .i64 a0, .int .i64 a1, .int .i64 a2, .int .i64 a3, .string a4, .string a5, .slice Aa a6.length ca]; (try simp only [World.size_alloc] at h); exact (h.alloc (.cells #[.int .i64 b0, .int .i64 b1, .int .i64 b2, .int .i64 b3, .string b4, .string b5, .slice Ab b6.length cb] 26)))
  have HO3 := Lib.hid (show Own ((((w.alloc (.cells #[.int .i64 op, .int .i64 n, .int .i64 k1, .int .i64 k2, .string s, .string nm, .slice (some ad) 2 c] 26)).alloc (.cells #[.int .i64 0, .int .i64 0, .int .i64 0, .int .i64 0, .string ⟨#[]⟩] 42)).alloc (.cells #[.int .i64 a0, .int .i64 a1, .int .i64 a2, .int .i64 a3, .string a4, .string a5, .slice Aa a6.length ca] 26)).alloc (.cells #[.int .i64 b0, .int .i64 b1, .int .i64 b2, .int .i64 b3, .string b4, .string b5, .slice Ab b6.length cb] 26)) (w.heap.size + 1 + 1 + 1) 26 #[.int .i64 b0, .int .i64 b1, .int .i64 b2, .int .i64 b3, .string b4, .string b5, .slice Ab b6.length cb] from by have h := Own.new (((w.alloc (.cells #[.int .i64 op, .int .i64 n, .int .i64 k1, .int .i64 k2, .string s, .string nm, .slice (some ad) 2 c] 26)).alloc (.cells #[.int .i64 0, .int .i64 0, .int .i64 0, .int .i64 0, .string ⟨#[]⟩] 42)).alloc (.cells #[.int .i64 a0, .int .i64 a1, .int .i64 a2, .int .i64 a3, .string a4, .string a5, .slice Aa a6.length ca] 26)) 26 #[.int .i64 b0, .int .i64 b1, .int .i64 b2, .int .i64 b3, .string b4, .string b5, .slice Ab b6.length cb]; (try simp only [World.size_alloc] at h); exact h)
  have HB := Lib.hid (show Below w.heap.size w ((((w.alloc (.cells #[.int .i64 op, .int .i64 n, .int .i64 k1, .int .i64 k2, .string s, .string nm, .slice (some ad) 2 c] 26)).alloc (.cells #[.int .i64 0, .int .i64 0, .int .i64 0, .int .i64 0, .string ⟨#[]⟩] 42)).alloc (.cells #[.int .i64 a0, .int .i64 a1, .int .i64 a2, .int .i64 a3, .string a4, .string a5, .slice Aa a6.length ca] 26)).alloc (.cells #[.int .i64 b0, .int .i64 b1, .int .i64 b2, .int .i64 b3, .string b4, .string b5, .slice Ab b6.length cb] 26)) from (((bel_mk w (.cells #[.int .i64 op, .int .i64 n, .int .i64 k1, .int .i64 k2, .string s, .string nm, .slice (some ad) 2 c] 26)).trans ((bel_mk (w.alloc (.cells #[.int .i64 op, .int .i64 n, .int .i64 k1, .int .i64 k2, .string s, .string nm, .slice (some ad) 2 c] 26)) (.cells #[.int .i64 0, .int .i64 0, .int .i64 0, .int .i64 0, .string ⟨#[]⟩] 42)).mono (by simp only [World.size_alloc]; omega))).trans ((bel_mk ((w.alloc (.cells #[.int .i64 op, .int .i64 n, .int .i64 k1, .int .i64 k2, .string s, .string nm, .slice (some ad) 2 c] 26)).alloc (.cells #[.int .i64 0, .int .i64 0, .int .i64 0, .int .i64 0, .string ⟨#[]⟩] 42)) (.cells #[.int .i64 a0, .int .i64 a1, .int .i64 a2, .int .i64 a3, .string a4, .string a5, .slice Aa a6.length ca] 26)).mono (by simp only [World.size_alloc]; omega))).trans ((bel_mk (((w.alloc (.cells #[.int .i64 op, .int .i64 n, .int .i64 k1, .int .i64 k2, .string s, .string nm, .slice (some ad) 2 c] 26)).alloc (.cells #[.int .i64 0, .int .i64 0, .int .i64 0, .int .i64 0, .string ⟨#[]⟩] 42)).alloc (.cells #[.int .i64 a0, .int .i64 a1, .int .i64 a2, .int .i64 a3, .string a4, .string a5, .slice Aa a6.length ca] 26)) (.cells #[.int .i64 b0, .int .i64 b1, .int .i64 b2, .int .i64 b3, .string b4, .string b5, .slice Ab b6.length cb] 26)).mono (by simp only [World.size_alloc]; omega)))
  have q : op = 7 ∨ op = 9 ∨ op = 10 ∨ op = 11 ∨ op = 12 := by
    unfold cmqO at ho
    simp only [Bool.or_eq_true, beq_iff_eq] at ho
    omega
  go_enter Tryz.func62, Tryz.ntmps62
  go_upto_region 1 with fail
  go_cut [4] (fun s4 x => s4 = .bool true ∧ x = ((w.alloc (.cells #[.int .i64 op, .int .i64 n, .int .i64 k1, .int .i64 k2, .string s, .string nm, .slice (some ad) 2 c] 26)).alloc (.cells #[.int .i64 0, .int .i64 0, .int .i64 0, .int .i64 0, .string ⟨#[]⟩] 42)))
  case first =>
    rcases q with rfl | rfl | rfl | rfl | rfl
    all_goals
      go_wp2_with fail
      go_meet
      exact ⟨rfl, rfl⟩
  case rest =>
    obtain ⟨rfl, rfl⟩ := hcut
    clear q ho
    by_cases ha : a0 = 2
    · subst ha
      have HPF := Lib.hid (show pa = false from by cases hp : pa; rfl; have h2 := HQA.out hp; cases h2)
      go_wp2_with fail
      with_reducible refine (HPB.out _).mono ?_
      rintro e w1 ⟨rfl, hb⟩
      replace HO0 := Lib.hid (HO0.out.below hb HO0.out.lt)
      replace HO1 := Lib.hid (HO1.out.below hb HO1.out.lt)
      replace HO2 := Lib.hid (HO2.out.below hb HO2.out.lt)
      replace HO3 := Lib.hid (HO3.out.below hb HO3.out.lt)
      replace HB := Lib.hid (HB.out.trans (hb.mono HB.out.size))
      clear hb
      cases pb
      · by_cases hb2 : b0 = 2
        · subst hb2
          have p2_0 := HO2.out.cell 0
          have p2_1 := HO2.out.cell 1
          have p2_2 := HO2.out.cell 2
          have p2_3 := HO2.out.cell 3
          have p2_4 := HO2.out.cell 4
          have p2_5 := HO2.out.cell 5
          have p2_6 := HO2.out.cell 6
          have p3_0 := HO3.out.cell 0
          go_wp2_with fail
          with_reducible refine (HPA.out _).mono ?_
          rw [HPF.out]
          rintro e w2 ⟨rfl, hb⟩
          replace HO0 := Lib.hid (HO0.out.below hb HO0.out.lt)
          replace HO1 := Lib.hid (HO1.out.below hb HO1.out.lt)
          replace HO2 := Lib.hid (HO2.out.below hb HO2.out.lt)
          replace HO3 := Lib.hid (HO3.out.below hb HO3.out.lt)
          replace HB := Lib.hid (HB.out.trans (hb.mono HB.out.size))
          clear hb
          have qr0 := HO1.out.cell 0
          have qf0 := HO1.out.free 0
          have qr1 := HO1.out.cell 1
          have qf1 := HO1.out.free 1
          have qr2 := HO1.out.cell 2
          have qf2 := HO1.out.free 2
          have qr3 := HO1.out.cell 3
          have qf3 := HO1.out.free 3
          have qr4 := HO1.out.cell 4
          have qf4 := HO1.out.free 4
          go_wp2
          have hx := (((((HO1.out.store 0 (.int .i64 0)).store 1 (.int .i64 0)).store 2 (.int .i64 0)).store 3 (.int .i64 0)).store 4 (.string ⟨#[]⟩))
          simp only [List.setIfInBounds_toArray, List.set_cons_zero, List.set_cons_succ] at hx
          (try simp only [Exit.inBlock, Exit.then]); refine bodyPost_ret_by (rcell2 (by rfl) _ _ (w.heap.size + 1) _ (by rfl) (load_cnd hx)) ?_ ?_; (focus rfl)
          refine ⟨?_, (((((HB.out.setCell (p := ⟨w.heap.size + 1, 0, none⟩) (by show w.heap.size ≤ w.heap.size + 1; omega) (.int .i64 0)).setCell (p := ⟨w.heap.size + 1, 1, none⟩) (by show w.heap.size ≤ w.heap.size + 1; omega) (.int .i64 0)).setCell (p := ⟨w.heap.size + 1, 2, none⟩) (by show w.heap.size ≤ w.heap.size + 1; omega) (.int .i64 0)).setCell (p := ⟨w.heap.size + 1, 3, none⟩) (by show w.heap.size ≤ w.heap.size + 1; omega) (.int .i64 0)).setCell (p := ⟨w.heap.size + 1, 4, none⟩) (by show w.heap.size ≤ w.heap.size + 1; omega) (.string ⟨#[]⟩))⟩
          rw [← HCR.out, HPF.out, if_neg (by simp), if_neg (by simp)]
          try rfl
        · have hbb : (b0 == 2) = false := by rw [beq_eq_false_iff_ne]; exact hb2
          have p2_0 := HO2.out.cell 0
          have p2_1 := HO2.out.cell 1
          have p2_2 := HO2.out.cell 2
          have p2_3 := HO2.out.cell 3
          have p2_4 := HO2.out.cell 4
          have p2_5 := HO2.out.cell 5
          have p2_6 := HO2.out.cell 6
          have p3_0 := HO3.out.cell 0
          have qr0 := HO1.out.cell 0
          have qf0 := HO1.out.free 0
          have qr1 := HO1.out.cell 1
          have qf1 := HO1.out.free 1
          have qr2 := HO1.out.cell 2
          have qf2 := HO1.out.free 2
          have qr3 := HO1.out.cell 3
          have qf3 := HO1.out.free 3
          have qr4 := HO1.out.cell 4
          have qf4 := HO1.out.free 4
          go_wp2
          have hx := (((((HO1.out.store 0 (.int .i64 0)).store 1 (.int .i64 0)).store 2 (.int .i64 0)).store 3 (.int .i64 0)).store 4 (.string ⟨#[]⟩))
          simp only [List.setIfInBounds_toArray, List.set_cons_zero, List.set_cons_succ] at hx
          (try simp only [Exit.inBlock, Exit.then]); refine bodyPost_ret_by (rcell2 (by rfl) _ _ (w.heap.size + 1) _ (by rfl) (load_cnd hx)) ?_ ?_; (focus rfl)
          refine ⟨?_, (((((HB.out.setCell (p := ⟨w.heap.size + 1, 0, none⟩) (by show w.heap.size ≤ w.heap.size + 1; omega) (.int .i64 0)).setCell (p := ⟨w.heap.size + 1, 1, none⟩) (by show w.heap.size ≤ w.heap.size + 1; omega) (.int .i64 0)).setCell (p := ⟨w.heap.size + 1, 2, none⟩) (by show w.heap.size ≤ w.heap.size + 1; omega) (.int .i64 0)).setCell (p := ⟨w.heap.size + 1, 3, none⟩) (by show w.heap.size ≤ w.heap.size + 1; omega) (.int .i64 0)).setCell (p := ⟨w.heap.size + 1, 4, none⟩) (by show w.heap.size ≤ w.heap.size + 1; omega) (.string ⟨#[]⟩))⟩
          rw [← HCR.out, if_neg (by simp), if_neg (fun h => hb2 h.1)]
          try rfl
      · skip
        have p0_0 := HO0.out.cell 0
        have p2_0 := HO2.out.cell 0
        have p2_1 := HO2.out.cell 1
        have p3_0 := HO3.out.cell 0
        have p3_1 := HO3.out.cell 1
        have p3_2 := HO3.out.cell 2
        have p3_3 := HO3.out.cell 3
        have p3_4 := HO3.out.cell 4
        have qr0 := HO1.out.cell 0
        have qf0 := HO1.out.free 0
        have qr1 := HO1.out.cell 1
        have qf1 := HO1.out.free 1
        have qr2 := HO1.out.cell 2
        have qf2 := HO1.out.free 2
        have qr3 := HO1.out.cell 3
        have qf3 := HO1.out.free 3
        have qr4 := HO1.out.cell 4
        have qf4 := HO1.out.free 4
        go_wp2
        have hx := (((((HO1.out.store 0 (.int .i64 op)).store 1 (.int .i64 a1)).store 2 (.int .i64 b2)).store 3 (.int .i64 b3)).store 4 (.string b4))
        simp only [List.setIfInBounds_toArray, List.set_cons_zero, List.set_cons_succ] at hx
        (try simp only [Exit.inBlock, Exit.then]); refine bodyPost_ret_by (rcell2 (by rfl) _ _ (w.heap.size + 1) _ (by rfl) (load_cnd hx)) ?_ ?_; (focus rfl)
        refine ⟨?_, (((((HB.out.setCell (p := ⟨w.heap.size + 1, 0, none⟩) (by show w.heap.size ≤ w.heap.size + 1; omega) (.int .i64 op)).setCell (p := ⟨w.heap.size + 1, 1, none⟩) (by show w.heap.size ≤ w.heap.size + 1; omega) (.int .i64 a1)).setCell (p := ⟨w.heap.size + 1, 2, none⟩) (by show w.heap.size ≤ w.heap.size + 1; omega) (.int .i64 b2)).setCell (p := ⟨w.heap.size + 1, 3, none⟩) (by show w.heap.size ≤ w.heap.size + 1; omega) (.int .i64 b3)).setCell (p := ⟨w.heap.size + 1, 4, none⟩) (by show w.heap.size ≤ w.heap.size + 1; omega) (.string b4))⟩
        rw [← HCR.out, if_pos (by simp)]
        try rfl
    · have hab2 : (a0 == 2) = false := by rw [beq_eq_false_iff_ne]; exact ha
      by_cases hb2 : b0 = 2
      · subst hb2
        go_wp2_with fail
        with_reducible refine (HPA.out _).mono ?_
        rintro e w1 ⟨rfl, hb⟩
        replace HO0 := Lib.hid (HO0.out.below hb HO0.out.lt)
        replace HO1 := Lib.hid (HO1.out.below hb HO1.out.lt)
        replace HO2 := Lib.hid (HO2.out.below hb HO2.out.lt)
        replace HO3 := Lib.hid (HO3.out.below hb HO3.out.lt)
        replace HB := Lib.hid (HB.out.trans (hb.mono HB.out.size))
        clear hb
        cases pa
        · skip
          have qr0 := HO1.out.cell 0
          have qf0 := HO1.out.free 0
          have qr1 := HO1.out.cell 1
          have qf1 := HO1.out.free 1
          have qr2 := HO1.out.cell 2
          have qf2 := HO1.out.free 2
          have qr3 := HO1.out.cell 3
          have qf3 := HO1.out.free 3
          have qr4 := HO1.out.cell 4
          have qf4 := HO1.out.free 4
          go_wp2
          have hx := (((((HO1.out.store 0 (.int .i64 0)).store 1 (.int .i64 0)).store 2 (.int .i64 0)).store 3 (.int .i64 0)).store 4 (.string ⟨#[]⟩))
          simp only [List.setIfInBounds_toArray, List.set_cons_zero, List.set_cons_succ] at hx
          (try simp only [Exit.inBlock, Exit.then]); refine bodyPost_ret_by (rcell2 (by rfl) _ _ (w.heap.size + 1) _ (by rfl) (load_cnd hx)) ?_ ?_; (focus rfl)
          refine ⟨?_, (((((HB.out.setCell (p := ⟨w.heap.size + 1, 0, none⟩) (by show w.heap.size ≤ w.heap.size + 1; omega) (.int .i64 0)).setCell (p := ⟨w.heap.size + 1, 1, none⟩) (by show w.heap.size ≤ w.heap.size + 1; omega) (.int .i64 0)).setCell (p := ⟨w.heap.size + 1, 2, none⟩) (by show w.heap.size ≤ w.heap.size + 1; omega) (.int .i64 0)).setCell (p := ⟨w.heap.size + 1, 3, none⟩) (by show w.heap.size ≤ w.heap.size + 1; omega) (.int .i64 0)).setCell (p := ⟨w.heap.size + 1, 4, none⟩) (by show w.heap.size ≤ w.heap.size + 1; omega) (.string ⟨#[]⟩))⟩
          rw [← HCR.out, if_neg (fun h => ha h.1), if_neg (by simp)]
          try rfl
        · skip
          have p0_0 := HO0.out.cell 0
          have p2_0 := HO2.out.cell 0
          have p2_1 := HO2.out.cell 1
          have p2_2 := HO2.out.cell 2
          have p2_3 := HO2.out.cell 3
          have p2_4 := HO2.out.cell 4
          have p3_0 := HO3.out.cell 0
          have p3_1 := HO3.out.cell 1
          have qr0 := HO1.out.cell 0
          have qf0 := HO1.out.free 0
          have qr1 := HO1.out.cell 1
          have qf1 := HO1.out.free 1
          have qr2 := HO1.out.cell 2
          have qf2 := HO1.out.free 2
          have qr3 := HO1.out.cell 3
          have qf3 := HO1.out.free 3
          have qr4 := HO1.out.cell 4
          have qf4 := HO1.out.free 4
          have HD0 := Lib.hid (show Own w1.drew _ _ _ from HO0.out)
          have HD1 := Lib.hid (show Own w1.drew _ _ _ from HO1.out)
          have HD2 := Lib.hid (show Own w1.drew _ _ _ from HO2.out)
          have HD3 := Lib.hid (show Own w1.drew _ _ _ from HO3.out)
          have HDB := Lib.hid (HB.out.drew)
          go_wp2_with fail
          go_region_law (first | (go_simp; go_at_call 114; with_reducible refine (HM.out _).mono ?_; rintro e w2 ⟨rfl, hb⟩; have K0 := Lib.hid (HD0.out.below hb HD0.out.lt); have K1 := Lib.hid (HD1.out.below hb HD1.out.lt); have K2 := Lib.hid (HD2.out.below hb HD2.out.lt); have K3 := Lib.hid (HD3.out.below hb HD3.out.lt); have KB := Lib.hid (HDB.out.trans (hb.mono HDB.out.size)); have s0 := K0.out.cell 0; have s2_0 := K2.out.cell 0; have s2_1 := K2.out.cell 1; have s2_2 := K2.out.cell 2; have s2_3 := K2.out.cell 3; have s2_4 := K2.out.cell 4; have s3_0 := K3.out.cell 0; have s3_1 := K3.out.cell 1; have t0 := K1.out.cell 0; have tf0 := K1.out.free 0; have t1 := K1.out.cell 1; have tf1 := K1.out.free 1; have t2 := K1.out.cell 2; have tf2 := K1.out.free 2; have t3 := K1.out.cell 3; have tf3 := K1.out.free 3; have t4 := K1.out.cell 4; have tf4 := K1.out.free 4; clear hb))
          all_goals
            replace HO1 := K1
            replace HB := KB
            go_wp2
            have hx := (((((HO1.out.store 0 (.int .i64 mo)).store 1 (.int .i64 b1)).store 2 (.int .i64 a2)).store 3 (.int .i64 a3)).store 4 (.string a4))
            simp only [List.setIfInBounds_toArray, List.set_cons_zero, List.set_cons_succ] at hx
            (try simp only [Exit.inBlock, Exit.then]); refine bodyPost_ret_by (rcell2 (by rfl) _ _ (w.heap.size + 1) _ (by rfl) (load_cnd hx)) ?_ ?_; (focus rfl)
            refine ⟨?_, (((((HB.out.setCell (p := ⟨w.heap.size + 1, 0, none⟩) (by show w.heap.size ≤ w.heap.size + 1; omega) (.int .i64 mo)).setCell (p := ⟨w.heap.size + 1, 1, none⟩) (by show w.heap.size ≤ w.heap.size + 1; omega) (.int .i64 b1)).setCell (p := ⟨w.heap.size + 1, 2, none⟩) (by show w.heap.size ≤ w.heap.size + 1; omega) (.int .i64 a2)).setCell (p := ⟨w.heap.size + 1, 3, none⟩) (by show w.heap.size ≤ w.heap.size + 1; omega) (.int .i64 a3)).setCell (p := ⟨w.heap.size + 1, 4, none⟩) (by show w.heap.size ≤ w.heap.size + 1; omega) (.string a4))⟩
            rw [← HCR.out, if_neg (fun h => ha h.1), if_pos (by simp)]
            try rfl
      · have hbb : (b0 == 2) = false := by rw [beq_eq_false_iff_ne]; exact hb2
        go_wp2
        (try simp only [Exit.inBlock, Exit.then]); refine bodyPost_ret_by (rcell2 (by rfl) _ _ (w.heap.size + 1) _ (by rfl) (load_cnd HO1.out)) ?_ ?_; (focus rfl)
        refine ⟨?_, HB.out⟩
        rw [← HCR.out, if_neg (fun h => ha h.1), if_neg (fun h => hb2 h.1)]
        try rfl
/-- The condition that an expression states, by the reference. -/
theorem rCnd_any (d : Nat) (e : Ex) (A : Option Addr) (c : Nat) (w : World) (L : Nat) (h : RdE w L w.heap.size d (.slice A e.args.length c) e.args) :
    Calls Tryz.prog 62 #[exV e (.slice A e.args.length c)] w fun e' w' => e' = .returned (.tuple #[cndV (condE e), .bool (condE e).isSome]) ∧ Below w.heap.size w w' := by
  obtain ⟨op, n, ⟨k1, k2, s⟩, nm, es⟩ := e
  unfold exV
  dsimp only at h ⊢
  by_cases hl : es.length = 2
  · cases ho : cmqO op
    · rw [cnd_op op n (k1, k2, s) nm es ho]
      exact rCnd_none op n k1 k2 s nm A es.length c w (.inl ho)
    · match es, hl, h with
      | [a, b], _, h =>
        obtain ⟨d', rfl⟩ : ∃ d', d = d' + 1 := ⟨d - 1, by have := h.pos; omega⟩
        exact rCnd_two op n k1 k2 s nm a b A c w L d' h ho
  · rw [cnd_len op n (k1, k2, s) nm es hl]
    exact rCnd_none op n k1 k2 s nm A es.length c w (.inr hl)
end Go.Proofs.YthnmcpfmljibeaaGreat
