import Derived.Test.YtdhemhmgenhmaaaGreatQEB
import Derived.Test.YtdhemhmgenhmaaaGreatQEC
import Derived.Test.YtdhemhmgenhmaaaGreatQED
import Derived.WalkKit
import Derived.WalkSpells
import Derived.WalkLawsBesides
import Derived.Deep.QuietTactic
import Derived.BigQuiet
import Derived.Handy
import Derived.Lib.Hide
import Derived.Test.YtdhemhmgenhmaaaGreatME
import Derived.Test.YtdhemhmgenhmaaaGreatMC
import Derived.Test.YtdhemhmgenhmaaaGreatMA
import Derived.Deep.Slices
import Derived.Test.YtdhemhmgenhmaaaGreatQT
import Derived.Test.YtdhemhmgenhmaaaGreatQX
set_option maxRecDepth 100000
set_option maxHeartbeats 25600000
set_option linter.unusedVariables false
set_option linter.unusedSimpArgs false
/-
  Eval and Truth of the program: the value of any expression. Conditions: lengths, values of rows are read.
-/
namespace Go.Proofs.YtdhemhmgenhmaaaGreat
open Go.RowKit
theorem ev_bad (op n k1 k2 : Int) (s nm : ByteArray) (u1 : Option Addr) (u2 u3 : Nat) (row : List Vl) (Ar : Option Addr) (cr : Nat) (w : World) (hwf : wfE op n k1 k2 s nm u2 = false) :
  Calls Tryz.prog 15 #[.agg #[.int .i64 op, .int .i64 n, .int .i64 k1, .int .i64 k2, .string s, .string nm, .slice u1 u2 u3], .slice Ar row.length cr] w fun e w' => e = .returned (valV nullP) ∧ Below w.heap.size w w' := by
 have HWF := Lib.hid (fun W => by have h := pWf_any op n k1 k2 s nm u1 u2 u3 W; rw [hwf] at h; exact h)
 have HN := Lib.hid (fun W => eNull W)
 have HZ0 := Lib.hid (show Own (((w.alloc (.cells #[.int .i64 op, .int .i64 n, .int .i64 k1, .int .i64 k2, .string s, .string nm, .slice u1 u2 u3] 26)).alloc (.cells #[.slice Ar row.length cr] 27)).alloc (.cells #[.int .i64 0, .int .i64 0, .string ⟨#[]⟩] 23)) (w.heap.size + 1 + 1) 23 #[.int .i64 0, .int .i64 0, .string ⟨#[]⟩] from own_three _ _)
 have HB0 := Lib.hid (show Below w.heap.size w (((w.alloc (.cells #[.int .i64 op, .int .i64 n, .int .i64 k1, .int .i64 k2, .string s, .string nm, .slice u1 u2 u3] 26)).alloc (.cells #[.slice Ar row.length cr] 27)).alloc (.cells #[.int .i64 0, .int .i64 0, .string ⟨#[]⟩] 23)) from ((bel_mk w _).trans ((bel_mk _ _).mono (by simp))).trans ((bel_mk _ _).mono (by simp; omega)))
 unfold valV nullP at *
 dsimp only at *
 go_enter Tryz.func15, Tryz.ntmps15
 go_wp2_with fail
 with_reducible refine (HWF.out _).mono ?_
 rintro e w1 ⟨rfl, hb1⟩
 have z1 := HZ0.out.below hb1 HZ0.out.lt
 have b1 := HB0.out.trans (hb1.mono HB0.out.size)
 clear hb1 HZ0 HB0 HWF
 go_wp2_with fail
 with_reducible refine (HN.out _).mono ?_
 rintro e w2 ⟨rfl, hb2⟩
 have z2 := z1.below hb2 z1.lt
 have b2 := b1.trans (hb2.mono b1.size)
 clear hb2
 have d0 := z2.cell 0; have e0 := z2.free 0; have d1 := z2.cell 1; have e1 := z2.free 1; have d2 := z2.cell 2; have e2 := z2.free 2; (try simp only [List.getElem?_toArray, List.getElem?_cons_zero, List.getElem?_cons_succ] at d0 d1 d2)
 go_wp2
 (try simp only [Exit.inBlock, Exit.then]); refine bodyPost_ret_by (results_cell_row1 (by rfl) _ _ (w.heap.size + 1 + 1) _ (by rfl) (load_val (((z2.store 0 _).store 1 _).store 2 _))) ?_ ?_; (focus rfl); refine ⟨rfl, ?_⟩
 (repeat' first | (with_reducible first | exact Below.refl _ _ | assumption | refine Below.alloc ?_ ?_ _ | refine Below.drew ?_ | refine Below.setCell ?_ ?_ _ | refine Below.trans ?_ (Below.mono (by assumption) ?_)) | go_size)
theorem knw_cases {op : Int} (h : knw op = true) : op = 1 ∨ op = 2 ∨ (op = 4 ∨ op = 5 ∨ op = 6) ∨ (op = 7 ∨ op = 8 ∨ op = 9 ∨ op = 10 ∨ op = 11 ∨ op = 12) ∨ (op = 13 ∨ op = 14 ∨ op = 15 ∨ op = 16 ∨ op = 17) ∨ op = 18 ∨ op = 19 ∨ op = 20 ∨ op = 21 ∨ op = 22 ∨ op = 23 ∨ op = 24 := by
 simp only [knw, Bool.or_eq_true, beq_iff_eq] at h
 omega
theorem wf_knw {op n k m : Int} {s nm : ByteArray} {l : Nat} (h : wfE op n k m s nm l = true) : knw op = true := by
 unfold wfE at h
 simp only [Bool.and_eq_true] at h
 exact h.1.1.1
theorem pEval_any (rv : Value) (row : List Vl) : ∀ (d : Nat) (e : Ex) (A : Option Addr) (c : Nat) (w : World) (L L2 : Nat), RdE w L w.heap.size d (.slice A e.args.length c) e.args → RdV w L2 w.heap.size rv row →
  Calls Tryz.prog 15 #[exV e (.slice A e.args.length c), rv] w fun e' w' => e' = .returned (valV (evE row d e)) ∧ Below w.heap.size w w'
 | 0, _, _, _, _, _, _, h, _ => h.elim
 | d + 1, e, A, c, w, L, L2, h, hR => by
  have IH := pEval_any rv row d
  obtain ⟨op, n, ⟨k1, k2, s⟩, nm, es⟩ := e
  unfold evE exV
  dsimp only at h ⊢
  obtain ⟨A', c', hv', hl, _⟩ := id h
  cases hwf : wfE op n k1 k2 s nm es.length
  ·rw [if_neg (by simp)]
   obtain ⟨Ar, cr, rfl, _, _⟩ := hR
   exact ev_bad op n k1 k2 s nm A es.length c row Ar cr w hwf
  ·rw [if_pos rfl]
   have hA : ∀ (W : World) (g h : Nat), Below w.heap.size w W → W.cell? ⟨g, 6, none⟩ = some (.slice A es.length c) → W.cell? ⟨h, 0, none⟩ = some rv → Args W (.pointer (some ⟨g, 0, none⟩)) (.pointer (some ⟨h, 0, none⟩)) (es.map (evE row d)) :=
    fun W g h' hW x6 xr => args_of row d es A c rv g h' W L L2 x6 xr (h.step hW (Nat.le_refl _)) (hR.step hW (Nat.le_refl _)) IH
   have hV : ∀ p ∈ es.map (evE row d), vldP p = true := fun p hp => by obtain ⟨a, _, rfl⟩ := List.mem_map.1 hp; exact vld_evE row d a
   have hk := knw_cases (wf_knw hwf)
   rw [← List.length_map (evE row d)] at hl hwf hA ⊢
   generalize es.map (evE row d) = l at *
   clear h hv' IH
   rcases hk with rfl | rfl | hk | hk | hk | rfl | rfl | rfl | rfl | rfl | rfl | rfl
   ·exact ev_const n k1 k2 s nm rv row l A c w L2 hR hl hV hwf hA
   ·exact ev_col n k1 k2 s nm rv row l A c w L2 hR hl hV hwf hA
   ·have h := ev_log op hk n k1 k2 s nm rv row l A c w L2 hR hl hV hwf hA
    rwa [show opE op n (k1, k2, s) row l = ofP (logP op l) by unfold opE; rw [if_neg (by omega), if_neg (by omega), if_pos hk]]
   ·rcases hk with rfl | rfl | rfl | rfl | rfl | rfl
    ·exact ev_7 n k1 k2 s nm rv row l A c w L2 hR hl hV hwf hA
    ·exact ev_8 n k1 k2 s nm rv row l A c w L2 hR hl hV hwf hA
    ·exact ev_9 n k1 k2 s nm rv row l A c w L2 hR hl hV hwf hA
    ·exact ev_10 n k1 k2 s nm rv row l A c w L2 hR hl hV hwf hA
    ·exact ev_11 n k1 k2 s nm rv row l A c w L2 hR hl hV hwf hA
    ·exact ev_12 n k1 k2 s nm rv row l A c w L2 hR hl hV hwf hA
   ·rcases hk with rfl | rfl | rfl | rfl | rfl
    ·exact ev_13 n k1 k2 s nm rv row l A c w L2 hR hl hV hwf hA
    ·exact ev_14 n k1 k2 s nm rv row l A c w L2 hR hl hV hwf hA
    ·exact ev_15 n k1 k2 s nm rv row l A c w L2 hR hl hV hwf hA
    ·exact ev_16 n k1 k2 s nm rv row l A c w L2 hR hl hV hwf hA
    ·exact ev_17 n k1 k2 s nm rv row l A c w L2 hR hl hV hwf hA
   ·exact ev_neg n k1 k2 s nm rv row l A c w L2 hR hl hV hwf hA
   ·exact ev_cat n k1 k2 s nm rv row l A c w L2 hR hl hV hwf hA
   ·exact ev_len n k1 k2 s nm rv row l A c w L2 hR hl hV hwf hA
   ·exact ev_null n k1 k2 s nm rv row l A c w L2 hR hl hV hwf hA
   ·exact ev_if n k1 k2 s nm rv row l A c w L2 hR hl hV hwf hA
   ·exact ev_fst n k1 k2 s nm rv row l A c w L2 hR hl hV hwf hA
   ·exact ev_rel n k1 k2 s nm rv row l A c w L2 hR hl hV hwf hA
theorem pTruthE_any (rv : Value) (row : List Vl) (d : Nat) (e : Ex) (A : Option Addr) (c : Nat) (w : World) (L L2 : Nat) (h : RdE w L w.heap.size d (.slice A e.args.length c) e.args) (hR : RdV w L2 w.heap.size rv row) :
  Calls Tryz.prog 63 #[exV e (.slice A e.args.length c), rv] w fun e' w' => e' = .returned (.int .i64 (truP (evE row d e))) ∧ Below w.heap.size w w' := by
 have b1 := bel_mk w (.cells (exA e (.slice A e.args.length c)) 26)
 unfold exA at b1
 have hev := pEval_any rv row d e A c _ L L2 (h.step b1 (Nat.le_refl _)) (hR.step b1 (Nat.le_refl _))
 unfold exV at *
 have HT := Lib.hid (fun W => eTruth (evE row d e) W)
 generalize evE row d e = r at *
 have HV := Lib.hid hev
 have HB := Lib.hid b1
 clear hev b1 h hR
 go_enter Tryz.func63, Tryz.ntmps63
 go_wp2_with fail
 with_reducible refine HV.out.mono ?_
 rintro e w3 ⟨rfl, hb3⟩
 have B3 := HB.out.trans (hb3.mono HB.out.size)
 go_wp2_with fail
 with_reducible refine (HT.out _).mono ?_
 rintro e w4 ⟨rfl, hb4⟩
 go_wp2
 go_ret
 exact ⟨rfl, B3.trans (hb4.mono B3.size)⟩
end Go.Proofs.YtdhemhmgenhmaaaGreat
namespace Go.Proofs.YtdhemhmgenhmaaaGreat
open Go.ChangeShapes Go.WideShapes Go.ChangeAt Go.RowKit Go.Joins Go.Deep
theorem cellsExp : Tryz.prog.cellsOf 26 = 7 := by kernel_rfl
theorem cellsExps : Tryz.prog.cellsOf 24 = 1 := by kernel_rfl
theorem cellsIntX : Tryz.prog.cellsOf 3 = 1 := by kernel_rfl
theorem cellsStrX : Tryz.prog.cellsOf 9 = 1 := by kernel_rfl
theorem cellsValX : Tryz.prog.cellsOf 23 = 3 := by kernel_rfl
theorem cell_ltX {w : World} {a : Addr} {v : Value} (h : w.cell? a = some v) : a.block < w.heap.size := World.block_lt_of_cell? w a h
theorem bulk_posX {H : Type} (d : DataW H) : 1 ≤ Rows.uptoBulk d := by
 unfold Rows.uptoBulk
 split <;> omega
theorem bulk_lenX {H : Type} (D : Nat → DataW H) : ∀ l : List Nat, l.length ≤ Rows.uptoBulkAll (l.map D)
 | [] => by simp
 | j :: l => by
  have h1 := bulk_posX (D j)
  have h2 := bulk_lenX D l
  simp only [List.map_cons, Rows.uptoBulkAll, List.length_cons]
  omega
theorem bulk_memX {H : Type} (D : Nat → DataW H) : ∀ (l : List Nat) (i : Nat), i ∈ l → Rows.uptoBulk (D i) ≤ Rows.uptoBulkAll (l.map D)
 | j :: l, i, h => by
  simp only [List.map_cons, Rows.uptoBulkAll]
  rcases List.mem_cons.1 h with rfl | h
  ·omega
  ·have := bulk_memX D l i h; omega
section
variable {H : Type} {enc : TypeId × Value → H} {W : World} {base : Nat}
end
end Go.Proofs.YtdhemhmgenhmaaaGreat
namespace Go.Proofs.YtdhemhmgenhmaaaGreat
open Go.RowKit
theorem fNull (w : World) : Calls Tryz.prog 20 #[] w fun e w' => e = .returned (valV nullP) ∧ Below w.heap.size w w' := Va.rNull_any w
theorem fInt (n : Int) (w : World) : Calls Tryz.prog 28 #[.int .i64 n] w fun e w' => e = .returned (valV (intP n)) ∧ Below w.heap.size w w' := by
 have h := Va.rInt_any n w
 rwa [nrm_eq] at h
theorem fText (s : ByteArray) (w : World) : Calls Tryz.prog 73 #[.string s] w fun e w' => e = .returned (valV (txtP s)) ∧ Below w.heap.size w w' := by
 have h := Va.rText_any s w
 rwa [nrm_eq] at h
theorem fBool (b : Bool) (w : World) : Calls Tryz.prog 30 #[.bool b] w fun e w' => e = .returned (valV (booP b)) ∧ Below w.heap.size w w' := Va.rBool_any b w
theorem fOf (t : Int) (w : World) : Calls Tryz.prog 22 #[.int .i64 t] w fun e w' => e = .returned (valV (ofP t)) ∧ Below w.heap.size w w' := by
 have h := Va.rOf_any t w
 rwa [of_eq] at h
theorem fTruth (p : Vl) (w : World) : Calls Tryz.prog 24 #[valV p] w fun e w' => e = .returned (.int .i64 (truP p)) ∧ Below w.heap.size w w' := Va.rTruth_any p.1 p.2.1 p.2.2 w
def areP (kd : Int) (l : List Vl) : Bool := l.all fun p => p.1 == kd
theorem areP_drop (kd : Int) (l : List Vl) (k : Nat) (p : Vl) (h : l[k]? = some p) : areP kd (l.drop k) = ((p.1 == kd) && areP kd (l.drop (k + 1))) := by
 obtain ⟨h1, rfl⟩ := List.getElem?_eq_some_iff.1 h
 rw [List.drop_eq_getElem_cons h1]
 rfl
theorem rAre_any (v : Value) (l : List Vl) (kd : Int) (w : World) (L : Nat) (hv : RdV w L w.heap.size v l) :
  Calls Tryz.prog 27 #[v, .int .i64 kd] w fun e w' => e = .returned (.bool (areP kd l)) ∧ Below w.heap.size w w' := by
 obtain ⟨A, c, rfl, hl, hc⟩ := hv
 have HC := Lib.hid hc
 clear hc
 go_enter Tryz.func27, Tryz.ntmps27
 go_wp2
 go_loopw [5] (fun i wr => ∃ (k : Nat), k ≤ l.length ∧ i = .int .i64 k ∧ Hid (areP kd l = areP kd (l.drop k)) ∧ Below w.heap.size w wr) (fun i _ => l.length - (intOf i).toNat)
 case atStart => exact ⟨0, Nat.zero_le _, rfl, Lib.hid rfl, Below.refl _ _⟩
 case round =>
  obtain ⟨k, hk, rfl, HR, hbr⟩ := hrel
  have hbz := hbr.size
  by_cases hlt : k < l.length
  ·have hki : (k : Int) < l.length := by omega
   obtain ⟨ad, rfl, _, hab, c0, _, _⟩ := HC.out k _ (List.getElem?_eq_getElem hlt)
   have d0 := (hbr.cell (p := ad.add (k * 3)) (by rw [add_block]; exact hab)).trans c0
   have hj := areP_drop kd l k _ (List.getElem?_eq_getElem hlt)
   rw [← HR.out] at hj
   have HJ := Lib.hid hj
   clear hj c0 HR
   generalize l[k] = p at *
   obtain ⟨z, n, s⟩ := p
   dsimp only at d0 HJ
   by_cases z1 : z = kd
   ·have e1 : (z != kd) = false := by simp [z1]
    have HF := Lib.hid (show areP kd l = areP kd (l.drop (k + 1)) by rw [HJ.out, show (z == kd) = true by simp [z1], Bool.true_and])
    clear HJ z1
    go_wp2
    go_round
    case rel => exact ⟨k + 1, by omega, by go_num, HF, hbr⟩
    case measure => simp [intOf]; omega
   ·have e1 : (z != kd) = true := by simp [z1]
    have HF := Lib.hid (show areP kd l = false by rw [HJ.out, show (z == kd) = false by simp [z1], Bool.false_and])
    clear HJ z1
    go_wp2
    go_ret
    exact ⟨by rw [HF.out]; rfl, hbr⟩
  ·have hki : ¬ (k : Int) < l.length := by omega
   have HF := Lib.hid (show areP kd l = true by rw [HR.out, List.drop_eq_nil_of_le (by omega)]; rfl)
   clear HR
   go_wp2
   go_ret
   exact ⟨by rw [HF.out]; rfl, hbr⟩
theorem rCmq_any (op k x k2 y : Int) (s s2 : ByteArray) (w : World) (hop : op = 7 ∨ op = 8 ∨ op = 9 ∨ op = 10 ∨ op = 11 ∨ op = 12) :
  Calls Tryz.prog 26 #[.int .i64 op, .agg #[.int .i64 k, .int .i64 x, .string s], .agg #[.int .i64 k2, .int .i64 y, .string s2]] w fun e w' => e = .returned (.int .i64 (cmqP op (k, x, s) (k2, y, s2))) ∧ Below w.heap.size w w' := by
 unfold cmqP eqlP lesP
 dsimp only
 have hE := fun W => Va.rEqual_any k x s k2 y s2 W
 have hL := fun W => Va.rLess_any k x s k2 y s2 W
 have hM := fun W => Va.rLess_any k2 y s2 k x s W
 unfold Va.vV at hE hL hM
 generalize Va.eqlV k x s k2 y s2 = E at *
 generalize Va.lesV k x s k2 y s2 = L at *
 generalize Va.lesV k2 y s2 k x s = M at *
 have hn := fun t W => Va.rNot_any t W
 rcases hop with rfl | rfl | rfl | rfl | rfl | rfl
 ·go_enter Tryz.func26, Tryz.ntmps26
  go_wp2_with fail
  with_reducible refine (hE _).mono ?_
  rintro e w1 ⟨rfl, hb⟩
  go_wp2
  go_ret
  refine ⟨rfl, ?_⟩
  (repeat' first | (with_reducible first | exact Below.refl _ _ | assumption | refine Below.alloc ?_ ?_ _ | refine Below.drew ?_ | refine Below.setCell ?_ ?_ _ | refine Below.trans ?_ (Below.mono (by assumption) ?_)) | go_size)
 ·go_enter Tryz.func26, Tryz.ntmps26
  go_wp2_with fail
  with_reducible refine (hE _).mono ?_
  rintro e w1 ⟨rfl, hb⟩
  go_wp2_with fail
  with_reducible refine (hn _ _).mono ?_
  rintro e w2 ⟨rfl, hb2⟩
  have hb3 := hb.trans (hb2.mono hb.size)
  go_wp2
  go_ret
  refine ⟨rfl, ?_⟩
  clear hb hb2
  (repeat' first | (with_reducible first | exact Below.refl _ _ | assumption | refine Below.alloc ?_ ?_ _ | refine Below.drew ?_ | refine Below.setCell ?_ ?_ _ | refine Below.trans ?_ (Below.mono (by assumption) ?_)) | go_size)
 ·go_enter Tryz.func26, Tryz.ntmps26
  go_wp2_with fail
  with_reducible refine (hL _).mono ?_
  rintro e w1 ⟨rfl, hb⟩
  go_wp2
  go_ret
  refine ⟨rfl, ?_⟩
  (repeat' first | (with_reducible first | exact Below.refl _ _ | assumption | refine Below.alloc ?_ ?_ _ | refine Below.drew ?_ | refine Below.setCell ?_ ?_ _ | refine Below.trans ?_ (Below.mono (by assumption) ?_)) | go_size)
 ·go_enter Tryz.func26, Tryz.ntmps26
  go_wp2_with fail
  with_reducible refine (hM _).mono ?_
  rintro e w1 ⟨rfl, hb⟩
  go_wp2_with fail
  with_reducible refine (hn _ _).mono ?_
  rintro e w2 ⟨rfl, hb2⟩
  have hb3 := hb.trans (hb2.mono hb.size)
  go_wp2
  go_ret
  refine ⟨rfl, ?_⟩
  clear hb hb2
  (repeat' first | (with_reducible first | exact Below.refl _ _ | assumption | refine Below.alloc ?_ ?_ _ | refine Below.drew ?_ | refine Below.setCell ?_ ?_ _ | refine Below.trans ?_ (Below.mono (by assumption) ?_)) | go_size)
 ·go_enter Tryz.func26, Tryz.ntmps26
  go_wp2_with fail
  with_reducible refine (hM _).mono ?_
  rintro e w1 ⟨rfl, hb⟩
  go_wp2
  go_ret
  refine ⟨rfl, ?_⟩
  (repeat' first | (with_reducible first | exact Below.refl _ _ | assumption | refine Below.alloc ?_ ?_ _ | refine Below.drew ?_ | refine Below.setCell ?_ ?_ _ | refine Below.trans ?_ (Below.mono (by assumption) ?_)) | go_size)
 ·go_enter Tryz.func26, Tryz.ntmps26
  go_wp2_with fail
  with_reducible refine (hL _).mono ?_
  rintro e w1 ⟨rfl, hb⟩
  go_wp2_with fail
  with_reducible refine (hn _ _).mono ?_
  rintro e w2 ⟨rfl, hb2⟩
  have hb3 := hb.trans (hb2.mono hb.size)
  go_wp2
  go_ret
  refine ⟨rfl, ?_⟩
  clear hb hb2
  (repeat' first | (with_reducible first | exact Below.refl _ _ | assumption | refine Below.alloc ?_ ?_ _ | refine Below.drew ?_ | refine Below.setCell ?_ ?_ _ | refine Below.trans ?_ (Below.mono (by assumption) ?_)) | go_size)
theorem rAbs_any (n : Int) (w : World) (h1 : -1125899906842624 ≤ n) (h2 : n ≤ 1125899906842624) : Calls Tryz.prog 75 #[.int .i64 n] w fun e w' => e = .returned (.int .i64 (max n (-n))) ∧ Below w.heap.size w w' := by
 go_enter Tryz.func75, Tryz.ntmps75
 go_wp2
 all_goals
  go_ret
  refine ⟨by first | rfl | (simp; omega), ?_⟩
  (repeat' first | (with_reducible first | exact Below.refl _ _ | assumption | refine Below.alloc ?_ ?_ _ | refine Below.drew ?_ | refine Below.setCell ?_ ?_ _ | refine Below.trans ?_ (Below.mono (by assumption) ?_)) | go_size)
theorem rComp_any (op x y : Int) (s s2 : ByteArray) (w : World) (hx1 : -1125899906842624 ≤ x) (hx2 : x ≤ 1125899906842624) (hy1 : -1125899906842624 ≤ y) (hy2 : y ≤ 1125899906842624) (hop : op = 13 ∨ op = 14 ∨ op = 15 ∨ op = 16 ∨ op = 17) :
  Calls Tryz.prog 33 #[.int .i64 op, .int .i64 x, .int .i64 y] w fun e w' => e = .returned (valV (ariP op (1, x, s) (1, y, s2))) ∧ Below w.heap.size w w' := by
 have oB := own_onez w
 unfold ariP
 rw [if_pos ⟨rfl, rfl⟩]
 dsimp only
 rcases hop with rfl | rfl | rfl | hop
 ·rw [if_pos rfl]
  have hI := fun W => fInt (x + y) W
  generalize intP (x + y) = r at *
  obtain ⟨r1, r2, r3⟩ := r
  unfold valV at *
  dsimp only at hI ⊢
  go_enter Tryz.func33, Tryz.ntmps33
  go_wp2_with fail
  with_reducible refine (hI _).mono ?_
  rintro e w1 ⟨rfl, hb1⟩
  have z1 := hb1.size
  simp only [World.size_alloc] at z1
  have o1 := oB.below hb1 (by simp only [World.size_alloc]; omega)
  have d0 := o1.cell 0; have e0 := o1.free 0; have d1 := o1.cell 1; have e1 := o1.free 1; have d2 := o1.cell 2; have e2 := o1.free 2; (try simp only [List.getElem?_toArray, List.getElem?_cons_zero, List.getElem?_cons_succ] at d0 d1 d2)
  go_wp2
  (try simp only [Exit.inBlock, Exit.then]); refine bodyPost_ret_by (results_cell_row1 (by rfl) _ _ (w.heap.size) _ (by rfl) (load_val (((o1.store 0 _).store 1 _).store 2 _))) ?_ ?_; (focus rfl); refine ⟨rfl, ?_⟩
  (repeat' first | (with_reducible first | exact Below.refl _ _ | assumption | refine Below.alloc ?_ ?_ _ | refine Below.drew ?_ | refine Below.setCell ?_ ?_ _ | refine Below.trans ?_ (Below.mono (by assumption) ?_)) | go_size)
 ·rw [if_neg (by decide), if_pos rfl]
  have hI : ∀ W, Calls Tryz.prog 28 #[.int .i64 (x - y)] W fun e w' => e = .returned (valV (intP (x + -y))) ∧ Below W.heap.size W w' := fun W => by rw [← Int.sub_eq_add_neg]; exact fInt (x - y) W
  generalize intP (x + -y) = r at *
  obtain ⟨r1, r2, r3⟩ := r
  unfold valV at *
  dsimp only at hI ⊢
  go_enter Tryz.func33, Tryz.ntmps33
  go_wp2_with fail
  with_reducible refine (hI _).mono ?_
  rintro e w1 ⟨rfl, hb1⟩
  have z1 := hb1.size
  simp only [World.size_alloc] at z1
  have o1 := oB.below hb1 (by simp only [World.size_alloc]; omega)
  have d0 := o1.cell 0; have e0 := o1.free 0; have d1 := o1.cell 1; have e1 := o1.free 1; have d2 := o1.cell 2; have e2 := o1.free 2; (try simp only [List.getElem?_toArray, List.getElem?_cons_zero, List.getElem?_cons_succ] at d0 d1 d2)
  go_wp2
  (try simp only [Exit.inBlock, Exit.then]); refine bodyPost_ret_by (results_cell_row1 (by rfl) _ _ (w.heap.size) _ (by rfl) (load_val (((o1.store 0 _).store 1 _).store 2 _))) ?_ ?_; (focus rfl); refine ⟨rfl, ?_⟩
  (repeat' first | (with_reducible first | exact Below.refl _ _ | assumption | refine Below.alloc ?_ ?_ _ | refine Below.drew ?_ | refine Below.setCell ?_ ?_ _ | refine Below.trans ?_ (Below.mono (by assumption) ?_)) | go_size)
 ·rw [if_neg (by decide), if_neg (by decide), if_pos rfl]
  unfold mulP
  have hN := fun W => fNull W
  have hX := fun W => rAbs_any x W hx1 hx2
  have hY := fun W => rAbs_any y W hy1 hy2
  by_cases x0 : x = 0
  ·subst x0
   rw [if_neg (by simp)]
   simp only [Int.zero_mul]
   have hI : ∀ W, Calls Tryz.prog 28 #[.int .i64 0] W fun e w' => e = .returned (valV (intP 0)) ∧ Below W.heap.size W w' := fun W => fInt 0 W
   generalize intP 0 = r at *
   obtain ⟨r1, r2, r3⟩ := r
   unfold valV at *
   dsimp only at hI ⊢
   go_enter Tryz.func33, Tryz.ntmps33
   go_wp2_with fail
   with_reducible refine (hI _).mono ?_
   rintro e w1 ⟨rfl, hb1⟩
   have z1 := hb1.size
   simp only [World.size_alloc] at z1
   have o1 := oB.below hb1 (by simp only [World.size_alloc]; omega)
   have d0 := o1.cell 0; have e0 := o1.free 0; have d1 := o1.cell 1; have e1 := o1.free 1; have d2 := o1.cell 2; have e2 := o1.free 2; (try simp only [List.getElem?_toArray, List.getElem?_cons_zero, List.getElem?_cons_succ] at d0 d1 d2)
   go_wp2
   (try simp only [Exit.inBlock, Exit.then]); refine bodyPost_ret_by (results_cell_row1 (by rfl) _ _ (w.heap.size) _ (by rfl) (load_val (((o1.store 0 _).store 1 _).store 2 _))) ?_ ?_; (focus rfl); refine ⟨rfl, ?_⟩
   (repeat' first | (with_reducible first | exact Below.refl _ _ | assumption | refine Below.alloc ?_ ?_ _ | refine Below.drew ?_ | refine Below.setCell ?_ ?_ _ | refine Below.trans ?_ (Below.mono (by assumption) ?_)) | go_size)
  have e1 : (x != 0) = true := by simp [x0]
  have e0 : (x == 0) = false := by simp [x0]
  have hm0 : ¬ max x (-x) = 0 := by omega
  have hmp : 0 < max x (-x) := by omega
  have hmb : max x (-x) ≤ 1125899906842624 := by omega
  have hnb : max y (-y) ≤ 1125899906842624 := by omega
  by_cases hc : 1125899906842624 / max x (-x) < max y (-y)
  ·rw [if_pos ⟨x0, hc⟩]
   unfold valV nullP at *
   dsimp only at hN ⊢
   go_enter Tryz.func33, Tryz.ntmps33
   go_wp2_with fail
   with_reducible refine (hY _).mono ?_
   rintro e w1 ⟨rfl, hb1⟩
   go_wp2_with fail
   with_reducible refine (hX _).mono ?_
   rintro e w2 ⟨rfl, hb2⟩
   have o1 := oB.below hb1 oB.lt
   have o2 := o1.below hb2 o1.lt
   have B2 := ((bel_mk w _).trans (hb1.mono (bel_mk w _).size)).trans (hb2.mono ((bel_mk w _).trans (hb1.mono (bel_mk w _).size)).size)
   clear hb1 hb2 o1
   go_wp2_with fail
   with_reducible refine (hN _).mono ?_
   rintro e w3 ⟨rfl, hb3⟩
   have o3 := o2.below hb3 o2.lt
   have B3 := B2.trans (hb3.mono B2.size)
   clear hb3 B2
   have d0 := o3.cell 0; have e0 := o3.free 0; have d1 := o3.cell 1; have e1 := o3.free 1; have d2 := o3.cell 2; have e2 := o3.free 2; (try simp only [List.getElem?_toArray, List.getElem?_cons_zero, List.getElem?_cons_succ] at d0 d1 d2)
   go_wp2
   (try simp only [Exit.inBlock, Exit.then]); refine bodyPost_ret_by (results_cell_row1 (by rfl) _ _ (w.heap.size) _ (by rfl) (load_val (((o3.store 0 _).store 1 _).store 2 _))) ?_ ?_; (focus rfl); refine ⟨rfl, ?_⟩
   (repeat' first | (with_reducible first | exact Below.refl _ _ | assumption | refine Below.alloc ?_ ?_ _ | refine Below.drew ?_ | refine Below.setCell ?_ ?_ _ | refine Below.trans ?_ (Below.mono (by assumption) ?_)) | go_size)
  ·rw [if_neg (fun h => hc h.2)]
   have hw := wrap_mul (x := x) (y := y) (.inr (by omega))
   have hI := fun W => fInt (x * y) W
   generalize intP (x * y) = r at *
   obtain ⟨r1, r2, r3⟩ := r
   unfold valV at *
   dsimp only at hI ⊢
   go_enter Tryz.func33, Tryz.ntmps33
   go_wp2_with fail
   with_reducible refine (hY _).mono ?_
   rintro e w1 ⟨rfl, hb1⟩
   go_wp2_with fail
   with_reducible refine (hX _).mono ?_
   rintro e w2 ⟨rfl, hb2⟩
   have o1 := oB.below hb1 oB.lt
   have o2 := o1.below hb2 o1.lt
   have B2 := ((bel_mk w _).trans (hb1.mono (bel_mk w _).size)).trans (hb2.mono ((bel_mk w _).trans (hb1.mono (bel_mk w _).size)).size)
   clear hb1 hb2 o1
   go_wp2_with fail
   with_reducible refine (hI _).mono ?_
   rintro e w3 ⟨rfl, hb3⟩
   have o3 := o2.below hb3 o2.lt
   have B3 := B2.trans (hb3.mono B2.size)
   clear hb3 B2
   have d0 := o3.cell 0; have e0 := o3.free 0; have d1 := o3.cell 1; have e1 := o3.free 1; have d2 := o3.cell 2; have e2 := o3.free 2; (try simp only [List.getElem?_toArray, List.getElem?_cons_zero, List.getElem?_cons_succ] at d0 d1 d2)
   go_wp2
   (try simp only [Exit.inBlock, Exit.then]); refine bodyPost_ret_by (results_cell_row1 (by rfl) _ _ (w.heap.size) _ (by rfl) (load_val (((o3.store 0 _).store 1 _).store 2 _))) ?_ ?_; (focus rfl); refine ⟨rfl, ?_⟩
   (repeat' first | (with_reducible first | exact Below.refl _ _ | assumption | refine Below.alloc ?_ ?_ _ | refine Below.drew ?_ | refine Below.setCell ?_ ?_ _ | refine Below.trans ?_ (Below.mono (by assumption) ?_)) | go_size)
 rw [if_neg (by omega), if_neg (by omega), if_neg (by omega)]
 by_cases y0 : y = 0
 ·subst y0
  rw [if_pos rfl]
  have hI := fun W => fNull W
  rcases hop with rfl | rfl
  all_goals
   generalize nullP = r at *
   obtain ⟨r1, r2, r3⟩ := r
   unfold valV at *
   dsimp only at hI ⊢
   go_enter Tryz.func33, Tryz.ntmps33
   go_wp2_with fail
   with_reducible refine (hI _).mono ?_
   rintro e w1 ⟨rfl, hb1⟩
   have z1 := hb1.size
   simp only [World.size_alloc] at z1
   have o1 := oB.below hb1 (by simp only [World.size_alloc]; omega)
   have d0 := o1.cell 0; have e0 := o1.free 0; have d1 := o1.cell 1; have e1 := o1.free 1; have d2 := o1.cell 2; have e2 := o1.free 2; (try simp only [List.getElem?_toArray, List.getElem?_cons_zero, List.getElem?_cons_succ] at d0 d1 d2)
   go_wp2
   (try simp only [Exit.inBlock, Exit.then]); refine bodyPost_ret_by (results_cell_row1 (by rfl) _ _ (w.heap.size) _ (by rfl) (load_val (((o1.store 0 _).store 1 _).store 2 _))) ?_ ?_; (focus rfl); refine ⟨rfl, ?_⟩
   (repeat' first | (with_reducible first | exact Below.refl _ _ | assumption | refine Below.alloc ?_ ?_ _ | refine Below.drew ?_ | refine Below.setCell ?_ ?_ _ | refine Below.trans ?_ (Below.mono (by assumption) ?_)) | go_size)
 have y1 : (y == 0) = false := by simp [y0]
 rw [if_neg y0]
 rcases hop with rfl | rfl
 ·rw [if_pos rfl]
  have hI := fun W => fInt (wrap64 (x.tdiv y)) W
  generalize intP (wrap64 (x.tdiv y)) = r at *
  obtain ⟨r1, r2, r3⟩ := r
  unfold valV at *
  dsimp only at hI ⊢
  go_enter Tryz.func33, Tryz.ntmps33
  go_wp2_with fail
  with_reducible refine (hI _).mono ?_
  rintro e w1 ⟨rfl, hb1⟩
  have z1 := hb1.size
  simp only [World.size_alloc] at z1
  have o1 := oB.below hb1 (by simp only [World.size_alloc]; omega)
  have d0 := o1.cell 0; have e0 := o1.free 0; have d1 := o1.cell 1; have e1 := o1.free 1; have d2 := o1.cell 2; have e2 := o1.free 2; (try simp only [List.getElem?_toArray, List.getElem?_cons_zero, List.getElem?_cons_succ] at d0 d1 d2)
  go_wp2
  (try simp only [Exit.inBlock, Exit.then]); refine bodyPost_ret_by (results_cell_row1 (by rfl) _ _ (w.heap.size) _ (by rfl) (load_val (((o1.store 0 _).store 1 _).store 2 _))) ?_ ?_; (focus rfl); refine ⟨rfl, ?_⟩
  (repeat' first | (with_reducible first | exact Below.refl _ _ | assumption | refine Below.alloc ?_ ?_ _ | refine Below.drew ?_ | refine Below.setCell ?_ ?_ _ | refine Below.trans ?_ (Below.mono (by assumption) ?_)) | go_size)
 ·rw [if_neg (by decide)]
  have hI := fun W => fInt (x.tmod y) W
  generalize intP (x.tmod y) = r at *
  obtain ⟨r1, r2, r3⟩ := r
  unfold valV at *
  dsimp only at hI ⊢
  go_enter Tryz.func33, Tryz.ntmps33
  go_wp2_with fail
  with_reducible refine (hI _).mono ?_
  rintro e w1 ⟨rfl, hb1⟩
  have z1 := hb1.size
  simp only [World.size_alloc] at z1
  have o1 := oB.below hb1 (by simp only [World.size_alloc]; omega)
  have d0 := o1.cell 0; have e0 := o1.free 0; have d1 := o1.cell 1; have e1 := o1.free 1; have d2 := o1.cell 2; have e2 := o1.free 2; (try simp only [List.getElem?_toArray, List.getElem?_cons_zero, List.getElem?_cons_succ] at d0 d1 d2)
  go_wp2
  (try simp only [Exit.inBlock, Exit.then]); refine bodyPost_ret_by (results_cell_row1 (by rfl) _ _ (w.heap.size) _ (by rfl) (load_val (((o1.store 0 _).store 1 _).store 2 _))) ?_ ?_; (focus rfl); refine ⟨rfl, ?_⟩
  (repeat' first | (with_reducible first | exact Below.refl _ _ | assumption | refine Below.alloc ?_ ?_ _ | refine Below.drew ?_ | refine Below.setCell ?_ ?_ _ | refine Below.trans ?_ (Below.mono (by assumption) ?_)) | go_size)
end Go.Proofs.YtdhemhmgenhmaaaGreat
namespace Go.Proofs.YtdhemhmgenhmaaaGreat
open Go.RowKit
def numE (n : Int) : Ex := ⟨1, 0, (1, n, ⟨#[]⟩), ⟨#[]⟩, []⟩
def IsE (d : Nat) (e : Ex) (v : Value) (W : World) : Prop := ∃ A c, v = exV e (.slice A e.args.length c) ∧ RdE W 0 W.heap.size d (.slice A e.args.length c) e.args
def exF (d : Nat) (e : Ex) : Fact := ⟨IsE d e, fun _ _ _ ⟨A, c, hv, hr⟩ hb => ⟨A, c, hv, hr.step hb (Nat.le_refl _)⟩⟩
theorem rdE_nil (W : World) (L B d : Nat) (hd : 0 < d) : RdE W L B d (.slice none 0 0) [] := by
 obtain ⟨k, rfl⟩ : ∃ k, d = k + 1 := ⟨d - 1, by omega⟩
 exact ⟨none, 0, rfl, by simp, by simp⟩
theorem load_exp {w : World} {g : Nat} {a b c d e f u : Value} (h : Own w g 26 #[a, b, c, d, e, f, u]) : (loadVar 26 ⟨g, 0, none⟩).run Tryz.prog w = .ok (.agg #[a, b, c, d, e, f, u]) w :=
 run_loadVar_row w g 26 26 #[a, b, c, d, e, f, u] (0, 0) _ h Tryz.underlying26 rfl (by kernel_rfl)
theorem rdE_two {W : World} {g d : Nat} {a b : Ex} {Aa Ab : Option Addr} {ca cb : Nat} (ha : RdE W 0 W.heap.size d (.slice Aa a.args.length ca) a.args) (hb : RdE W 0 W.heap.size d (.slice Ab b.args.length cb) b.args)
  (ho : Own W g 26 #[.int .i64 a.op, .int .i64 a.n, .int .i64 a.v.1, .int .i64 a.v.2.1, .string a.v.2.2, .string a.nm, .slice Aa a.args.length ca, .int .i64 b.op, .int .i64 b.n, .int .i64 b.v.1, .int .i64 b.v.2.1, .string b.v.2.2, .string b.nm, .slice Ab b.args.length cb]) :
  RdE W 0 W.heap.size (d + 1) (.slice (some ⟨g, 0, none⟩) 2 2) [a, b] := by
 refine ⟨some ⟨g, 0, none⟩, 2, rfl, by simp, fun k e hk => ?_⟩
 match k, hk with
 | 0, hk =>
  injection hk with hk
  subst hk
  refine ⟨⟨g, 0, none⟩, _, rfl, Nat.zero_le _, ho.lt, ?_, ha⟩
  rw [show ((⟨g, 0, none⟩ : Addr).add (0 * 7)) = ⟨g, 0, none⟩ by rfl]
  exact ⟨ho.cell 0, ho.cell 1, ho.cell 2, ho.cell 3, ho.cell 4, ho.cell 5, ho.cell 6⟩
 | 1, hk =>
  injection hk with hk
  subst hk
  refine ⟨⟨g, 0, none⟩, _, rfl, Nat.zero_le _, ho.lt, ?_, hb⟩
  rw [show ((⟨g, 0, none⟩ : Addr).add (1 * 7)) = ⟨g, 7, none⟩ by rfl]
  exact ⟨ho.cell 7, ho.cell 8, ho.cell 9, ho.cell 10, ho.cell 11, ho.cell 12, ho.cell 13⟩
 | k + 2, hk => simp at hk
theorem own_four {w : World} {t : TypeId} {cs : Array Value} (o o2 o3 : Obj) : Own ((((w.alloc o).alloc o2).alloc o3).alloc (.cells cs t)) (w.heap.size + 1 + 1 + 1) t cs := by
 have h := Own.new (((w.alloc o).alloc o2).alloc o3) t cs
 rwa [World.size_alloc, World.size_alloc, World.size_alloc] at h
theorem own_three0 {w : World} {t : TypeId} {cs : Array Value} (o o2 : Obj) : Own (((w.alloc o).alloc o2).alloc (.cells cs t)) (w.heap.size + 1 + 1) t cs := by
 have h := Own.new ((w.alloc o).alloc o2) t cs
 rwa [World.size_alloc, World.size_alloc] at h
theorem below_four (w : World) (o o2 o3 o4 : Obj) : Below w.heap.size w ((((w.alloc o).alloc o2).alloc o3).alloc o4) :=
 (((bel_mk w o).trans ((bel_mk _ o2).mono (by simp))).trans ((bel_mk _ o3).mono (by simp; omega))).trans ((bel_mk _ o4).mono (by simp; omega))
end Go.Proofs.YtdhemhmgenhmaaaGreat
