import Derived.Test.YtpiadcfejbnonaaRFa
import Derived.Test.YtpiadcfejbnonaaRFb
import Derived.Test.YtpiadcfejbnonaaRFc
import Derived.Test.YtpiadcfejbnonaaRFd
import Derived.Test.YtpiadcfejbnonaaRFe
import Derived.Test.YtpiadcfejbnonaaRFf
import Derived.Test.YtpiadcfejbnonaaRFg
import Derived.WalkKit
import Derived.WalkSpells
import Derived.WalkLawsBesides
import Derived.Deep.QuietTactic
import Derived.BigQuiet
import Derived.Handy
import Derived.Lib.Hide
import Derived.Test.YtpiadcfejbnonaaQW
import Derived.Laws.StructEq
/-
  The value of an expression, by the reference: Eval. Conditions: lengths, a bounded depth.
-/
namespace Go.Proofs.Ytpiadcfejbnonaa
set_option linter.unusedVariables false
set_option linter.unusedSimpArgs false
set_option linter.unusedVariables false
set_option linter.unusedSimpArgs false
set_option linter.unusedVariables false
set_option linter.unusedSimpArgs false
set_option maxRecDepth 100000
open Go.RowKit

set_option maxRecDepth 100000 in
set_option maxHeartbeats 12800000 in
theorem rEval_any (rv : Value) (row : List Vl) : ∀ (d : Nat) (e : Ex) (u : Value) (w : World) (L L2 : Nat), RdE w L w.heap.size d u e.args → RdV w L2 w.heap.size rv row →
    Calls Try.prog 13 #[exV e u, rv] w fun e' w' => e' = .returned (valV (evE row d e)) ∧ Below w.heap.size w w'
  | 0, _, _, _, _, _, h, _ => h.elim
  | d + 1, e, u, w, L, L2, h, hz => by
    have IH := Lib.hid (rEval_any rv row d)
    obtain ⟨op, n, ⟨k1, k2, s⟩, nm, es⟩ := e
    unfold evE exV
    dsimp only at h ⊢
    obtain ⟨A, c, rfl, hl, hc⟩ := h
    have HC := Lib.hid hc
    have HZ := Lib.hid hz
    have HF := Lib.hid (fun W => rFormed_any op n k1 k2 s nm A es.length c W hl)
    cases hW : wfE op n k1 k2 s nm es.length
    · rw [if_neg (by simp)]
      rw [hW] at HF
      have hN := fun W => fNull W
      unfold valV nullP at hN ⊢
      dsimp only at hN ⊢
      have HN := Lib.hid hN
      clear hW HC HZ IH hN
      have o0 := (Va.own_two (w := w) _ : Own ((w.alloc (.cells #[.int .i64 op, .int .i64 n, .int .i64 k1, .int .i64 k2, .string s, .string nm, .slice A es.length c] 26)).alloc (.cells #[.int .i64 0, .int .i64 0, .string ⟨#[]⟩] 23)) (w.heap.size + 1) 23 #[.int .i64 0, .int .i64 0, .string ⟨#[]⟩])
      have B0 : Below w.heap.size w ((w.alloc (.cells #[.int .i64 op, .int .i64 n, .int .i64 k1, .int .i64 k2, .string s, .string nm, .slice A es.length c] 26)).alloc (.cells #[.int .i64 0, .int .i64 0, .string ⟨#[]⟩] 23)) := (bel_mk w _).trans ((bel_mk _ _).mono (by simp))
      go_enter Try.func13, Try.ntmps13
      go_wp2_with fail
      with_reducible refine (HF.out _).mono ?_
      rintro e w1 ⟨rfl, hb1⟩
      have o1 := o0.below hb1 o0.lt
      have B1 := B0.trans (hb1.mono B0.size)
      clear hb1
      go_wp2_with fail
      with_reducible refine (HN.out _).mono ?_
      rintro e w2 ⟨rfl, hb2⟩
      have o2 := o1.below hb2 o1.lt
      have B2 := B1.trans (hb2.mono B1.size)
      clear hb2
      have d0 := o2.cell 0; have e0 := o2.free 0; have d1 := o2.cell 1; have e1 := o2.free 1; have d2 := o2.cell 2; have e2 := o2.free 2; (try simp only [List.getElem?_toArray, List.getElem?_cons_zero, List.getElem?_cons_succ] at d0 d1 d2)
      go_wp2
      (try simp only [Exit.inBlock, Exit.then]); refine bodyPost_ret_by (results_cell_row1 (by rfl) _ _ (w.heap.size + 1) _ (by rfl) (load_val (((o2.store 0 _).store 1 _).store 2 _))) ?_ ?_; (focus rfl); refine ⟨rfl, ?_⟩
      (repeat' (first | (with_reducible exact Below.refl _ _) | (with_reducible assumption) | (with_reducible refine Below.alloc ?_ ?_ _) | (with_reducible refine Below.drew ?_) | (with_reducible refine Below.setCell ?_ ?_ _) | (with_reducible refine Below.trans ?_ (Below.mono (by assumption) ?_)) | go_size))
    · rw [if_pos rfl]
      have hkn := knw_cases (wf_knw hW)
      have G := fun (o : Int) => opE o n (k1, k2, s) row (es.map (evE row d))
      have ga := fun hop => rEvG_a rv row d (rEval_any rv row d) op n k1 k2 s nm es hop hW A c w L L2 hl hc hz
      have gb := fun hop => rEvG_b rv row d (rEval_any rv row d) op n k1 k2 s nm es hop hW A c w L L2 hl hc hz
      have gc := fun hop => rEvG_c rv row d (rEval_any rv row d) op n k1 k2 s nm es hop hW A c w L L2 hl hc hz
      have gd := fun hop => rEvG_d rv row d (rEval_any rv row d) op n k1 k2 s nm es hop hW A c w L L2 hl hc hz
      have ge := fun hop => rEvG_e rv row d (rEval_any rv row d) op n k1 k2 s nm es hop hW A c w L L2 hl hc hz
      have gf := fun hop => rEvG_f rv row d (rEval_any rv row d) op n k1 k2 s nm es hop hW A c w L L2 hl hc hz
      have gg := fun hop => rEvG_g rv row d (rEval_any rv row d) op n k1 k2 s nm es hop hW A c w L L2 hl hc hz
      clear HF HC HZ IH G
      rcases hkn with h | h | h | h | h | h | h | h | h | h | h | h
      · exact ga (.inl h)
      · exact ga (.inr (.inl h))
      · exact ga (.inr (.inr h))
      · rcases h with h | h | h | h | h | h
        · exact gb (.inl h)
        · exact gb (.inr (.inl h))
        · exact gb (.inr (.inr h))
        · exact gc (.inl h)
        · exact gc (.inr (.inl h))
        · exact gc (.inr (.inr h))
      · rcases h with h | h | h | h | h
        · exact gd (.inl h)
        · exact gd (.inr (.inl h))
        · exact gd (.inr (.inr h))
        · exact ge (.inl h)
        · exact ge (.inr (.inl h))
      · exact ge (.inr (.inr h))
      · exact gf (.inl h)
      · exact gf (.inr (.inl h))
      · exact gf (.inr (.inr h))
      · exact gg (.inl h)
      · exact gg (.inr (.inl h))
      · exact gg (.inr (.inr h))
end Go.Proofs.Ytpiadcfejbnonaa
/-
  The walk of the statement ExprEvaluates. Conditions: a bounded depth; lengths.
-/
namespace Go.Proofs.Ytpiadcfejbnonaa
set_option linter.unusedVariables false
set_option linter.unusedSimpArgs false
set_option linter.unusedVariables false
set_option linter.unusedSimpArgs false
set_option linter.unusedVariables false
set_option linter.unusedSimpArgs false
set_option maxRecDepth 100000
open Go.RowKit

set_option maxRecDepth 100000 in
set_option maxHeartbeats 3200000 in
theorem rTruthE_any (rv : Value) (row : List Vl) (d : Nat) (e : Ex) (A : Option Addr) (c : Nat) (w : World) (L L2 : Nat) (h : RdE w L w.heap.size d (.slice A e.args.length c) e.args) (hR : RdV w L2 w.heap.size rv row) :
    Calls Try.prog 15 #[exV e (.slice A e.args.length c), rv] w fun e' w' => e' = .returned (.int .i64 (truP (evE row d e))) ∧ Below w.heap.size w w' := by
  have b1 := bel_mk w (.cells (exA e (.slice A e.args.length c)) 26)
  unfold exA at b1
  have hev := rEval_any rv row d e _ _ L L2 (h.step b1 (Nat.le_refl _)) (hR.step b1 (Nat.le_refl _))
  unfold exV at *
  have HT := Lib.hid (fun W => fTruth (evE row d e) W)
  generalize evE row d e = r at *
  have HV := Lib.hid hev
  have HB := Lib.hid b1
  clear hev b1 h hR
  go_enter Try.func15, Try.ntmps15
  go_wp2_with fail
  with_reducible refine HV.out.mono ?_
  rintro e w3 ⟨rfl, hb3⟩
  have B3 := HB.out.trans (hb3.mono HB.out.size)
  go_wp2_with fail
  with_reducible refine (HT.out _).mono ?_
  rintro e w4 ⟨rfl, hb4⟩
  go_wp2
  go_ret
  exact ⟨rfl, B3.trans (hb4.mono B3.size)⟩
set_option maxRecDepth 100000 in
set_option maxHeartbeats 6400000 in
theorem law_evaluates (rv : Value) (row : List Vl) (d : Nat) (e : Ex) (A : Option Addr) (c : Nat) (w : World) (h : RdE w 0 w.heap.size d (.slice A e.args.length c) e.args) (hr : RdV w 0 w.heap.size rv row) :
    Calls Try.prog 4 #[exV e (.slice A e.args.length c), rv] w fun e' w' => e' = .returned (.bool true) ∧ Below w.heap.size w w' := by
  have b1 := bel_mk w (.cells (exA e (.slice A e.args.length c)) 26)
  have oa := Own.new w 26 (exA e (.slice A e.args.length c))
  obtain ⟨x0, x1, x2, x3, x4, x5, x6⟩ := ex_cells oa.lt oa
  have RA := h.step b1 (Nat.le_refl _)
  have RV := hr.step b1 (Nat.le_refl _)
  have HB := Lib.hid b1
  have HBS := Lib.hid b1.size
  clear b1 oa h
  generalize hWW : w.alloc (.cells (exA e (.slice A e.args.length c)) 26) = W at *
  have H1 := Lib.hid (fun r : After W => pEval_any rv row d e A c r.w 0 0 (RA.step r.h (Nat.le_refl _)) (RV.step r.h (Nat.le_refl _)))
  have H2 := Lib.hid (fun r : After W => rEval_any rv row d e (.slice A e.args.length c) r.w 0 0 (RA.step r.h (Nat.le_refl _)) (RV.step r.h (Nat.le_refl _)))
  have H3 := Lib.hid (fun r : After W => pTruthE_any rv row d e A c r.w 0 0 (RA.step r.h (Nat.le_refl _)) (RV.step r.h (Nat.le_refl _)))
  have H4 := Lib.hid (fun r : After W => rTruthE_any rv row d e A c r.w 0 0 (RA.step r.h (Nat.le_refl _)) (RV.step r.h (Nat.le_refl _)))
  have H5 := Lib.hid (fun r : After W => awake_any r.w)
  obtain ⟨Ar, cr, rfl, _, _⟩ := hr
  generalize truP (evE row d e) = t at *
  generalize evE row d e = p at *
  obtain ⟨p1, p2, p3⟩ := p
  unfold exA exV valV at *
  have heq : ∀ W, (binOp .eql 23 (.agg #[.int .i64 p1, .int .i64 p2, .string p3]) (.agg #[.int .i64 p1, .int .i64 p2, .string p3])).run Try.prog W = .ok (.bool true) W := fun W => by
    have h := Va.eql_val p1 p2 p3 p1 p2 p3 W
    rwa [show Va.eqV p1 p2 p3 p1 p2 p3 = true by unfold Va.eqV; simp] at h
  clear RA RV
  go_enter Try.func4, Try.ntmps4
  go_wp2_with fail
  (refine wp_region_after (by kernel_rfl) (by kernel_rfl) ?_; (repeat (go_big_quiet_step (first | (go_at_call 12; exact calls_after (H1.out _)) | (go_at_call 13; exact calls_after (H2.out _)) | (go_at_call 14; exact calls_after (H3.out _)) | (go_at_call 15; exact calls_after (H4.out _)) | (go_at_call 11; exact calls_after (H5.out _))))); refine wpQuiet_nil ?_; intro wq hw0; obtain ⟨⟨wq0, hbq⟩, hw1⟩ := hw0; subst hw1; (try dsimp only))
  go_wp2
  go_ret
  exact ⟨by first | rfl | simp, HB.out.trans (hbq.mono HBS.out)⟩
end Go.Proofs.Ytpiadcfejbnonaa
