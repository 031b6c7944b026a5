import Derived.Test.YtpiadcfejbnonaaQEB
import Derived.Test.YtpiadcfejbnonaaQEC
import Derived.Test.YtpiadcfejbnonaaQED
import Derived.WalkKit
import Derived.WalkSpells
import Derived.WalkLawsBesides
import Derived.Deep.QuietTactic
import Derived.BigQuiet
import Derived.Handy
import Derived.Lib.Hide
/-
  Eval and Truth of the program: the value of any expression. Conditions: lengths, values of rows are read.
-/
namespace Go.Proofs.Ytpiadcfejbnonaa
set_option linter.unusedVariables false
set_option linter.unusedSimpArgs false
set_option linter.unusedVariables false
set_option linter.unusedSimpArgs false
set_option linter.unusedVariables false
set_option linter.unusedSimpArgs false
set_option maxRecDepth 100000
open Go.RowKit

set_option maxRecDepth 100000 in
set_option maxHeartbeats 3200000 in
theorem ev_bad (op n k1 k2 : Int) (s nm : ByteArray) (u1 : Option Addr) (u2 u3 : Nat) (row : List Vl) (Ar : Option Addr) (cr : Nat) (w : World) (hwf : wfE op n k1 k2 s nm u2 = false) :
    Calls Try.prog 12 #[.agg #[.int .i64 op, .int .i64 n, .int .i64 k1, .int .i64 k2, .string s, .string nm, .slice u1 u2 u3], .slice Ar row.length cr] w fun e w' => e = .returned (valV nullP) ∧ Below w.heap.size w w' := by
  have HWF := Lib.hid (fun W => by have h := pWf_any op n k1 k2 s nm u1 u2 u3 W; rw [hwf] at h; exact h)
  have HN := Lib.hid (fun W => eNull W)
  have HZ0 := Lib.hid (show Own (((w.alloc (.cells #[.int .i64 op, .int .i64 n, .int .i64 k1, .int .i64 k2, .string s, .string nm, .slice u1 u2 u3] 26)).alloc (.cells #[.slice Ar row.length cr] 33)).alloc (.cells #[.int .i64 0, .int .i64 0, .string ⟨#[]⟩] 23)) (w.heap.size + 1 + 1) 23 #[.int .i64 0, .int .i64 0, .string ⟨#[]⟩] from own_three _ _)
  have HB0 := Lib.hid (show Below w.heap.size w (((w.alloc (.cells #[.int .i64 op, .int .i64 n, .int .i64 k1, .int .i64 k2, .string s, .string nm, .slice u1 u2 u3] 26)).alloc (.cells #[.slice Ar row.length cr] 33)).alloc (.cells #[.int .i64 0, .int .i64 0, .string ⟨#[]⟩] 23)) from ((bel_mk w _).trans ((bel_mk _ _).mono (by simp))).trans ((bel_mk _ _).mono (by simp; omega)))
  unfold valV nullP at *
  dsimp only at *
  go_enter Try.func12, Try.ntmps12
  go_wp2_with fail
  with_reducible refine (HWF.out _).mono ?_
  rintro e w1 ⟨rfl, hb1⟩
  have z1 := HZ0.out.below hb1 HZ0.out.lt
  have b1 := HB0.out.trans (hb1.mono HB0.out.size)
  clear hb1 HZ0 HB0 HWF
  go_wp2_with fail
  with_reducible refine (HN.out _).mono ?_
  rintro e w2 ⟨rfl, hb2⟩
  have z2 := z1.below hb2 z1.lt
  have b2 := b1.trans (hb2.mono b1.size)
  clear hb2
  have d0 := z2.cell 0; have e0 := z2.free 0; have d1 := z2.cell 1; have e1 := z2.free 1; have d2 := z2.cell 2; have e2 := z2.free 2; (try simp only [List.getElem?_toArray, List.getElem?_cons_zero, List.getElem?_cons_succ] at d0 d1 d2)
  go_wp2
  (try simp only [Exit.inBlock, Exit.then]); refine bodyPost_ret_by (results_cell_row1 (by rfl) _ _ (w.heap.size + 1 + 1) _ (by rfl) (load_val (((z2.store 0 _).store 1 _).store 2 _))) ?_ ?_; (focus rfl); refine ⟨rfl, ?_⟩
  (repeat' (first | (with_reducible exact Below.refl _ _) | (with_reducible assumption) | (with_reducible refine Below.alloc ?_ ?_ _) | (with_reducible refine Below.drew ?_) | (with_reducible refine Below.setCell ?_ ?_ _) | (with_reducible refine Below.trans ?_ (Below.mono (by assumption) ?_)) | go_size))
theorem knw_cases {op : Int} (h : knw op = true) : op = 1 ∨ op = 2 ∨ (op = 4 ∨ op = 5 ∨ op = 6) ∨ (op = 7 ∨ op = 8 ∨ op = 9 ∨ op = 10 ∨ op = 11 ∨ op = 12) ∨ (op = 13 ∨ op = 14 ∨ op = 15 ∨ op = 16 ∨ op = 17) ∨ op = 18 ∨ op = 19 ∨ op = 20 ∨ op = 21 ∨ op = 22 ∨ op = 23 ∨ op = 24 := by
  simp only [knw, Bool.or_eq_true, beq_iff_eq] at h
  omega
theorem wf_knw {op n k m : Int} {s nm : ByteArray} {l : Nat} (h : wfE op n k m s nm l = true) : knw op = true := by
  unfold wfE at h
  simp only [Bool.and_eq_true] at h
  exact h.1.1.1
/-- What an expression is worth. -/
theorem pEval_any (rv : Value) (row : List Vl) : ∀ (d : Nat) (e : Ex) (A : Option Addr) (c : Nat) (w : World) (L L2 : Nat), RdE w L w.heap.size d (.slice A e.args.length c) e.args → RdV w L2 w.heap.size rv row →
    Calls Try.prog 12 #[exV e (.slice A e.args.length c), rv] w fun e' w' => e' = .returned (valV (evE row d e)) ∧ Below w.heap.size w w'
  | 0, _, _, _, _, _, _, h, _ => h.elim
  | d + 1, e, A, c, w, L, L2, h, hR => by
    have IH := pEval_any rv row d
    obtain ⟨op, n, ⟨k1, k2, s⟩, nm, es⟩ := e
    unfold evE exV
    dsimp only at h ⊢
    obtain ⟨A', c', hv', hl, _⟩ := id h
    cases hwf : wfE op n k1 k2 s nm es.length
    · rw [if_neg (by simp)]
      obtain ⟨Ar, cr, rfl, _, _⟩ := hR
      exact ev_bad op n k1 k2 s nm A es.length c row Ar cr w hwf
    · rw [if_pos rfl]
      have hA : ∀ (W : World) (g h : Nat), Below w.heap.size w W → W.cell? ⟨g, 6, none⟩ = some (.slice A es.length c) → W.cell? ⟨h, 0, none⟩ = some rv → Args W (.pointer (some ⟨g, 0, none⟩)) (.pointer (some ⟨h, 0, none⟩)) (es.map (evE row d)) :=
        fun W g h' hW x6 xr => args_of row d es A c rv g h' W L L2 x6 xr (h.step hW (Nat.le_refl _)) (hR.step hW (Nat.le_refl _)) IH
      have hV : ∀ p ∈ es.map (evE row d), vldP p = true := fun p hp => by obtain ⟨a, _, rfl⟩ := List.mem_map.1 hp; exact vld_evE row d a
      have hk := knw_cases (wf_knw hwf)
      rw [← List.length_map (evE row d)] at hl hwf hA ⊢
      generalize es.map (evE row d) = l at *
      clear h hv' IH
      rcases hk with rfl | rfl | hk | hk | hk | rfl | rfl | rfl | rfl | rfl | rfl | rfl
      · exact ev_const n k1 k2 s nm rv row l A c w L2 hR hl hV hwf hA
      · exact ev_col n k1 k2 s nm rv row l A c w L2 hR hl hV hwf hA
      · have h := ev_log op n k1 k2 s nm rv row l A c w L2 hR hl hV hwf hA hk
        rwa [show opE op n (k1, k2, s) row l = ofP (logP op l) by unfold opE; rw [if_neg (by omega), if_neg (by omega), if_pos hk]]
      · rcases hk with rfl | rfl | rfl | rfl | rfl | rfl
        · exact ev_7 n k1 k2 s nm rv row l A c w L2 hR hl hV hwf hA
        · exact ev_8 n k1 k2 s nm rv row l A c w L2 hR hl hV hwf hA
        · exact ev_9 n k1 k2 s nm rv row l A c w L2 hR hl hV hwf hA
        · exact ev_10 n k1 k2 s nm rv row l A c w L2 hR hl hV hwf hA
        · exact ev_11 n k1 k2 s nm rv row l A c w L2 hR hl hV hwf hA
        · exact ev_12 n k1 k2 s nm rv row l A c w L2 hR hl hV hwf hA
      · rcases hk with rfl | rfl | rfl | rfl | rfl
        · exact ev_13 n k1 k2 s nm rv row l A c w L2 hR hl hV hwf hA
        · exact ev_14 n k1 k2 s nm rv row l A c w L2 hR hl hV hwf hA
        · exact ev_15 n k1 k2 s nm rv row l A c w L2 hR hl hV hwf hA
        · exact ev_16 n k1 k2 s nm rv row l A c w L2 hR hl hV hwf hA
        · exact ev_17 n k1 k2 s nm rv row l A c w L2 hR hl hV hwf hA
      · exact ev_neg n k1 k2 s nm rv row l A c w L2 hR hl hV hwf hA
      · exact ev_cat n k1 k2 s nm rv row l A c w L2 hR hl hV hwf hA
      · exact ev_len n k1 k2 s nm rv row l A c w L2 hR hl hV hwf hA
      · exact ev_null n k1 k2 s nm rv row l A c w L2 hR hl hV hwf hA
      · exact ev_if n k1 k2 s nm rv row l A c w L2 hR hl hV hwf hA
      · exact ev_fst n k1 k2 s nm rv row l A c w L2 hR hl hV hwf hA
      · exact ev_rel n k1 k2 s nm rv row l A c w L2 hR hl hV hwf hA
set_option maxRecDepth 100000 in
set_option maxHeartbeats 3200000 in
theorem pTruthE_any (rv : Value) (row : List Vl) (d : Nat) (e : Ex) (A : Option Addr) (c : Nat) (w : World) (L L2 : Nat) (h : RdE w L w.heap.size d (.slice A e.args.length c) e.args) (hR : RdV w L2 w.heap.size rv row) :
    Calls Try.prog 14 #[exV e (.slice A e.args.length c), rv] w fun e' w' => e' = .returned (.int .i64 (truP (evE row d e))) ∧ Below w.heap.size w w' := by
  have b1 := bel_mk w (.cells (exA e (.slice A e.args.length c)) 26)
  unfold exA at b1
  have hev := pEval_any rv row d e A c _ L L2 (h.step b1 (Nat.le_refl _)) (hR.step b1 (Nat.le_refl _))
  unfold exV at *
  have HT := Lib.hid (fun W => eTruth (evE row d e) W)
  generalize evE row d e = r at *
  have HV := Lib.hid hev
  have HB := Lib.hid b1
  clear hev b1 h hR
  go_enter Try.func14, Try.ntmps14
  go_wp2_with fail
  with_reducible refine HV.out.mono ?_
  rintro e w3 ⟨rfl, hb3⟩
  have B3 := HB.out.trans (hb3.mono HB.out.size)
  go_wp2_with fail
  with_reducible refine (HT.out _).mono ?_
  rintro e w4 ⟨rfl, hb4⟩
  go_wp2
  go_ret
  exact ⟨rfl, B3.trans (hb4.mono B3.size)⟩
end Go.Proofs.Ytpiadcfejbnonaa
