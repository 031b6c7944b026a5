import Derived.Test.YthnmcpfmljibeaaQX
import Derived.WalkKit
import Derived.WalkSpells
import Derived.WalkLawsBesides
import Derived.Deep.QuietTactic
import Derived.BigQuiet
import Derived.Handy
import Derived.Lib.Hide
/-
  The value of an expression, by the program, operator by operator. Conditions: lengths, values of rows are read.
-/
namespace Go.Proofs.Ythnmcpfmljibeaa
set_option maxRecDepth 100000
set_option linter.unusedVariables false
set_option linter.unusedSimpArgs false
open Go.RowKit

theorem wf_lo {op n k m : Int} {s nm : ByteArray} {l : Nat} (h : wfE op n k m s nm l = true) : opLo op ≤ l := by
  unfold wfE at h
  simp only [Bool.and_eq_true, decide_eq_true_eq] at h
  exact h.1.1.2
set_option maxRecDepth 100000 in
set_option maxHeartbeats 12800000 in
theorem ev_const (n k1 k2 : Int) (s nm : ByteArray) (rv : Value) (row l : List Vl) (A : Option Addr) (c : Nat) (w : World) (L2 : Nat) (hR : RdV w L2 w.heap.size rv row) (hl : l.length ≤ 1099511627776)
    (hV : ∀ p ∈ l, vldP p = true) (hwf : wfE 1 n k1 k2 s nm l.length = true)
    (hA : ∀ (W : World) (g h : Nat), Below w.heap.size w W → W.cell? ⟨g, 6, none⟩ = some (.slice A l.length c) → W.cell? ⟨h, 0, none⟩ = some rv → Args W (.pointer (some ⟨g, 0, none⟩)) (.pointer (some ⟨h, 0, none⟩)) l) :
    Calls Try.prog 37 #[.agg #[.int .i64 1, .int .i64 n, .int .i64 k1, .int .i64 k2, .string s, .string nm, .slice A l.length c], rv] w fun e w' => e = .returned (valV ((k1, k2, s))) ∧ Below w.heap.size w w' := by
  have HWF := Lib.hid (fun W => by have h := pWf_any 1 n k1 k2 s nm A l.length c W; rw [hwf] at h; exact h)
  have HRV := Lib.hid hR
  have HAA := Lib.hid hA
  obtain ⟨Ar, cr, rfl, _, _⟩ := hR
  clear hA
  unfold valV
  dsimp only
  have HE0 := Lib.hid (show Own (((w.alloc (.cells #[.int .i64 1, .int .i64 n, .int .i64 k1, .int .i64 k2, .string s, .string nm, .slice A l.length c] 26)).alloc (.cells #[.slice Ar row.length cr] 33)).alloc (.cells #[.int .i64 0, .int .i64 0, .string ⟨#[]⟩] 23)) w.heap.size 26 #[.int .i64 1, .int .i64 n, .int .i64 k1, .int .i64 k2, .string s, .string nm, .slice A l.length c] from ((Own.new w _ _).alloc _).alloc _)
  have HR0 := Lib.hid (show Own (((w.alloc (.cells #[.int .i64 1, .int .i64 n, .int .i64 k1, .int .i64 k2, .string s, .string nm, .slice A l.length c] 26)).alloc (.cells #[.slice Ar row.length cr] 33)).alloc (.cells #[.int .i64 0, .int .i64 0, .string ⟨#[]⟩] 23)) (w.heap.size + 1) 33 #[.slice Ar row.length cr] from (Va.own_two _).alloc _)
  have HZ0 := Lib.hid (show Own (((w.alloc (.cells #[.int .i64 1, .int .i64 n, .int .i64 k1, .int .i64 k2, .string s, .string nm, .slice A l.length c] 26)).alloc (.cells #[.slice Ar row.length cr] 33)).alloc (.cells #[.int .i64 0, .int .i64 0, .string ⟨#[]⟩] 23)) (w.heap.size + 1 + 1) 23 #[.int .i64 0, .int .i64 0, .string ⟨#[]⟩] from own_three _ _)
  have HB0 := Lib.hid (show Below w.heap.size w (((w.alloc (.cells #[.int .i64 1, .int .i64 n, .int .i64 k1, .int .i64 k2, .string s, .string nm, .slice A l.length c] 26)).alloc (.cells #[.slice Ar row.length cr] 33)).alloc (.cells #[.int .i64 0, .int .i64 0, .string ⟨#[]⟩] 23)) from ((bel_mk w _).trans ((bel_mk _ _).mono (by simp))).trans ((bel_mk _ _).mono (by simp; omega)))
  go_enter Try.func37, Try.ntmps37
  go_wp2_with fail
  with_reducible refine (HWF.out _).mono ?_
  rintro e w1 ⟨rfl, hb1⟩
  have e1 := HE0.out.below hb1 HE0.out.lt
  have f1 := HR0.out.below hb1 HR0.out.lt
  have z1 := HZ0.out.below hb1 HZ0.out.lt
  have b1 := HB0.out.trans (hb1.mono HB0.out.size)
  have a1 := Below.refl w1.heap.size w1
  have HA := Lib.hid (HAA.out w1 w.heap.size (w.heap.size + 1) b1 (e1.cell 6) (f1.cell 0))
  have HR1 := Lib.hid (HRV.out.step b1 (Nat.le_refl _))
  have x0 := e1.cell 0
  have x1 := e1.cell 1
  have x2 := e1.cell 2
  have x3 := e1.cell 3
  have x4 := e1.cell 4
  have x5 := e1.cell 5
  have x6 := e1.cell 6
  have xr := f1.cell 0
  have HE1 := Lib.hid e1
  clear hb1 HE0 HR0 HZ0 HB0 HWF e1 f1
  have d0 := z1.cell 0; have e0 := z1.free 0; have d1 := z1.cell 1; have e1 := z1.free 1; have d2 := z1.cell 2; have e2 := z1.free 2; (try simp only [List.getElem?_toArray, List.getElem?_cons_zero, List.getElem?_cons_succ] at d0 d1 d2)
  go_wp2
  (try simp only [Exit.inBlock, Exit.then]); refine bodyPost_ret_by (results_cell_row1 (by rfl) _ _ (w.heap.size + 1 + 1) _ (by rfl) (load_val (((z1.store 0 _).store 1 _).store 2 _))) ?_ ?_; (focus rfl); refine ⟨rfl, ?_⟩
  (repeat' (first | (with_reducible exact Below.refl _ _) | (with_reducible assumption) | (with_reducible refine Below.alloc ?_ ?_ _) | (with_reducible refine Below.drew ?_) | (with_reducible refine Below.setCell ?_ ?_ _) | (with_reducible refine Below.trans ?_ (Below.mono (by assumption) ?_)) | go_size))
set_option maxRecDepth 100000 in
set_option maxHeartbeats 12800000 in
theorem ev_col (n k1 k2 : Int) (s nm : ByteArray) (rv : Value) (row l : List Vl) (A : Option Addr) (c : Nat) (w : World) (L2 : Nat) (hR : RdV w L2 w.heap.size rv row) (hl : l.length ≤ 1099511627776)
    (hV : ∀ p ∈ l, vldP p = true) (hwf : wfE 2 n k1 k2 s nm l.length = true)
    (hA : ∀ (W : World) (g h : Nat), Below w.heap.size w W → W.cell? ⟨g, 6, none⟩ = some (.slice A l.length c) → W.cell? ⟨h, 0, none⟩ = some rv → Args W (.pointer (some ⟨g, 0, none⟩)) (.pointer (some ⟨h, 0, none⟩)) l) :
    Calls Try.prog 37 #[.agg #[.int .i64 2, .int .i64 n, .int .i64 k1, .int .i64 k2, .string s, .string nm, .slice A l.length c], rv] w fun e w' => e = .returned (valV (colP row n)) ∧ Below w.heap.size w w' := by
  have HWF := Lib.hid (fun W => by have h := pWf_any 2 n k1 k2 s nm A l.length c W; rw [hwf] at h; exact h)
  have HRV := Lib.hid hR
  have HAA := Lib.hid hA
  obtain ⟨Ar, cr, rfl, _, _⟩ := hR
  clear hA
  have HF := fun W => (fun (u : Value) (L : Nat) (h : RdV W L W.heap.size u row) => pColumn_any u row n W L h)
  generalize colP row n = r at HF ⊢
  obtain ⟨r1, r2, r3⟩ := r
  unfold valV at *
  dsimp only at *
  have HE0 := Lib.hid (show Own (((w.alloc (.cells #[.int .i64 2, .int .i64 n, .int .i64 k1, .int .i64 k2, .string s, .string nm, .slice A l.length c] 26)).alloc (.cells #[.slice Ar row.length cr] 33)).alloc (.cells #[.int .i64 0, .int .i64 0, .string ⟨#[]⟩] 23)) w.heap.size 26 #[.int .i64 2, .int .i64 n, .int .i64 k1, .int .i64 k2, .string s, .string nm, .slice A l.length c] from ((Own.new w _ _).alloc _).alloc _)
  have HR0 := Lib.hid (show Own (((w.alloc (.cells #[.int .i64 2, .int .i64 n, .int .i64 k1, .int .i64 k2, .string s, .string nm, .slice A l.length c] 26)).alloc (.cells #[.slice Ar row.length cr] 33)).alloc (.cells #[.int .i64 0, .int .i64 0, .string ⟨#[]⟩] 23)) (w.heap.size + 1) 33 #[.slice Ar row.length cr] from (Va.own_two _).alloc _)
  have HZ0 := Lib.hid (show Own (((w.alloc (.cells #[.int .i64 2, .int .i64 n, .int .i64 k1, .int .i64 k2, .string s, .string nm, .slice A l.length c] 26)).alloc (.cells #[.slice Ar row.length cr] 33)).alloc (.cells #[.int .i64 0, .int .i64 0, .string ⟨#[]⟩] 23)) (w.heap.size + 1 + 1) 23 #[.int .i64 0, .int .i64 0, .string ⟨#[]⟩] from own_three _ _)
  have HB0 := Lib.hid (show Below w.heap.size w (((w.alloc (.cells #[.int .i64 2, .int .i64 n, .int .i64 k1, .int .i64 k2, .string s, .string nm, .slice A l.length c] 26)).alloc (.cells #[.slice Ar row.length cr] 33)).alloc (.cells #[.int .i64 0, .int .i64 0, .string ⟨#[]⟩] 23)) from ((bel_mk w _).trans ((bel_mk _ _).mono (by simp))).trans ((bel_mk _ _).mono (by simp; omega)))
  go_enter Try.func37, Try.ntmps37
  go_wp2_with fail
  with_reducible refine (HWF.out _).mono ?_
  rintro e w1 ⟨rfl, hb1⟩
  have e1 := HE0.out.below hb1 HE0.out.lt
  have f1 := HR0.out.below hb1 HR0.out.lt
  have z1 := HZ0.out.below hb1 HZ0.out.lt
  have b1 := HB0.out.trans (hb1.mono HB0.out.size)
  have a1 := Below.refl w1.heap.size w1
  have HA := Lib.hid (HAA.out w1 w.heap.size (w.heap.size + 1) b1 (e1.cell 6) (f1.cell 0))
  have HR1 := Lib.hid (HRV.out.step b1 (Nat.le_refl _))
  have x0 := e1.cell 0
  have x1 := e1.cell 1
  have x2 := e1.cell 2
  have x3 := e1.cell 3
  have x4 := e1.cell 4
  have x5 := e1.cell 5
  have x6 := e1.cell 6
  have xr := f1.cell 0
  have HE1 := Lib.hid e1
  clear hb1 HE0 HR0 HZ0 HB0 HWF e1 f1
  go_wp2_with fail
  with_reducible refine (HF _ _ _ HR1.out).mono ?_
  rintro e w2 ⟨rfl, hb2⟩
  have z2 := z1.below hb2 z1.lt
  have b2 := b1.trans (hb2.mono b1.size)
  have a2 := a1.trans (hb2.mono a1.size)
  clear hb2
  have d0 := z2.cell 0; have e0 := z2.free 0; have d1 := z2.cell 1; have e1 := z2.free 1; have d2 := z2.cell 2; have e2 := z2.free 2; (try simp only [List.getElem?_toArray, List.getElem?_cons_zero, List.getElem?_cons_succ] at d0 d1 d2)
  go_wp2
  (try simp only [Exit.inBlock, Exit.then]); refine bodyPost_ret_by (results_cell_row1 (by rfl) _ _ (w.heap.size + 1 + 1) _ (by rfl) (load_val (((z2.store 0 _).store 1 _).store 2 _))) ?_ ?_; (focus rfl); refine ⟨rfl, ?_⟩
  (repeat' (first | (with_reducible exact Below.refl _ _) | (with_reducible assumption) | (with_reducible refine Below.alloc ?_ ?_ _) | (with_reducible refine Below.drew ?_) | (with_reducible refine Below.setCell ?_ ?_ _) | (with_reducible refine Below.trans ?_ (Below.mono (by assumption) ?_)) | go_size))
set_option maxRecDepth 100000 in
set_option maxHeartbeats 12800000 in
theorem ev_neg (n k1 k2 : Int) (s nm : ByteArray) (rv : Value) (row l : List Vl) (A : Option Addr) (c : Nat) (w : World) (L2 : Nat) (hR : RdV w L2 w.heap.size rv row) (hl : l.length ≤ 1099511627776)
    (hV : ∀ p ∈ l, vldP p = true) (hwf : wfE 18 n k1 k2 s nm l.length = true)
    (hA : ∀ (W : World) (g h : Nat), Below w.heap.size w W → W.cell? ⟨g, 6, none⟩ = some (.slice A l.length c) → W.cell? ⟨h, 0, none⟩ = some rv → Args W (.pointer (some ⟨g, 0, none⟩)) (.pointer (some ⟨h, 0, none⟩)) l) :
    Calls Try.prog 37 #[.agg #[.int .i64 18, .int .i64 n, .int .i64 k1, .int .i64 k2, .string s, .string nm, .slice A l.length c], rv] w fun e w' => e = .returned (valV (ariP 14 (intP 0) (getP l 0))) ∧ Below w.heap.size w w' := by
  have HWF := Lib.hid (fun W => by have h := pWf_any 18 n k1 k2 s nm A l.length c W; rw [hwf] at h; exact h)
  have HRV := Lib.hid hR
  have HAA := Lib.hid hA
  obtain ⟨Ar, cr, rfl, _, _⟩ := hR
  clear hA
  have hi0 : 0 < l.length := by have h := wf_lo hwf; have h2 : opLo 18 = 1 := rfl; omega
  have G0 : ∀ (w1 W : World) (P Q : Value), Args w1 P Q l → Below w1.heap.size w1 W → Calls Try.prog 68 #[.int .i64 0, P, Q] W fun e w' => e = .returned (valV (getP l 0)) ∧ Below W.heap.size W w' := fun w1 W P Q h hb => h 0 W hi0 hb
  have hv0 := vld_get l hV 0
  generalize getP l 0 = p0 at *
  obtain ⟨a0, b0, c0⟩ := p0
  have HI := fun W => eInt 0 W
  have hvI := vld_nrm (1, 0, ⟨#[]⟩)
  change vldP (intP 0) = true at hvI
  generalize intP 0 = q at *
  obtain ⟨q0, q1, q2⟩ := q
  have HF := fun W => pAri_any 14 q0 q1 a0 b0 q2 c0 W (fun h => vld_num hvI h) (fun h => vld_num hv0 h) (.inr (.inl rfl))
  generalize ariP 14 (q0, q1, q2) (a0, b0, c0) = r at HF ⊢
  obtain ⟨r1, r2, r3⟩ := r
  unfold valV at *
  dsimp only at *
  have HE0 := Lib.hid (show Own (((w.alloc (.cells #[.int .i64 18, .int .i64 n, .int .i64 k1, .int .i64 k2, .string s, .string nm, .slice A l.length c] 26)).alloc (.cells #[.slice Ar row.length cr] 33)).alloc (.cells #[.int .i64 0, .int .i64 0, .string ⟨#[]⟩] 23)) w.heap.size 26 #[.int .i64 18, .int .i64 n, .int .i64 k1, .int .i64 k2, .string s, .string nm, .slice A l.length c] from ((Own.new w _ _).alloc _).alloc _)
  have HR0 := Lib.hid (show Own (((w.alloc (.cells #[.int .i64 18, .int .i64 n, .int .i64 k1, .int .i64 k2, .string s, .string nm, .slice A l.length c] 26)).alloc (.cells #[.slice Ar row.length cr] 33)).alloc (.cells #[.int .i64 0, .int .i64 0, .string ⟨#[]⟩] 23)) (w.heap.size + 1) 33 #[.slice Ar row.length cr] from (Va.own_two _).alloc _)
  have HZ0 := Lib.hid (show Own (((w.alloc (.cells #[.int .i64 18, .int .i64 n, .int .i64 k1, .int .i64 k2, .string s, .string nm, .slice A l.length c] 26)).alloc (.cells #[.slice Ar row.length cr] 33)).alloc (.cells #[.int .i64 0, .int .i64 0, .string ⟨#[]⟩] 23)) (w.heap.size + 1 + 1) 23 #[.int .i64 0, .int .i64 0, .string ⟨#[]⟩] from own_three _ _)
  have HB0 := Lib.hid (show Below w.heap.size w (((w.alloc (.cells #[.int .i64 18, .int .i64 n, .int .i64 k1, .int .i64 k2, .string s, .string nm, .slice A l.length c] 26)).alloc (.cells #[.slice Ar row.length cr] 33)).alloc (.cells #[.int .i64 0, .int .i64 0, .string ⟨#[]⟩] 23)) from ((bel_mk w _).trans ((bel_mk _ _).mono (by simp))).trans ((bel_mk _ _).mono (by simp; omega)))
  go_enter Try.func37, Try.ntmps37
  go_wp2_with fail
  with_reducible refine (HWF.out _).mono ?_
  rintro e w1 ⟨rfl, hb1⟩
  have e1 := HE0.out.below hb1 HE0.out.lt
  have f1 := HR0.out.below hb1 HR0.out.lt
  have z1 := HZ0.out.below hb1 HZ0.out.lt
  have b1 := HB0.out.trans (hb1.mono HB0.out.size)
  have a1 := Below.refl w1.heap.size w1
  have HA := Lib.hid (HAA.out w1 w.heap.size (w.heap.size + 1) b1 (e1.cell 6) (f1.cell 0))
  have HR1 := Lib.hid (HRV.out.step b1 (Nat.le_refl _))
  have x0 := e1.cell 0
  have x1 := e1.cell 1
  have x2 := e1.cell 2
  have x3 := e1.cell 3
  have x4 := e1.cell 4
  have x5 := e1.cell 5
  have x6 := e1.cell 6
  have xr := f1.cell 0
  have HE1 := Lib.hid e1
  clear hb1 HE0 HR0 HZ0 HB0 HWF e1 f1
  go_wp2_with fail
  with_reducible refine (HI _).mono ?_
  rintro e w2 ⟨rfl, hb2⟩
  have z2 := z1.below hb2 z1.lt
  have b2 := b1.trans (hb2.mono b1.size)
  have a2 := a1.trans (hb2.mono a1.size)
  clear hb2
  go_wp2_with fail
  with_reducible refine (G0 w1 _ _ _ HA.out a2).mono ?_
  rintro e w3 ⟨rfl, hb3⟩
  have z3 := z2.below hb3 z2.lt
  have b3 := b2.trans (hb3.mono b2.size)
  have a3 := a2.trans (hb3.mono a2.size)
  clear hb3
  go_wp2_with fail
  with_reducible refine (HF _).mono ?_
  rintro e w4 ⟨rfl, hb4⟩
  have z4 := z3.below hb4 z3.lt
  have b4 := b3.trans (hb4.mono b3.size)
  have a4 := a3.trans (hb4.mono a3.size)
  clear hb4
  have d0 := z4.cell 0; have e0 := z4.free 0; have d1 := z4.cell 1; have e1 := z4.free 1; have d2 := z4.cell 2; have e2 := z4.free 2; (try simp only [List.getElem?_toArray, List.getElem?_cons_zero, List.getElem?_cons_succ] at d0 d1 d2)
  go_wp2
  (try simp only [Exit.inBlock, Exit.then]); refine bodyPost_ret_by (results_cell_row1 (by rfl) _ _ (w.heap.size + 1 + 1) _ (by rfl) (load_val (((z4.store 0 _).store 1 _).store 2 _))) ?_ ?_; (focus rfl); refine ⟨rfl, ?_⟩
  (repeat' (first | (with_reducible exact Below.refl _ _) | (with_reducible assumption) | (with_reducible refine Below.alloc ?_ ?_ _) | (with_reducible refine Below.drew ?_) | (with_reducible refine Below.setCell ?_ ?_ _) | (with_reducible refine Below.trans ?_ (Below.mono (by assumption) ?_)) | go_size))
set_option maxRecDepth 100000 in
set_option maxHeartbeats 12800000 in
theorem ev_cat (n k1 k2 : Int) (s nm : ByteArray) (rv : Value) (row l : List Vl) (A : Option Addr) (c : Nat) (w : World) (L2 : Nat) (hR : RdV w L2 w.heap.size rv row) (hl : l.length ≤ 1099511627776)
    (hV : ∀ p ∈ l, vldP p = true) (hwf : wfE 19 n k1 k2 s nm l.length = true)
    (hA : ∀ (W : World) (g h : Nat), Below w.heap.size w W → W.cell? ⟨g, 6, none⟩ = some (.slice A l.length c) → W.cell? ⟨h, 0, none⟩ = some rv → Args W (.pointer (some ⟨g, 0, none⟩)) (.pointer (some ⟨h, 0, none⟩)) l) :
    Calls Try.prog 37 #[.agg #[.int .i64 19, .int .i64 n, .int .i64 k1, .int .i64 k2, .string s, .string nm, .slice A l.length c], rv] w fun e w' => e = .returned (valV (catP (getP l 0) (getP l 1))) ∧ Below w.heap.size w w' := by
  have HWF := Lib.hid (fun W => by have h := pWf_any 19 n k1 k2 s nm A l.length c W; rw [hwf] at h; exact h)
  have HRV := Lib.hid hR
  have HAA := Lib.hid hA
  obtain ⟨Ar, cr, rfl, _, _⟩ := hR
  clear hA
  have hi0 : 0 < l.length := by have h := wf_lo hwf; have h2 : opLo 19 = 2 := rfl; omega
  have G0 : ∀ (w1 W : World) (P Q : Value), Args w1 P Q l → Below w1.heap.size w1 W → Calls Try.prog 68 #[.int .i64 0, P, Q] W fun e w' => e = .returned (valV (getP l 0)) ∧ Below W.heap.size W w' := fun w1 W P Q h hb => h 0 W hi0 hb
  have hv0 := vld_get l hV 0
  generalize getP l 0 = p0 at *
  obtain ⟨a0, b0, c0⟩ := p0
  have hi1 : 1 < l.length := by have h := wf_lo hwf; have h2 : opLo 19 = 2 := rfl; omega
  have G1 : ∀ (w1 W : World) (P Q : Value), Args w1 P Q l → Below w1.heap.size w1 W → Calls Try.prog 68 #[.int .i64 1, P, Q] W fun e w' => e = .returned (valV (getP l 1)) ∧ Below W.heap.size W w' := fun w1 W P Q h hb => h 1 W hi1 hb
  have hv1 := vld_get l hV 1
  generalize getP l 1 = p1 at *
  obtain ⟨a1, b1, c1⟩ := p1
  have HF := fun W => pConcat_any a0 b0 c0 a1 b1 c1 W (vld_len hv0) (vld_len hv1)
  generalize catP (a0, b0, c0) (a1, b1, c1) = r at HF ⊢
  obtain ⟨r1, r2, r3⟩ := r
  unfold valV at *
  dsimp only at *
  have HE0 := Lib.hid (show Own (((w.alloc (.cells #[.int .i64 19, .int .i64 n, .int .i64 k1, .int .i64 k2, .string s, .string nm, .slice A l.length c] 26)).alloc (.cells #[.slice Ar row.length cr] 33)).alloc (.cells #[.int .i64 0, .int .i64 0, .string ⟨#[]⟩] 23)) w.heap.size 26 #[.int .i64 19, .int .i64 n, .int .i64 k1, .int .i64 k2, .string s, .string nm, .slice A l.length c] from ((Own.new w _ _).alloc _).alloc _)
  have HR0 := Lib.hid (show Own (((w.alloc (.cells #[.int .i64 19, .int .i64 n, .int .i64 k1, .int .i64 k2, .string s, .string nm, .slice A l.length c] 26)).alloc (.cells #[.slice Ar row.length cr] 33)).alloc (.cells #[.int .i64 0, .int .i64 0, .string ⟨#[]⟩] 23)) (w.heap.size + 1) 33 #[.slice Ar row.length cr] from (Va.own_two _).alloc _)
  have HZ0 := Lib.hid (show Own (((w.alloc (.cells #[.int .i64 19, .int .i64 n, .int .i64 k1, .int .i64 k2, .string s, .string nm, .slice A l.length c] 26)).alloc (.cells #[.slice Ar row.length cr] 33)).alloc (.cells #[.int .i64 0, .int .i64 0, .string ⟨#[]⟩] 23)) (w.heap.size + 1 + 1) 23 #[.int .i64 0, .int .i64 0, .string ⟨#[]⟩] from own_three _ _)
  have HB0 := Lib.hid (show Below w.heap.size w (((w.alloc (.cells #[.int .i64 19, .int .i64 n, .int .i64 k1, .int .i64 k2, .string s, .string nm, .slice A l.length c] 26)).alloc (.cells #[.slice Ar row.length cr] 33)).alloc (.cells #[.int .i64 0, .int .i64 0, .string ⟨#[]⟩] 23)) from ((bel_mk w _).trans ((bel_mk _ _).mono (by simp))).trans ((bel_mk _ _).mono (by simp; omega)))
  go_enter Try.func37, Try.ntmps37
  go_wp2_with fail
  with_reducible refine (HWF.out _).mono ?_
  rintro e w1 ⟨rfl, hb1⟩
  have e1 := HE0.out.below hb1 HE0.out.lt
  have f1 := HR0.out.below hb1 HR0.out.lt
  have z1 := HZ0.out.below hb1 HZ0.out.lt
  have b1 := HB0.out.trans (hb1.mono HB0.out.size)
  have a1 := Below.refl w1.heap.size w1
  have HA := Lib.hid (HAA.out w1 w.heap.size (w.heap.size + 1) b1 (e1.cell 6) (f1.cell 0))
  have HR1 := Lib.hid (HRV.out.step b1 (Nat.le_refl _))
  have x0 := e1.cell 0
  have x1 := e1.cell 1
  have x2 := e1.cell 2
  have x3 := e1.cell 3
  have x4 := e1.cell 4
  have x5 := e1.cell 5
  have x6 := e1.cell 6
  have xr := f1.cell 0
  have HE1 := Lib.hid e1
  clear hb1 HE0 HR0 HZ0 HB0 HWF e1 f1
  go_wp2_with fail
  with_reducible refine (G0 w1 _ _ _ HA.out a1).mono ?_
  rintro e w2 ⟨rfl, hb2⟩
  have z2 := z1.below hb2 z1.lt
  have b2 := b1.trans (hb2.mono b1.size)
  have a2 := a1.trans (hb2.mono a1.size)
  clear hb2
  go_wp2_with fail
  with_reducible refine (G1 w1 _ _ _ HA.out a2).mono ?_
  rintro e w3 ⟨rfl, hb3⟩
  have z3 := z2.below hb3 z2.lt
  have b3 := b2.trans (hb3.mono b2.size)
  have a3 := a2.trans (hb3.mono a2.size)
  clear hb3
  go_wp2_with fail
  with_reducible refine (HF _).mono ?_
  rintro e w4 ⟨rfl, hb4⟩
  have z4 := z3.below hb4 z3.lt
  have b4 := b3.trans (hb4.mono b3.size)
  have a4 := a3.trans (hb4.mono a3.size)
  clear hb4
  have d0 := z4.cell 0; have e0 := z4.free 0; have d1 := z4.cell 1; have e1 := z4.free 1; have d2 := z4.cell 2; have e2 := z4.free 2; (try simp only [List.getElem?_toArray, List.getElem?_cons_zero, List.getElem?_cons_succ] at d0 d1 d2)
  go_wp2
  (try simp only [Exit.inBlock, Exit.then]); refine bodyPost_ret_by (results_cell_row1 (by rfl) _ _ (w.heap.size + 1 + 1) _ (by rfl) (load_val (((z4.store 0 _).store 1 _).store 2 _))) ?_ ?_; (focus rfl); refine ⟨rfl, ?_⟩
  (repeat' (first | (with_reducible exact Below.refl _ _) | (with_reducible assumption) | (with_reducible refine Below.alloc ?_ ?_ _) | (with_reducible refine Below.drew ?_) | (with_reducible refine Below.setCell ?_ ?_ _) | (with_reducible refine Below.trans ?_ (Below.mono (by assumption) ?_)) | go_size))
set_option maxRecDepth 100000 in
set_option maxHeartbeats 12800000 in
theorem ev_len (n k1 k2 : Int) (s nm : ByteArray) (rv : Value) (row l : List Vl) (A : Option Addr) (c : Nat) (w : World) (L2 : Nat) (hR : RdV w L2 w.heap.size rv row) (hl : l.length ≤ 1099511627776)
    (hV : ∀ p ∈ l, vldP p = true) (hwf : wfE 20 n k1 k2 s nm l.length = true)
    (hA : ∀ (W : World) (g h : Nat), Below w.heap.size w W → W.cell? ⟨g, 6, none⟩ = some (.slice A l.length c) → W.cell? ⟨h, 0, none⟩ = some rv → Args W (.pointer (some ⟨g, 0, none⟩)) (.pointer (some ⟨h, 0, none⟩)) l) :
    Calls Try.prog 37 #[.agg #[.int .i64 20, .int .i64 n, .int .i64 k1, .int .i64 k2, .string s, .string nm, .slice A l.length c], rv] w fun e w' => e = .returned (valV (lenP (getP l 0))) ∧ Below w.heap.size w w' := by
  have HWF := Lib.hid (fun W => by have h := pWf_any 20 n k1 k2 s nm A l.length c W; rw [hwf] at h; exact h)
  have HRV := Lib.hid hR
  have HAA := Lib.hid hA
  obtain ⟨Ar, cr, rfl, _, _⟩ := hR
  clear hA
  have hi0 : 0 < l.length := by have h := wf_lo hwf; have h2 : opLo 20 = 1 := rfl; omega
  have G0 : ∀ (w1 W : World) (P Q : Value), Args w1 P Q l → Below w1.heap.size w1 W → Calls Try.prog 68 #[.int .i64 0, P, Q] W fun e w' => e = .returned (valV (getP l 0)) ∧ Below W.heap.size W w' := fun w1 W P Q h hb => h 0 W hi0 hb
  have hv0 := vld_get l hV 0
  generalize getP l 0 = p0 at *
  obtain ⟨a0, b0, c0⟩ := p0
  have HF := fun W => pLength_any a0 b0 c0 W
  generalize lenP (a0, b0, c0) = r at HF ⊢
  obtain ⟨r1, r2, r3⟩ := r
  unfold valV at *
  dsimp only at *
  have HE0 := Lib.hid (show Own (((w.alloc (.cells #[.int .i64 20, .int .i64 n, .int .i64 k1, .int .i64 k2, .string s, .string nm, .slice A l.length c] 26)).alloc (.cells #[.slice Ar row.length cr] 33)).alloc (.cells #[.int .i64 0, .int .i64 0, .string ⟨#[]⟩] 23)) w.heap.size 26 #[.int .i64 20, .int .i64 n, .int .i64 k1, .int .i64 k2, .string s, .string nm, .slice A l.length c] from ((Own.new w _ _).alloc _).alloc _)
  have HR0 := Lib.hid (show Own (((w.alloc (.cells #[.int .i64 20, .int .i64 n, .int .i64 k1, .int .i64 k2, .string s, .string nm, .slice A l.length c] 26)).alloc (.cells #[.slice Ar row.length cr] 33)).alloc (.cells #[.int .i64 0, .int .i64 0, .string ⟨#[]⟩] 23)) (w.heap.size + 1) 33 #[.slice Ar row.length cr] from (Va.own_two _).alloc _)
  have HZ0 := Lib.hid (show Own (((w.alloc (.cells #[.int .i64 20, .int .i64 n, .int .i64 k1, .int .i64 k2, .string s, .string nm, .slice A l.length c] 26)).alloc (.cells #[.slice Ar row.length cr] 33)).alloc (.cells #[.int .i64 0, .int .i64 0, .string ⟨#[]⟩] 23)) (w.heap.size + 1 + 1) 23 #[.int .i64 0, .int .i64 0, .string ⟨#[]⟩] from own_three _ _)
  have HB0 := Lib.hid (show Below w.heap.size w (((w.alloc (.cells #[.int .i64 20, .int .i64 n, .int .i64 k1, .int .i64 k2, .string s, .string nm, .slice A l.length c] 26)).alloc (.cells #[.slice Ar row.length cr] 33)).alloc (.cells #[.int .i64 0, .int .i64 0, .string ⟨#[]⟩] 23)) from ((bel_mk w _).trans ((bel_mk _ _).mono (by simp))).trans ((bel_mk _ _).mono (by simp; omega)))
  go_enter Try.func37, Try.ntmps37
  go_wp2_with fail
  with_reducible refine (HWF.out _).mono ?_
  rintro e w1 ⟨rfl, hb1⟩
  have e1 := HE0.out.below hb1 HE0.out.lt
  have f1 := HR0.out.below hb1 HR0.out.lt
  have z1 := HZ0.out.below hb1 HZ0.out.lt
  have b1 := HB0.out.trans (hb1.mono HB0.out.size)
  have a1 := Below.refl w1.heap.size w1
  have HA := Lib.hid (HAA.out w1 w.heap.size (w.heap.size + 1) b1 (e1.cell 6) (f1.cell 0))
  have HR1 := Lib.hid (HRV.out.step b1 (Nat.le_refl _))
  have x0 := e1.cell 0
  have x1 := e1.cell 1
  have x2 := e1.cell 2
  have x3 := e1.cell 3
  have x4 := e1.cell 4
  have x5 := e1.cell 5
  have x6 := e1.cell 6
  have xr := f1.cell 0
  have HE1 := Lib.hid e1
  clear hb1 HE0 HR0 HZ0 HB0 HWF e1 f1
  go_wp2_with fail
  with_reducible refine (G0 w1 _ _ _ HA.out a1).mono ?_
  rintro e w2 ⟨rfl, hb2⟩
  have z2 := z1.below hb2 z1.lt
  have b2 := b1.trans (hb2.mono b1.size)
  have a2 := a1.trans (hb2.mono a1.size)
  clear hb2
  go_wp2_with fail
  with_reducible refine (HF _).mono ?_
  rintro e w3 ⟨rfl, hb3⟩
  have z3 := z2.below hb3 z2.lt
  have b3 := b2.trans (hb3.mono b2.size)
  have a3 := a2.trans (hb3.mono a2.size)
  clear hb3
  have d0 := z3.cell 0; have e0 := z3.free 0; have d1 := z3.cell 1; have e1 := z3.free 1; have d2 := z3.cell 2; have e2 := z3.free 2; (try simp only [List.getElem?_toArray, List.getElem?_cons_zero, List.getElem?_cons_succ] at d0 d1 d2)
  go_wp2
  (try simp only [Exit.inBlock, Exit.then]); refine bodyPost_ret_by (results_cell_row1 (by rfl) _ _ (w.heap.size + 1 + 1) _ (by rfl) (load_val (((z3.store 0 _).store 1 _).store 2 _))) ?_ ?_; (focus rfl); refine ⟨rfl, ?_⟩
  (repeat' (first | (with_reducible exact Below.refl _ _) | (with_reducible assumption) | (with_reducible refine Below.alloc ?_ ?_ _) | (with_reducible refine Below.drew ?_) | (with_reducible refine Below.setCell ?_ ?_ _) | (with_reducible refine Below.trans ?_ (Below.mono (by assumption) ?_)) | go_size))
set_option maxRecDepth 100000 in
set_option maxHeartbeats 12800000 in
theorem ev_null (n k1 k2 : Int) (s nm : ByteArray) (rv : Value) (row l : List Vl) (A : Option Addr) (c : Nat) (w : World) (L2 : Nat) (hR : RdV w L2 w.heap.size rv row) (hl : l.length ≤ 1099511627776)
    (hV : ∀ p ∈ l, vldP p = true) (hwf : wfE 21 n k1 k2 s nm l.length = true)
    (hA : ∀ (W : World) (g h : Nat), Below w.heap.size w W → W.cell? ⟨g, 6, none⟩ = some (.slice A l.length c) → W.cell? ⟨h, 0, none⟩ = some rv → Args W (.pointer (some ⟨g, 0, none⟩)) (.pointer (some ⟨h, 0, none⟩)) l) :
    Calls Try.prog 37 #[.agg #[.int .i64 21, .int .i64 n, .int .i64 k1, .int .i64 k2, .string s, .string nm, .slice A l.length c], rv] w fun e w' => e = .returned (valV (booP ((getP l 0).1 == 0))) ∧ Below w.heap.size w w' := by
  have HWF := Lib.hid (fun W => by have h := pWf_any 21 n k1 k2 s nm A l.length c W; rw [hwf] at h; exact h)
  have HRV := Lib.hid hR
  have HAA := Lib.hid hA
  obtain ⟨Ar, cr, rfl, _, _⟩ := hR
  clear hA
  have hi0 : 0 < l.length := by have h := wf_lo hwf; have h2 : opLo 21 = 1 := rfl; omega
  have G0 : ∀ (w1 W : World) (P Q : Value), Args w1 P Q l → Below w1.heap.size w1 W → Calls Try.prog 68 #[.int .i64 0, P, Q] W fun e w' => e = .returned (valV (getP l 0)) ∧ Below W.heap.size W w' := fun w1 W P Q h hb => h 0 W hi0 hb
  have hv0 := vld_get l hV 0
  generalize getP l 0 = p0 at *
  obtain ⟨a0, b0, c0⟩ := p0
  have HI := fun W => pIsNull_any a0 b0 c0 W
  have HF := fun W => eBool (a0 == 0) W
  generalize booP (((a0, b0, c0) : Vl).1 == 0) = r at HF ⊢
  obtain ⟨r1, r2, r3⟩ := r
  unfold valV at *
  dsimp only at *
  have HE0 := Lib.hid (show Own (((w.alloc (.cells #[.int .i64 21, .int .i64 n, .int .i64 k1, .int .i64 k2, .string s, .string nm, .slice A l.length c] 26)).alloc (.cells #[.slice Ar row.length cr] 33)).alloc (.cells #[.int .i64 0, .int .i64 0, .string ⟨#[]⟩] 23)) w.heap.size 26 #[.int .i64 21, .int .i64 n, .int .i64 k1, .int .i64 k2, .string s, .string nm, .slice A l.length c] from ((Own.new w _ _).alloc _).alloc _)
  have HR0 := Lib.hid (show Own (((w.alloc (.cells #[.int .i64 21, .int .i64 n, .int .i64 k1, .int .i64 k2, .string s, .string nm, .slice A l.length c] 26)).alloc (.cells #[.slice Ar row.length cr] 33)).alloc (.cells #[.int .i64 0, .int .i64 0, .string ⟨#[]⟩] 23)) (w.heap.size + 1) 33 #[.slice Ar row.length cr] from (Va.own_two _).alloc _)
  have HZ0 := Lib.hid (show Own (((w.alloc (.cells #[.int .i64 21, .int .i64 n, .int .i64 k1, .int .i64 k2, .string s, .string nm, .slice A l.length c] 26)).alloc (.cells #[.slice Ar row.length cr] 33)).alloc (.cells #[.int .i64 0, .int .i64 0, .string ⟨#[]⟩] 23)) (w.heap.size + 1 + 1) 23 #[.int .i64 0, .int .i64 0, .string ⟨#[]⟩] from own_three _ _)
  have HB0 := Lib.hid (show Below w.heap.size w (((w.alloc (.cells #[.int .i64 21, .int .i64 n, .int .i64 k1, .int .i64 k2, .string s, .string nm, .slice A l.length c] 26)).alloc (.cells #[.slice Ar row.length cr] 33)).alloc (.cells #[.int .i64 0, .int .i64 0, .string ⟨#[]⟩] 23)) from ((bel_mk w _).trans ((bel_mk _ _).mono (by simp))).trans ((bel_mk _ _).mono (by simp; omega)))
  go_enter Try.func37, Try.ntmps37
  go_wp2_with fail
  with_reducible refine (HWF.out _).mono ?_
  rintro e w1 ⟨rfl, hb1⟩
  have e1 := HE0.out.below hb1 HE0.out.lt
  have f1 := HR0.out.below hb1 HR0.out.lt
  have z1 := HZ0.out.below hb1 HZ0.out.lt
  have b1 := HB0.out.trans (hb1.mono HB0.out.size)
  have a1 := Below.refl w1.heap.size w1
  have HA := Lib.hid (HAA.out w1 w.heap.size (w.heap.size + 1) b1 (e1.cell 6) (f1.cell 0))
  have HR1 := Lib.hid (HRV.out.step b1 (Nat.le_refl _))
  have x0 := e1.cell 0
  have x1 := e1.cell 1
  have x2 := e1.cell 2
  have x3 := e1.cell 3
  have x4 := e1.cell 4
  have x5 := e1.cell 5
  have x6 := e1.cell 6
  have xr := f1.cell 0
  have HE1 := Lib.hid e1
  clear hb1 HE0 HR0 HZ0 HB0 HWF e1 f1
  go_wp2_with fail
  with_reducible refine (G0 w1 _ _ _ HA.out a1).mono ?_
  rintro e w2 ⟨rfl, hb2⟩
  have z2 := z1.below hb2 z1.lt
  have b2 := b1.trans (hb2.mono b1.size)
  have a2 := a1.trans (hb2.mono a1.size)
  clear hb2
  go_wp2_with fail
  with_reducible refine (HI _).mono ?_
  rintro e w3 ⟨rfl, hb3⟩
  have z3 := z2.below hb3 z2.lt
  have b3 := b2.trans (hb3.mono b2.size)
  have a3 := a2.trans (hb3.mono a2.size)
  clear hb3
  go_wp2_with fail
  with_reducible refine (HF _).mono ?_
  rintro e w4 ⟨rfl, hb4⟩
  have z4 := z3.below hb4 z3.lt
  have b4 := b3.trans (hb4.mono b3.size)
  have a4 := a3.trans (hb4.mono a3.size)
  clear hb4
  have d0 := z4.cell 0; have e0 := z4.free 0; have d1 := z4.cell 1; have e1 := z4.free 1; have d2 := z4.cell 2; have e2 := z4.free 2; (try simp only [List.getElem?_toArray, List.getElem?_cons_zero, List.getElem?_cons_succ] at d0 d1 d2)
  go_wp2
  (try simp only [Exit.inBlock, Exit.then]); refine bodyPost_ret_by (results_cell_row1 (by rfl) _ _ (w.heap.size + 1 + 1) _ (by rfl) (load_val (((z4.store 0 _).store 1 _).store 2 _))) ?_ ?_; (focus rfl); refine ⟨rfl, ?_⟩
  (repeat' (first | (with_reducible exact Below.refl _ _) | (with_reducible assumption) | (with_reducible refine Below.alloc ?_ ?_ _) | (with_reducible refine Below.drew ?_) | (with_reducible refine Below.setCell ?_ ?_ _) | (with_reducible refine Below.trans ?_ (Below.mono (by assumption) ?_)) | go_size))
end Go.Proofs.Ythnmcpfmljibeaa
