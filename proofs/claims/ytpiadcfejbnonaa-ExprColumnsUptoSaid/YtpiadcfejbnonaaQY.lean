import Derived.Test.YtpiadcfejbnonaaQT
import Derived.Test.YtpiadcfejbnonaaQV
import Derived.Test.YtpiadcfejbnonaaQX
import Derived.Deep.RegionHeld3
import Derived.WalkKit
import Derived.WalkSpells
import Derived.WalkLawsBesides
import Derived.Deep.QuietTactic
import Derived.BigQuiet
import Derived.Handy
import Derived.Lib.Hide
/-
  The value of an expression: the mathematics; the closure that evaluates an argument. Conditions: lengths.
-/
namespace Go.Proofs.Ytpiadcfejbnonaa
set_option linter.unusedVariables false
set_option linter.unusedSimpArgs false
set_option linter.unusedVariables false
set_option linter.unusedSimpArgs false
set_option linter.unusedVariables false
set_option linter.unusedSimpArgs false
set_option maxRecDepth 100000
open Go.RowKit

def getP (l : List Vl) (i : Nat) : Vl := l.getD i nullP
/-- The value that an operator makes of the values of its arguments. -/
def opE (op n : Int) (v : Vl) (row l : List Vl) : Vl :=
  if op = 1 then v
  else if op = 2 then colP row n
  else if op = 4 ∨ op = 5 ∨ op = 6 then ofP (logP op l)
  else if op = 7 ∨ op = 8 ∨ op = 9 ∨ op = 10 ∨ op = 11 ∨ op = 12 then ofP (cmqP op (getP l 0) (getP l 1))
  else if op = 13 ∨ op = 14 ∨ op = 15 ∨ op = 16 ∨ op = 17 then ariP op (getP l 0) (getP l 1)
  else if op = 18 then ariP 14 (intP 0) (getP l 0)
  else if op = 19 then catP (getP l 0) (getP l 1)
  else if op = 20 then lenP (getP l 0)
  else if op = 21 then booP ((getP l 0).1 == 0)
  else if op = 22 then (if truP (getP l 0) = 2 then getP l 1 else getP l 2)
  else if op = 23 then fstP l
  else relP n l
/-- The value of an expression for a row. -/
def evE (row : List Vl) : Nat → Ex → Vl
  | 0, _ => nullP
  | d + 1, e => if wfE e.op e.n e.v.1 e.v.2.1 e.v.2.2 e.nm e.args.length then opE e.op e.n e.v row (e.args.map (evE row d)) else nullP
theorem vld_null : vldP nullP = true := by simp [vldP, nullP, Va.vldV, Va.emp]
theorem vld_nrm (p : Vl) : vldP (nrmP p) = true := by
  unfold nrmP
  split
  · assumption
  · exact vld_null
theorem vld_boo (b : Bool) : vldP (booP b) = true := by cases b <;> simp [vldP, booP, Va.vldV, Va.emp]
theorem vld_of (t : Int) : vldP (ofP t) = true := by
  unfold ofP
  split
  · exact vld_boo _
  · split
    · exact vld_boo _
    · exact vld_null
theorem vld_col (row : List Vl) (i : Int) : vldP (colP row i) = true := by
  unfold colP
  split
  · split
    · exact vld_nrm _
    · exact vld_null
  · exact vld_null
theorem vld_mul (x y : Int) : vldP (mulP x y) = true := by
  unfold mulP
  split
  · exact vld_null
  · exact vld_nrm _
theorem vld_ari (op : Int) (p q : Vl) : vldP (ariP op p q) = true := by
  unfold ariP
  repeat' (first | exact vld_nrm _ | exact vld_null | exact vld_mul _ _ | split)
theorem vld_fst : ∀ l : List Vl, (∀ p ∈ l, vldP p = true) → vldP (fstP l) = true
  | [], _ => vld_null
  | p :: l, h => by
    unfold fstP
    split
    · exact vld_fst l fun q hq => h q (List.mem_cons_of_mem _ hq)
    · exact h p (List.mem_cons_self ..)
theorem vld_get (l : List Vl) (h : ∀ p ∈ l, vldP p = true) (i : Nat) : vldP (getP l i) = true := by
  unfold getP
  rw [List.getD_eq_getElem?_getD]
  cases hi : l[i]? with
  | none => exact vld_null
  | some p => exact h p (List.mem_of_getElem? hi)
theorem vld_rel (n : Int) (l : List Vl) : vldP (relP n l) = true := by
  unfold relP
  repeat' (first | exact vld_boo _ | exact vld_null | split)
theorem vld_cat (p q : Vl) : vldP (catP p q) = true := by
  unfold catP
  split
  · exact vld_nrm _
  · exact vld_null
theorem vld_leng (p : Vl) : vldP (lenP p) = true := by
  unfold lenP
  split
  · exact vld_nrm _
  · exact vld_null
theorem vld_if (c : Prop) [Decidable c] (p q : Vl) (hp : vldP p = true) (hq : vldP q = true) : vldP (if c then p else q) = true := by
  split
  · exact hp
  · exact hq
theorem vld_opE (op n : Int) (v : Vl) (row l : List Vl) (hv : op = 1 → vldP v = true) (h : ∀ p ∈ l, vldP p = true) : vldP (opE op n v row l) = true := by
  unfold opE
  by_cases h1 : op = 1
  · rw [if_pos h1]; exact hv h1
  rw [if_neg h1]
  by_cases h2 : op = 2
  · rw [if_pos h2]; exact vld_col _ _
  rw [if_neg h2]
  by_cases h3 : op = 4 ∨ op = 5 ∨ op = 6
  · rw [if_pos h3]; exact vld_of _
  rw [if_neg h3]
  by_cases h4 : op = 7 ∨ op = 8 ∨ op = 9 ∨ op = 10 ∨ op = 11 ∨ op = 12
  · rw [if_pos h4]; exact vld_of _
  rw [if_neg h4]
  by_cases h5 : op = 13 ∨ op = 14 ∨ op = 15 ∨ op = 16 ∨ op = 17
  · rw [if_pos h5]; exact vld_ari _ _ _
  rw [if_neg h5]
  by_cases h6 : op = 18
  · rw [if_pos h6]; exact vld_ari _ _ _
  rw [if_neg h6]
  by_cases h7 : op = 19
  · rw [if_pos h7]; exact vld_cat _ _
  rw [if_neg h7]
  by_cases h8 : op = 20
  · rw [if_pos h8]; exact vld_leng _
  rw [if_neg h8]
  by_cases h9 : op = 21
  · rw [if_pos h9]; exact vld_boo _
  rw [if_neg h9]
  by_cases h10 : op = 22
  · rw [if_pos h10]; exact vld_if _ _ _ (vld_get l h _) (vld_get l h _)
  rw [if_neg h10]
  by_cases h11 : op = 23
  · rw [if_pos h11]; exact vld_fst l h
  rw [if_neg h11]
  exact vld_rel n l
theorem wf_const {op n k m : Int} {s nm : ByteArray} {l : Nat} (h : wfE op n k m s nm l = true) (ho : op = 1) : Va.vldV k m s = true := by
  subst ho
  unfold wfE fldE at h
  rw [if_pos rfl] at h
  simp only [Bool.and_eq_true] at h
  exact h.2.1.1
theorem vld_evE (row : List Vl) : ∀ (d : Nat) (e : Ex), vldP (evE row d e) = true
  | 0, _ => vld_null
  | d + 1, e => by
    unfold evE
    split
    · rename_i hw
      refine vld_opE _ _ _ _ _ (fun ho => wf_const hw ho) fun p hp => ?_
      obtain ⟨a, _, rfl⟩ := List.mem_map.1 hp
      exact vld_evE row d a
    · exact vld_null
/-- What is known of a valid value. -/
theorem vld_num {p : Vl} (h : vldP p = true) (hk : p.1 = 1) : -1125899906842624 ≤ p.2.1 ∧ p.2.1 ≤ 1125899906842624 := by
  unfold vldP Va.vldV at h
  rw [if_neg (by omega), if_pos hk] at h
  simp only [Bool.and_eq_true, decide_eq_true_eq] at h
  exact h.1
theorem vld_len {p : Vl} (h : vldP p = true) : p.2.2.size ≤ 1000 := by
  have he : ∀ s : ByteArray, Va.emp s = true → s.size ≤ 1000 := by
    intro s hs
    unfold Va.emp at hs
    have h2 : s.toList = [] := by simpa using hs
    have h3 : s.data.toList = [] := by rw [← Lib.toList_data]; exact h2
    have h4 : s.size = s.data.toList.length := by rw [Array.length_toList]; rfl
    rw [h4, h3]; exact Nat.zero_le _
  unfold vldP Va.vldV at h
  split at h
  · simp only [Bool.and_eq_true] at h; exact he _ h.2
  · split at h
    · simp only [Bool.and_eq_true] at h; exact he _ h.2
    · split at h
      · simp only [Bool.and_eq_true, decide_eq_true_eq] at h; omega
      · split at h
        · simp only [Bool.and_eq_true] at h; exact he _ h.2
        · cases h
end Go.Proofs.Ytpiadcfejbnonaa
/-
  The closure that evaluates an argument. Conditions: lengths.
-/
namespace Go.Proofs.Ytpiadcfejbnonaa
set_option linter.unusedVariables false
set_option linter.unusedSimpArgs false
set_option linter.unusedVariables false
set_option linter.unusedSimpArgs false
set_option linter.unusedVariables false
set_option linter.unusedSimpArgs false
set_option maxRecDepth 100000
open Go.RowKit

set_option maxRecDepth 100000 in
set_option maxHeartbeats 6400000 in
theorem pArg_any (g h k m c : Nat) (ad : Addr) (rv : Value) (y : Ex) (A3 : Option Addr) (c3 : Nat) (r : Vl) (W : World) (hk : k < m)
    (x6 : W.cell? ⟨g, 6, none⟩ = some (.slice (some ad) m c)) (xr : W.cell? ⟨h, 0, none⟩ = some rv) (hx : ExC W (ad.add (k * 7)) y (.slice A3 y.args.length c3)) (hrv : ∃ A n c, rv = .slice A n c)
    (hcall : ∀ W', Below W.heap.size W W' → Calls Try.prog 12 #[exV y (.slice A3 y.args.length c3), rv] W' fun e w' => e = .returned (valV r) ∧ Below W'.heap.size W' w') :
    Calls Try.prog 37 #[.int .i64 (k : Nat), .pointer (some ⟨g, 0, none⟩), .pointer (some ⟨h, 0, none⟩)] W fun e w' => e = .returned (valV r) ∧ Below W.heap.size W w' := by
  obtain ⟨Ar, nr, cr, rfl⟩ := hrv
  obtain ⟨d0, d1, d2, d3, d4, d5, d6⟩ := hx
  have hki : (k : Int) < m := by omega
  have l6 := World.block_lt_of_cell? W _ x6
  have lr := World.block_lt_of_cell? W _ xr
  have la := World.block_lt_of_cell? W _ d0
  obtain ⟨r1, r2, r3⟩ := r
  have HC := Lib.hid hcall
  have bX := bel_mk W (.cells #[.int .i64 0, .int .i64 0, .string ⟨#[]⟩] 23)
  have oX := own_onez W
  generalize hWX : W.alloc (.cells #[.int .i64 0, .int .i64 0, .string ⟨#[]⟩] 23) = X at *
  have B5 : Below W.heap.size W X.drew := bX.drew
  have HS := Lib.hid (show ∀ w', Below W.heap.size W w' → (Below W.heap.size W w' ∧ w'.cell? ⟨g, 6, none⟩ = some (.slice (some ad) m c) ∧ w'.cell? ⟨h, 0, none⟩ = some (.slice Ar nr cr) ∧
      w'.cell? (ad.add (k * 7)) = some (.int .i64 y.op) ∧ w'.cell? ⟨(ad.add (k * 7)).block, (ad.add (k * 7)).off + 1, none⟩ = some (.int .i64 y.n) ∧ w'.cell? ⟨(ad.add (k * 7)).block, (ad.add (k * 7)).off + 2, none⟩ = some (.int .i64 y.v.1) ∧
      w'.cell? ⟨(ad.add (k * 7)).block, (ad.add (k * 7)).off + 3, none⟩ = some (.int .i64 y.v.2.1) ∧ w'.cell? ⟨(ad.add (k * 7)).block, (ad.add (k * 7)).off + 4, none⟩ = some (.string y.v.2.2) ∧ w'.cell? ⟨(ad.add (k * 7)).block, (ad.add (k * 7)).off + 5, none⟩ = some (.string y.nm) ∧
      w'.cell? ⟨(ad.add (k * 7)).block, (ad.add (k * 7)).off + 6, none⟩ = some (.slice A3 y.args.length c3)) from fun w' B6 => by
    exact ⟨B6, (B6.cell (p := ⟨g, 6, none⟩) l6).trans x6, (B6.cell (p := ⟨h, 0, none⟩) lr).trans xr, (B6.cell (p := ad.add (k * 7)) la).trans d0,
      (B6.cell (p := ⟨(ad.add (k * 7)).block, (ad.add (k * 7)).off + 1, none⟩) la).trans d1, (B6.cell (p := ⟨(ad.add (k * 7)).block, (ad.add (k * 7)).off + 2, none⟩) la).trans d2,
      (B6.cell (p := ⟨(ad.add (k * 7)).block, (ad.add (k * 7)).off + 3, none⟩) la).trans d3, (B6.cell (p := ⟨(ad.add (k * 7)).block, (ad.add (k * 7)).off + 4, none⟩) la).trans d4,
      (B6.cell (p := ⟨(ad.add (k * 7)).block, (ad.add (k * 7)).off + 5, none⟩) la).trans d5, (B6.cell (p := ⟨(ad.add (k * 7)).block, (ad.add (k * 7)).off + 6, none⟩) la).trans d6⟩)
  have HB5 := Lib.hid B5
  have HO := Lib.hid (show Own X.drew W.heap.size 23 #[.int .i64 0, .int .i64 0, .string ⟨#[]⟩] from oX)
  clear x6 xr d0 d1 d2 d3 d4 d5 d6 l6 lr la hcall bX oX B5
  unfold exV valV at *
  dsimp only at HC ⊢
  go_enter Try.func37, Try.ntmps37
  go_wp2_with fail
  go_region_held3 (fun w' => Below W.heap.size W w' ∧ w'.cell? ⟨g, 6, none⟩ = some (.slice (some ad) m c) ∧ w'.cell? ⟨h, 0, none⟩ = some (.slice Ar nr cr) ∧
      w'.cell? (ad.add (k * 7)) = some (.int .i64 y.op) ∧ w'.cell? ⟨(ad.add (k * 7)).block, (ad.add (k * 7)).off + 1, none⟩ = some (.int .i64 y.n) ∧ w'.cell? ⟨(ad.add (k * 7)).block, (ad.add (k * 7)).off + 2, none⟩ = some (.int .i64 y.v.1) ∧
      w'.cell? ⟨(ad.add (k * 7)).block, (ad.add (k * 7)).off + 3, none⟩ = some (.int .i64 y.v.2.1) ∧ w'.cell? ⟨(ad.add (k * 7)).block, (ad.add (k * 7)).off + 4, none⟩ = some (.string y.v.2.2) ∧ w'.cell? ⟨(ad.add (k * 7)).block, (ad.add (k * 7)).off + 5, none⟩ = some (.string y.nm) ∧
      w'.cell? ⟨(ad.add (k * 7)).block, (ad.add (k * 7)).off + 6, none⟩ = some (.slice A3 y.args.length c3))
    (first | (exact HS.out _ HB5.out) | (exact HS.out _ hbW) | (exact HS.out _ (((hbW.setCell (p := ⟨W.heap.size, 0, none⟩) (Nat.le_refl _) _).setCell (p := ⟨W.heap.size, 1, none⟩) (Nat.le_refl _) _).setCell (p := ⟨W.heap.size, 2, none⟩) (Nat.le_refl _) _)))
    ((go_at_call 12; refine (HC.out _ HB5.out).mono ?_; rintro e w1 ⟨rfl, hb⟩; have hbW := HB5.out.trans (hb.mono HB5.out.size); have o1 := HO.out.below hb HO.out.lt; have f0 := o1.cell 0; have f1 := o1.cell 1; have f2 := o1.cell 2; have j0 := o1.free 0; have j1 := o1.free 1; have j2 := o1.free 2))
  go_wp2
  (try simp only [Exit.inBlock, Exit.then]); refine bodyPost_ret_by (results_cell_row1 (by rfl) _ _ (W.heap.size) _ (by rfl) (load_val (((o1.store 0 _).store 1 _).store 2 _))) ?_ ?_; (focus rfl); refine ⟨rfl, ?_⟩
  exact (((hbW.setCell (p := ⟨W.heap.size, 0, none⟩) (Nat.le_refl _) _).setCell (p := ⟨W.heap.size, 1, none⟩) (Nat.le_refl _) _).setCell (p := ⟨W.heap.size, 2, none⟩) (Nat.le_refl _) _)
/-- The closure over a box of an expression and a box of a row answers with the values of the arguments. -/
theorem args_of (row : List Vl) (d : Nat) (es : List Ex) (A : Option Addr) (c : Nat) (rv : Value) (g h : Nat) (w : World) (L L2 : Nat)
    (x6 : w.cell? ⟨g, 6, none⟩ = some (.slice A es.length c)) (xr : w.cell? ⟨h, 0, none⟩ = some rv) (hE : RdE w L w.heap.size (d + 1) (.slice A es.length c) es) (hR : RdV w L2 w.heap.size rv row)
    (IH : ∀ (e : Ex) (A : Option Addr) (c : Nat) (w : World) (L L2 : Nat), RdE w L w.heap.size d (.slice A e.args.length c) e.args → RdV w L2 w.heap.size rv row →
      Calls Try.prog 12 #[exV e (.slice A e.args.length c), rv] w fun e' w' => e' = .returned (valV (evE row d e)) ∧ Below w.heap.size w w') :
    Args w (.pointer (some ⟨g, 0, none⟩)) (.pointer (some ⟨h, 0, none⟩)) (es.map (evE row d)) := by
  intro k W hk hW
  rw [List.length_map] at hk
  have hE2 := hE.step hW (Nat.le_refl _)
  have hR2 := hR.step hW (Nat.le_refl _)
  obtain ⟨A', c', hv, hl, hc⟩ := hE2
  injection hv with e1 e2 e3
  subst e1
  obtain ⟨ad, u, rfl, _, hab, hxc, hxr⟩ := hc k _ (List.getElem?_eq_getElem hk)
  obtain ⟨A3, c3, rfl, _⟩ := hxr.slice
  have hg : (es.map (evE row d)).getD k nullP = evE row d es[k] := by simp [List.getD, List.getElem?_map, List.getElem?_eq_getElem hk]
  rw [hg]
  refine pArg_any g h k es.length c ad rv es[k] A3 c3 _ W hk ((hW.cell (p := ⟨g, 6, none⟩) (World.block_lt_of_cell? w _ x6)).trans x6) ((hW.cell (p := ⟨h, 0, none⟩) (World.block_lt_of_cell? w _ xr)).trans xr) hxc ?_ ?_
  · obtain ⟨Ar, cr, e, _⟩ := hR
    exact ⟨Ar, _, cr, e⟩
  · intro W' hW'
    exact IH es[k] A3 c3 W' L L2 (hxr.step hW' (Nat.le_refl _)) (hR2.step hW' (Nat.le_refl _))
end Go.Proofs.Ytpiadcfejbnonaa
