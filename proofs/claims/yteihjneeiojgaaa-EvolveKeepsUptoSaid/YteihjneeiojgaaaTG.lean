import Derived.Test.YteihjneeiojgaaaTE
import Derived.WalkKit
import Derived.WalkSpells
import Derived.WalkLawsBesides
import Derived.Deep.QuietTactic
import Derived.BigQuiet
import Derived.Handy
import Derived.Lib.Hide
/-
  Substitute, by the program: a tree in new memory. Conditions: lengths, a bounded depth.
-/
namespace Go.Proofs.Yteihjneeiojgaaa
set_option maxRecDepth 100000
set_option linter.unusedVariables false
set_option linter.unusedSimpArgs false
open Go.RowKit

set_option maxRecDepth 100000 in
set_option maxHeartbeats 6400000 in
theorem pSubst1_any (vl : Value) (ls : List Ex) (D : Nat) (d : Nat) (e : Ex) (u : Value) (g : Nat) (W : World) (L : Nat) (h : RdE W L W.heap.size d u e.args) (hvl : ∃ A n c, vl = .slice A n c) (hg : W.cell? ⟨g, 0, none⟩ = some (vl))
    (IH : ∀ W' : World, Below W.heap.size W W' → Calls Try.prog 31 #[exV e u, vl] W' (RetX W' D (sbX ls d e))) :
    Calls Try.prog 54 #[exV e u, .pointer (some ⟨g, 0, none⟩)] W (RetX W D (sbX ls d e)) := by
  have hgl := World.block_lt_of_cell? W _ hg
  obtain ⟨Al, nl, cl, rfl⟩ := hvl
  have hu := h
  obtain ⟨op, n, ⟨k1, k2, s⟩, nm, es⟩ := e
  dsimp only at h hu
  obtain ⟨A, c, rfl, _⟩ := hu.slice
  generalize hw : W = w at *
  have HO1 := Lib.hid (show Own ((w.alloc (.cells #[.int .i64 op, .int .i64 n, .int .i64 k1, .int .i64 k2, .string s, .string nm, .slice A es.length c] 65)).alloc (.cells #[.int .i64 0, .int .i64 0, .int .i64 0, .int .i64 0, .string ⟨#[]⟩, .string ⟨#[]⟩, .slice none 0 0] 65)) (w.heap.size + 1) 65 #[.int .i64 0, .int .i64 0, .int .i64 0, .int .i64 0, .string ⟨#[]⟩, .string ⟨#[]⟩, .slice none 0 0] from Va.own_two _)
  have HB1 := Lib.hid (show Below w.heap.size w ((w.alloc (.cells #[.int .i64 op, .int .i64 n, .int .i64 k1, .int .i64 k2, .string s, .string nm, .slice A es.length c] 65)).alloc (.cells #[.int .i64 0, .int .i64 0, .int .i64 0, .int .i64 0, .string ⟨#[]⟩, .string ⟨#[]⟩, .slice none 0 0] 65)) from (bel_mk w _).trans ((bel_mk _ _).mono (by simp)))
  have HC := Lib.hid (IH _ HB1.out)
  have xg := (HB1.out.cell hgl).trans hg
  clear h hu IH hg hw
  generalize sbX ls d (⟨op, n, (k1, k2, s), nm, es⟩ : Ex) = R at *
  unfold exV at *
  dsimp only at *
  go_enter Try.func54, Try.ntmps54
  go_wp2_with fail
  with_reducible refine HC.out.mono ?_
  rintro e w3 ⟨u3, rfl, hr3, hb3⟩
  have HO3 := Lib.hid (HO1.out.below hb3 HO1.out.lt)
  have HB3 := Lib.hid (HB1.out.trans (hb3.mono HB1.out.size))
  have HT := Lib.hid (hr3.more (Nat.le_refl _) (show w.heap.size + 2 ≤ _ from HO1.out.lt))
  generalize hrr : R = r at *
  obtain ⟨r0, r1, ⟨r2, r3, r4⟩, r5, r6⟩ := r
  obtain ⟨A4, c4, rfl, hl4⟩ := hr3.slice
  unfold exV
  dsimp only
  have o0 := HO3.out.cell 0
  have o1 := HO3.out.cell 1
  have o2 := HO3.out.cell 2
  have o3 := HO3.out.cell 3
  have o4 := HO3.out.cell 4
  have o5 := HO3.out.cell 5
  have o6 := HO3.out.cell 6
  have m0 := HO3.out.free 0
  have m1 := HO3.out.free 1
  have m2 := HO3.out.free 2
  have m3 := HO3.out.free 3
  have m4 := HO3.out.free 4
  have m5 := HO3.out.free 5
  have m6 := HO3.out.free 6
  have HX := Lib.hid (((((((HO3.out.store 0 (.int .i64 r0)).store 1 (.int .i64 r1)).store 2 (.int .i64 r2)).store 3 (.int .i64 r3)).store 4 (.string r4)).store 5 (.string r5)).store 6 (.slice A4 r6.length c4))
  clear hr3 hb3 hrr
  go_wp2
  (try simp only [Exit.inBlock, Exit.then]); refine bodyPost_ret_by (results_cell_row1 (by rfl) _ _ (w.heap.size + 1) _ (by rfl) (load_ex HX.out)) ?_ ?_; (focus rfl); refine ⟨_, rfl, ?_, ?_⟩
  · simp only [World.size_setCell]
    refine RdE.more (Nat.le_refl _) (show w.heap.size ≤ w.heap.size + 2 by omega) ?_
    exact (((((((HT.out).far (by show w.heap.size + 1 < _; omega)).far (by show w.heap.size + 1 < _; omega)).far (by show w.heap.size + 1 < _; omega)).far (by show w.heap.size + 1 < _; omega)).far (by show w.heap.size + 1 < _; omega)).far (by show w.heap.size + 1 < _; omega)).far (by show w.heap.size + 1 < _; omega)
  · exact (((((((HB3.out).setCell (by show w.heap.size ≤ w.heap.size + 1; omega) _).setCell (by show w.heap.size ≤ w.heap.size + 1; omega) _).setCell (by show w.heap.size ≤ w.heap.size + 1; omega) _).setCell (by show w.heap.size ≤ w.heap.size + 1; omega) _).setCell (by show w.heap.size ≤ w.heap.size + 1; omega) _).setCell (by show w.heap.size ≤ w.heap.size + 1; omega) _).setCell (by show w.heap.size ≤ w.heap.size + 1; omega) _
set_option maxRecDepth 100000 in
set_option maxHeartbeats 12800000 in
theorem pSubst_any (vl : Value) (ls : List Ex) (dl : Nat) : ∀ (d : Nat) (e : Ex) (u : Value) (w : World) (L L2 : Nat), RdE w L w.heap.size d u e.args → RdE w L2 w.heap.size (dl + 1) vl ls → Calls Try.prog 31 #[exV e u, vl] w (RetX w (d + dl) (sbX ls d e))
  | 0, _, _, _, _, _, h, _ => h.elim
  | d + 1, e, u, w, L, L2, h, hl2 => by
    have IH := fun e u w L L2 h hl2 => pSubst_any vl ls dl d e u w L L2 h hl2
    have hu := h
    have hv := hl2
    obtain ⟨op, n, ⟨k1, k2, s⟩, nm, es⟩ := e
    dsimp only at h hu
    obtain ⟨A, c, rfl, _⟩ := hu.slice
    obtain ⟨Al, cl, rfl, hll, hcl⟩ := hv
    have HCL := Lib.hid hcl
    clear hu hcl
    have HEX := Lib.hid (show Own (((w.alloc (.cells #[.int .i64 op, .int .i64 n, .int .i64 k1, .int .i64 k2, .string s, .string nm, .slice A es.length c] 65)).alloc (.cells #[.slice Al ls.length cl] 25)).alloc (.cells #[.int .i64 0, .int .i64 0, .int .i64 0, .int .i64 0, .string ⟨#[]⟩, .string ⟨#[]⟩, .slice none 0 0] 65)) w.heap.size 65 #[.int .i64 op, .int .i64 n, .int .i64 k1, .int .i64 k2, .string s, .string nm, .slice A es.length c] from ((Own.new w _ _).alloc _).alloc _)
    have HNX := Lib.hid (show Own (((w.alloc (.cells #[.int .i64 op, .int .i64 n, .int .i64 k1, .int .i64 k2, .string s, .string nm, .slice A es.length c] 65)).alloc (.cells #[.slice Al ls.length cl] 25)).alloc (.cells #[.int .i64 0, .int .i64 0, .int .i64 0, .int .i64 0, .string ⟨#[]⟩, .string ⟨#[]⟩, .slice none 0 0] 65)) (w.heap.size + 1) 25 #[.slice Al ls.length cl] from (Va.own_two _).alloc _)
    have HOX := Lib.hid (show Own (((w.alloc (.cells #[.int .i64 op, .int .i64 n, .int .i64 k1, .int .i64 k2, .string s, .string nm, .slice A es.length c] 65)).alloc (.cells #[.slice Al ls.length cl] 25)).alloc (.cells #[.int .i64 0, .int .i64 0, .int .i64 0, .int .i64 0, .string ⟨#[]⟩, .string ⟨#[]⟩, .slice none 0 0] 65)) (w.heap.size + 1 + 1) 65 #[.int .i64 0, .int .i64 0, .int .i64 0, .int .i64 0, .string ⟨#[]⟩, .string ⟨#[]⟩, .slice none 0 0] from by have h := Own.new ((w.alloc (.cells #[.int .i64 op, .int .i64 n, .int .i64 k1, .int .i64 k2, .string s, .string nm, .slice A es.length c] 65)).alloc (.cells #[.slice Al ls.length cl] 25)) 65 #[.int .i64 0, .int .i64 0, .int .i64 0, .int .i64 0, .string ⟨#[]⟩, .string ⟨#[]⟩, .slice none 0 0]; simp only [World.size_alloc] at h; exact h)
    have HBX := Lib.hid (show Below w.heap.size w (((w.alloc (.cells #[.int .i64 op, .int .i64 n, .int .i64 k1, .int .i64 k2, .string s, .string nm, .slice A es.length c] 65)).alloc (.cells #[.slice Al ls.length cl] 25)).alloc (.cells #[.int .i64 0, .int .i64 0, .int .i64 0, .int .i64 0, .string ⟨#[]⟩, .string ⟨#[]⟩, .slice none 0 0] 65)) from ((bel_mk w _).trans ((bel_mk _ _).mono (by simp))).trans ((bel_mk _ _).mono (by simp; omega)))
    have hR : sbX ls (d + 1) ⟨op, n, (k1, k2, s), nm, es⟩ = if op = 2 ∧ wfE op n k1 k2 s nm es.length = true ∧ idxB n ls.length = true then ls.getD n.toNat ⟨op, n, (k1, k2, s), nm, es⟩ else ⟨op, n, (k1, k2, s), nm, es.map (sbX ls d)⟩ := rfl
    rw [hR, show d + 1 + dl = d + dl + 1 by omega]
    clear hR
    have HWF := Lib.hid (fun W => pWf_any op n k1 k2 s nm A es.length c W)
    have HIX := Lib.hid (fun W => pIdx_any n ls.length W)
    by_cases h2 : op = 2
    rotate_left
    · rw [if_neg (fun q => h2 q.1)]
      have h2b : (op == 2) = false := by rw [beq_eq_false_iff_ne]; exact h2
      have HC := Lib.hid (withArgs_subst ⟨w.heap.size + 1, 0, none⟩ (sbX ls d) d (d + dl) ⟨op, n, (k1, k2, s), nm, es⟩ (.slice A es.length c) (((w.alloc (.cells #[.int .i64 op, .int .i64 n, .int .i64 k1, .int .i64 k2, .string s, .string nm, .slice A es.length c] 65)).alloc (.cells #[.slice Al ls.length cl] 25)).alloc (.cells #[.int .i64 0, .int .i64 0, .int .i64 0, .int .i64 0, .string ⟨#[]⟩, .string ⟨#[]⟩, .slice none 0 0] 65)) L (h.step HBX.out (Nat.le_refl _)) (fun a ua W hb _ hr => pSubst1_any _ ls (d + dl) d a ua (w.heap.size + 1) W L hr ⟨_, _, _, rfl⟩ ((HNX.out.below hb HNX.out.lt).cell 0) (fun W' hb' => IH a ua W' L L2 (hr.step hb' (Nat.le_refl _)) (hl2.step (HBX.out.trans ((hb.trans (hb'.mono hb.size)).mono HBX.out.size)) (Nat.le_refl _)))))
      have e0 := HEX.out.cell 0
      have e1 := HEX.out.cell 1
      have e2 := HEX.out.cell 2
      have e3 := HEX.out.cell 3
      have e4 := HEX.out.cell 4
      have e5 := HEX.out.cell 5
      have e6 := HEX.out.cell 6
      have HO1 := HOX
      have HB1 := HBX
      clear h IH hl2 HEX HNX HOX HBX
      unfold exV at *
      dsimp only at *
      go_enter Try.func31, Try.ntmps31
      go_wp2_with fail
      with_reducible refine HC.out.mono ?_
      rintro e w3 ⟨u3, rfl, hr3, hb3⟩
      have HO3 := Lib.hid (HO1.out.below hb3 HO1.out.lt)
      have HB3 := Lib.hid (HB1.out.trans (hb3.mono HB1.out.size))
      have HT := Lib.hid (hr3.more (Nat.le_refl _) (show w.heap.size + 3 ≤ _ from HO1.out.lt))
      generalize hrr : (⟨op, n, (k1, k2, s), nm, es.map (sbX ls d)⟩ : Ex) = r at *
      obtain ⟨r0, r1, ⟨r2, r3, r4⟩, r5, r6⟩ := r
      obtain ⟨A4, c4, rfl, hl4⟩ := hr3.slice
      unfold exV
      dsimp only
      have o0 := HO3.out.cell 0
      have o1 := HO3.out.cell 1
      have o2 := HO3.out.cell 2
      have o3 := HO3.out.cell 3
      have o4 := HO3.out.cell 4
      have o5 := HO3.out.cell 5
      have o6 := HO3.out.cell 6
      have m0 := HO3.out.free 0
      have m1 := HO3.out.free 1
      have m2 := HO3.out.free 2
      have m3 := HO3.out.free 3
      have m4 := HO3.out.free 4
      have m5 := HO3.out.free 5
      have m6 := HO3.out.free 6
      have HX := Lib.hid (((((((HO3.out.store 0 (.int .i64 r0)).store 1 (.int .i64 r1)).store 2 (.int .i64 r2)).store 3 (.int .i64 r3)).store 4 (.string r4)).store 5 (.string r5)).store 6 (.slice A4 r6.length c4))
      clear hr3 hb3 hrr
      go_wp2
      (try simp only [Exit.inBlock, Exit.then]); refine bodyPost_ret_by (results_cell_row1 (by rfl) _ _ (w.heap.size + 1 + 1) _ (by rfl) (load_ex HX.out)) ?_ ?_; (focus rfl); refine ⟨_, rfl, ?_, ?_⟩
      · simp only [World.size_setCell]
        refine RdE.more (Nat.le_refl _) (show w.heap.size ≤ w.heap.size + 3 by omega) ?_
        exact (((((((HT.out).far (by show w.heap.size + 1 + 1 < _; omega)).far (by show w.heap.size + 1 + 1 < _; omega)).far (by show w.heap.size + 1 + 1 < _; omega)).far (by show w.heap.size + 1 + 1 < _; omega)).far (by show w.heap.size + 1 + 1 < _; omega)).far (by show w.heap.size + 1 + 1 < _; omega)).far (by show w.heap.size + 1 + 1 < _; omega)
      · exact (((((((HB3.out).setCell (by show w.heap.size ≤ w.heap.size + 1 + 1; omega) _).setCell (by show w.heap.size ≤ w.heap.size + 1 + 1; omega) _).setCell (by show w.heap.size ≤ w.heap.size + 1 + 1; omega) _).setCell (by show w.heap.size ≤ w.heap.size + 1 + 1; omega) _).setCell (by show w.heap.size ≤ w.heap.size + 1 + 1; omega) _).setCell (by show w.heap.size ≤ w.heap.size + 1 + 1; omega) _).setCell (by show w.heap.size ≤ w.heap.size + 1 + 1; omega) _
    subst h2
    cases hw : wfE 2 n k1 k2 s nm es.length
    · rw [if_neg (fun q => by cases q.2.1)]
      have HWT := Lib.hid (show ∀ W, Calls Try.prog 50 #[.agg #[.int .i64 2, .int .i64 n, .int .i64 k1, .int .i64 k2, .string s, .string nm, .slice A es.length c]] W fun e w' => e = .returned (.bool false) ∧ Below W.heap.size W w' from fun W => by have q := HWF.out W; rwa [hw] at q)
      clear hw HWF
      unfold exV
      dsimp only
      go_enter Try.func31, Try.ntmps31
      go_wp2_with fail
      with_reducible refine (HWT.out _).mono ?_
      rintro e w1 ⟨rfl, hb1⟩
      have HEX := Lib.hid (HEX.out.below hb1 HEX.out.lt)
      have HNX := Lib.hid (HNX.out.below hb1 HNX.out.lt)
      have HOX := Lib.hid (HOX.out.below hb1 HOX.out.lt)
      have HBX := Lib.hid (HBX.out.trans (hb1.mono HBX.out.size))
      clear hb1
      have HC := Lib.hid (withArgs_subst ⟨w.heap.size + 1, 0, none⟩ (sbX ls d) d (d + dl) ⟨2, n, (k1, k2, s), nm, es⟩ (.slice A es.length c) w1 L (h.step HBX.out (Nat.le_refl _)) (fun a ua W hb _ hr => pSubst1_any _ ls (d + dl) d a ua (w.heap.size + 1) W L hr ⟨_, _, _, rfl⟩ ((HNX.out.below hb HNX.out.lt).cell 0) (fun W' hb' => IH a ua W' L L2 (hr.step hb' (Nat.le_refl _)) (hl2.step (HBX.out.trans ((hb.trans (hb'.mono hb.size)).mono HBX.out.size)) (Nat.le_refl _)))))
      have e0 := HEX.out.cell 0
      have e1 := HEX.out.cell 1
      have e2 := HEX.out.cell 2
      have e3 := HEX.out.cell 3
      have e4 := HEX.out.cell 4
      have e5 := HEX.out.cell 5
      have e6 := HEX.out.cell 6
      have HO1 := HOX
      have HB1 := HBX
      clear h IH hl2 HEX HNX HOX HBX
      unfold exV at *
      dsimp only at *
      go_wp2_with fail
      with_reducible refine HC.out.mono ?_
      rintro e w3 ⟨u3, rfl, hr3, hb3⟩
      have HO3 := Lib.hid (HO1.out.below hb3 HO1.out.lt)
      have HB3 := Lib.hid (HB1.out.trans (hb3.mono HB1.out.size))
      have HT := Lib.hid (hr3.more (Nat.le_refl _) (show w.heap.size + 3 ≤ _ from HO1.out.lt))
      generalize hrr : (⟨2, n, (k1, k2, s), nm, es.map (sbX ls d)⟩ : Ex) = r at *
      obtain ⟨r0, r1, ⟨r2, r3, r4⟩, r5, r6⟩ := r
      obtain ⟨A4, c4, rfl, hl4⟩ := hr3.slice
      unfold exV
      dsimp only
      have o0 := HO3.out.cell 0
      have o1 := HO3.out.cell 1
      have o2 := HO3.out.cell 2
      have o3 := HO3.out.cell 3
      have o4 := HO3.out.cell 4
      have o5 := HO3.out.cell 5
      have o6 := HO3.out.cell 6
      have m0 := HO3.out.free 0
      have m1 := HO3.out.free 1
      have m2 := HO3.out.free 2
      have m3 := HO3.out.free 3
      have m4 := HO3.out.free 4
      have m5 := HO3.out.free 5
      have m6 := HO3.out.free 6
      have HX := Lib.hid (((((((HO3.out.store 0 (.int .i64 r0)).store 1 (.int .i64 r1)).store 2 (.int .i64 r2)).store 3 (.int .i64 r3)).store 4 (.string r4)).store 5 (.string r5)).store 6 (.slice A4 r6.length c4))
      clear hr3 hb3 hrr
      go_wp2
      (try simp only [Exit.inBlock, Exit.then]); refine bodyPost_ret_by (results_cell_row1 (by rfl) _ _ (w.heap.size + 1 + 1) _ (by rfl) (load_ex HX.out)) ?_ ?_; (focus rfl); refine ⟨_, rfl, ?_, ?_⟩
      · simp only [World.size_setCell]
        refine RdE.more (Nat.le_refl _) (show w.heap.size ≤ w.heap.size + 3 by omega) ?_
        exact (((((((HT.out).far (by show w.heap.size + 1 + 1 < _; omega)).far (by show w.heap.size + 1 + 1 < _; omega)).far (by show w.heap.size + 1 + 1 < _; omega)).far (by show w.heap.size + 1 + 1 < _; omega)).far (by show w.heap.size + 1 + 1 < _; omega)).far (by show w.heap.size + 1 + 1 < _; omega)).far (by show w.heap.size + 1 + 1 < _; omega)
      · exact (((((((HB3.out).setCell (by show w.heap.size ≤ w.heap.size + 1 + 1; omega) _).setCell (by show w.heap.size ≤ w.heap.size + 1 + 1; omega) _).setCell (by show w.heap.size ≤ w.heap.size + 1 + 1; omega) _).setCell (by show w.heap.size ≤ w.heap.size + 1 + 1; omega) _).setCell (by show w.heap.size ≤ w.heap.size + 1 + 1; omega) _).setCell (by show w.heap.size ≤ w.heap.size + 1 + 1; omega) _).setCell (by show w.heap.size ≤ w.heap.size + 1 + 1; omega) _
    have HWT := Lib.hid (show ∀ W, Calls Try.prog 50 #[.agg #[.int .i64 2, .int .i64 n, .int .i64 k1, .int .i64 k2, .string s, .string nm, .slice A es.length c]] W fun e w' => e = .returned (.bool true) ∧ Below W.heap.size W w' from fun W => by have q := HWF.out W; rwa [hw] at q)
    clear hw HWF
    cases hx : idxB n ls.length
    · rw [if_neg (fun q => by cases q.2.2)]
      have HXT := Lib.hid (show ∀ W, Calls Try.prog 51 #[.int .i64 n, .int .i64 (ls.length : Nat)] W fun e w' => e = .returned (.bool false) ∧ Below W.heap.size W w' from fun W => by have q := HIX.out W; rwa [hx] at q)
      clear hx HIX
      unfold exV
      dsimp only
      go_enter Try.func31, Try.ntmps31
      go_wp2_with fail
      with_reducible refine (HWT.out _).mono ?_
      rintro e w1 ⟨rfl, hb1⟩
      have HEX := Lib.hid (HEX.out.below hb1 HEX.out.lt)
      have HNX := Lib.hid (HNX.out.below hb1 HNX.out.lt)
      have HOX := Lib.hid (HOX.out.below hb1 HOX.out.lt)
      have HBX := Lib.hid (HBX.out.trans (hb1.mono HBX.out.size))
      have q1 := HEX.out.cell 1
      have q2 := HNX.out.cell 0
      clear hb1
      go_wp2_with fail
      with_reducible refine (HXT.out _).mono ?_
      rintro e w2 ⟨rfl, hb1⟩
      have HEX := Lib.hid (HEX.out.below hb1 HEX.out.lt)
      have HNX := Lib.hid (HNX.out.below hb1 HNX.out.lt)
      have HOX := Lib.hid (HOX.out.below hb1 HOX.out.lt)
      have HBX := Lib.hid (HBX.out.trans (hb1.mono HBX.out.size))
      clear hb1 q1 q2
      have HC := Lib.hid (withArgs_subst ⟨w.heap.size + 1, 0, none⟩ (sbX ls d) d (d + dl) ⟨2, n, (k1, k2, s), nm, es⟩ (.slice A es.length c) w2 L (h.step HBX.out (Nat.le_refl _)) (fun a ua W hb _ hr => pSubst1_any _ ls (d + dl) d a ua (w.heap.size + 1) W L hr ⟨_, _, _, rfl⟩ ((HNX.out.below hb HNX.out.lt).cell 0) (fun W' hb' => IH a ua W' L L2 (hr.step hb' (Nat.le_refl _)) (hl2.step (HBX.out.trans ((hb.trans (hb'.mono hb.size)).mono HBX.out.size)) (Nat.le_refl _)))))
      have e0 := HEX.out.cell 0
      have e1 := HEX.out.cell 1
      have e2 := HEX.out.cell 2
      have e3 := HEX.out.cell 3
      have e4 := HEX.out.cell 4
      have e5 := HEX.out.cell 5
      have e6 := HEX.out.cell 6
      have HO1 := HOX
      have HB1 := HBX
      clear h IH hl2 HEX HNX HOX HBX
      unfold exV at *
      dsimp only at *
      go_wp2_with fail
      with_reducible refine HC.out.mono ?_
      rintro e w3 ⟨u3, rfl, hr3, hb3⟩
      have HO3 := Lib.hid (HO1.out.below hb3 HO1.out.lt)
      have HB3 := Lib.hid (HB1.out.trans (hb3.mono HB1.out.size))
      have HT := Lib.hid (hr3.more (Nat.le_refl _) (show w.heap.size + 3 ≤ _ from HO1.out.lt))
      generalize hrr : (⟨2, n, (k1, k2, s), nm, es.map (sbX ls d)⟩ : Ex) = r at *
      obtain ⟨r0, r1, ⟨r2, r3, r4⟩, r5, r6⟩ := r
      obtain ⟨A4, c4, rfl, hl4⟩ := hr3.slice
      unfold exV
      dsimp only
      have o0 := HO3.out.cell 0
      have o1 := HO3.out.cell 1
      have o2 := HO3.out.cell 2
      have o3 := HO3.out.cell 3
      have o4 := HO3.out.cell 4
      have o5 := HO3.out.cell 5
      have o6 := HO3.out.cell 6
      have m0 := HO3.out.free 0
      have m1 := HO3.out.free 1
      have m2 := HO3.out.free 2
      have m3 := HO3.out.free 3
      have m4 := HO3.out.free 4
      have m5 := HO3.out.free 5
      have m6 := HO3.out.free 6
      have HX := Lib.hid (((((((HO3.out.store 0 (.int .i64 r0)).store 1 (.int .i64 r1)).store 2 (.int .i64 r2)).store 3 (.int .i64 r3)).store 4 (.string r4)).store 5 (.string r5)).store 6 (.slice A4 r6.length c4))
      clear hr3 hb3 hrr
      go_wp2
      (try simp only [Exit.inBlock, Exit.then]); refine bodyPost_ret_by (results_cell_row1 (by rfl) _ _ (w.heap.size + 1 + 1) _ (by rfl) (load_ex HX.out)) ?_ ?_; (focus rfl); refine ⟨_, rfl, ?_, ?_⟩
      · simp only [World.size_setCell]
        refine RdE.more (Nat.le_refl _) (show w.heap.size ≤ w.heap.size + 3 by omega) ?_
        exact (((((((HT.out).far (by show w.heap.size + 1 + 1 < _; omega)).far (by show w.heap.size + 1 + 1 < _; omega)).far (by show w.heap.size + 1 + 1 < _; omega)).far (by show w.heap.size + 1 + 1 < _; omega)).far (by show w.heap.size + 1 + 1 < _; omega)).far (by show w.heap.size + 1 + 1 < _; omega)).far (by show w.heap.size + 1 + 1 < _; omega)
      · exact (((((((HB3.out).setCell (by show w.heap.size ≤ w.heap.size + 1 + 1; omega) _).setCell (by show w.heap.size ≤ w.heap.size + 1 + 1; omega) _).setCell (by show w.heap.size ≤ w.heap.size + 1 + 1; omega) _).setCell (by show w.heap.size ≤ w.heap.size + 1 + 1; omega) _).setCell (by show w.heap.size ≤ w.heap.size + 1 + 1; omega) _).setCell (by show w.heap.size ≤ w.heap.size + 1 + 1; omega) _).setCell (by show w.heap.size ≤ w.heap.size + 1 + 1; omega) _
    · obtain ⟨hn0, hn1⟩ : 0 ≤ n ∧ n < ls.length := by unfold idxB at hx; simpa using hx
      have HXT := Lib.hid (show ∀ W, Calls Try.prog 51 #[.int .i64 n, .int .i64 (ls.length : Nat)] W fun e w' => e = .returned (.bool true) ∧ Below W.heap.size W w' from fun W => by have q := HIX.out W; rwa [hx] at q)
      rw [if_pos ⟨rfl, rfl, rfl⟩]
      clear hx HIX
      obtain ⟨j, rfl⟩ := Int.eq_ofNat_of_zero_le hn0
      have hj : j < ls.length := by omega
      rw [Int.toNat_natCast, show ls.getD j ⟨2, (j : Int), (k1, k2, s), nm, es⟩ = ls[j] by simp [List.getD, List.getElem?_eq_getElem hj]]
      obtain ⟨ad, x, rfl, _, hab, hxc, hxr⟩ := HCL.out j _ (List.getElem?_eq_getElem hj)
      obtain ⟨A3, c3, rfl, hl3⟩ := hxr.slice
      generalize ls[j] = y at *
      have HXC := Lib.hid hxc
      have HXR := Lib.hid hxr
      clear h IH hl2 HCL hxc hxr
      unfold exV
      dsimp only
      go_enter Try.func31, Try.ntmps31
      go_wp2_with fail
      with_reducible refine (HWT.out _).mono ?_
      rintro e w1 ⟨rfl, hb1⟩
      have HEX := Lib.hid (HEX.out.below hb1 HEX.out.lt)
      have HNX := Lib.hid (HNX.out.below hb1 HNX.out.lt)
      have HOX := Lib.hid (HOX.out.below hb1 HOX.out.lt)
      have HBX := Lib.hid (HBX.out.trans (hb1.mono HBX.out.size))
      have q1 := HEX.out.cell 1
      have q2 := HNX.out.cell 0
      clear hb1
      go_wp2_with fail
      with_reducible refine (HXT.out _).mono ?_
      rintro e w2 ⟨rfl, hb1⟩
      have HEX := Lib.hid (HEX.out.below hb1 HEX.out.lt)
      have HNX := Lib.hid (HNX.out.below hb1 HNX.out.lt)
      have HO1 := Lib.hid (HOX.out.below hb1 HOX.out.lt)
      have HB1 := Lib.hid (HBX.out.trans (hb1.mono HBX.out.size))
      clear q1 q2 hb1
      have q1 := HEX.out.cell 1
      have q2 := HNX.out.cell 0
      obtain ⟨x0, x1, x2, x3, x4, x5, x6⟩ := HXC.out.below HB1.out (by rw [add_blk]; exact hab)
      have HC := Lib.hid (pClone_any dl y (.slice A3 y.args.length c3) w2 L2 (HXR.out.step HB1.out (Nat.le_refl _)))
      unfold exV at HC
      clear HXC HXR HWT HXT HEX HNX HOX HBX
      go_wp2_with fail
      with_reducible refine HC.out.mono ?_
      rintro e w3 ⟨u3, rfl, hr3, hb3⟩
      have hr3 := hr3.up (show dl ≤ d + dl + 1 by omega)
      have HO3 := Lib.hid (HO1.out.below hb3 HO1.out.lt)
      have HB3 := Lib.hid (HB1.out.trans (hb3.mono HB1.out.size))
      have HT := Lib.hid (hr3.more (Nat.le_refl _) (show w.heap.size + 3 ≤ _ from HO1.out.lt))
      generalize hrr : y = r at *
      obtain ⟨r0, r1, ⟨r2, r3, r4⟩, r5, r6⟩ := r
      obtain ⟨A4, c4, rfl, hl4⟩ := hr3.slice
      unfold exV
      dsimp only
      have o0 := HO3.out.cell 0
      have o1 := HO3.out.cell 1
      have o2 := HO3.out.cell 2
      have o3 := HO3.out.cell 3
      have o4 := HO3.out.cell 4
      have o5 := HO3.out.cell 5
      have o6 := HO3.out.cell 6
      have m0 := HO3.out.free 0
      have m1 := HO3.out.free 1
      have m2 := HO3.out.free 2
      have m3 := HO3.out.free 3
      have m4 := HO3.out.free 4
      have m5 := HO3.out.free 5
      have m6 := HO3.out.free 6
      have HX := Lib.hid (((((((HO3.out.store 0 (.int .i64 r0)).store 1 (.int .i64 r1)).store 2 (.int .i64 r2)).store 3 (.int .i64 r3)).store 4 (.string r4)).store 5 (.string r5)).store 6 (.slice A4 r6.length c4))
      clear hr3 hb3 hrr
      go_wp2
      (try simp only [Exit.inBlock, Exit.then]); refine bodyPost_ret_by (results_cell_row1 (by rfl) _ _ (w.heap.size + 1 + 1) _ (by rfl) (load_ex HX.out)) ?_ ?_; (focus rfl); refine ⟨_, rfl, ?_, ?_⟩
      · simp only [World.size_setCell]
        refine RdE.more (Nat.le_refl _) (show w.heap.size ≤ w.heap.size + 3 by omega) ?_
        exact (((((((HT.out).far (by show w.heap.size + 1 + 1 < _; omega)).far (by show w.heap.size + 1 + 1 < _; omega)).far (by show w.heap.size + 1 + 1 < _; omega)).far (by show w.heap.size + 1 + 1 < _; omega)).far (by show w.heap.size + 1 + 1 < _; omega)).far (by show w.heap.size + 1 + 1 < _; omega)).far (by show w.heap.size + 1 + 1 < _; omega)
      · exact (((((((HB3.out).setCell (by show w.heap.size ≤ w.heap.size + 1 + 1; omega) _).setCell (by show w.heap.size ≤ w.heap.size + 1 + 1; omega) _).setCell (by show w.heap.size ≤ w.heap.size + 1 + 1; omega) _).setCell (by show w.heap.size ≤ w.heap.size + 1 + 1; omega) _).setCell (by show w.heap.size ≤ w.heap.size + 1 + 1; omega) _).setCell (by show w.heap.size ≤ w.heap.size + 1 + 1; omega) _).setCell (by show w.heap.size ≤ w.heap.size + 1 + 1; omega) _
end Go.Proofs.Yteihjneeiojgaaa
