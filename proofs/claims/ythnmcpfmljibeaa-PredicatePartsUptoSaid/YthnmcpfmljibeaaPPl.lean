import Derived.Test.YthnmcpfmljibeaaUA
import Derived.WalkKit
import Derived.WalkSpells
import Derived.WalkLawsBesides
import Derived.Deep.QuietTactic
import Derived.BigQuiet
import Derived.Handy
import Derived.Lib.Hide
import Derived.Test.YthnmcpfmljibeaaPB
import Derived.Test.YthnmcpfmljibeaaPV
import Derived.Test.YthnmcpfmljibeaaQEE
import Derived.Test.YthnmcpfmljibeaaPC
import Derived.Test.YthnmcpfmljibeaaPRh
import Derived.Test.YthnmcpfmljibeaaPAw
/-
  The reference's List over two readings of the same trees. Conditions: lengths, a bounded depth.
-/
namespace Go.Proofs.Ythnmcpfmljibeaa
set_option maxRecDepth 100000
set_option linter.unusedVariables false
set_option linter.unusedSimpArgs false
open Go.RowKit

theorem sameL_selfP (f : Ex → Ex → Bool) : ∀ l : List Ex, (∀ a ∈ l, f a a = true) → sameL f l l = true
  | [], _ => rfl
  | a :: l, h => by
    unfold sameL
    rw [h a (List.mem_cons_self ..), sameL_selfP f l fun b hb => h b (List.mem_cons_of_mem _ hb)]
    rfl
theorem sameE_selfP : ∀ (d : Nat) (a : Ex), sameE d a a = true
  | 0, _ => rfl
  | d + 1, a => by
    unfold sameE
    rw [sameL_selfP (sameE d) a.args fun b _ => sameE_selfP d b]
    unfold sameF Va.eqV
    simp
set_option maxRecDepth 100000 in
set_option maxHeartbeats 6400000 in
theorem rList_self (d : Nat) (es : List Ex) (u v : Value) (w : World) (L L2 : Nat) (hu : RdE w L w.heap.size (d + 1) u es) (hv : RdE w L2 w.heap.size (d + 1) v es) :
    Calls Try.prog 6 #[u, v] w fun e' w' => e' = .returned (.bool true) ∧ Below w.heap.size w w' := by
  obtain ⟨A, c, rfl, hl, hc⟩ := hu
  obtain ⟨A2, c2, rfl, _, hc2⟩ := hv
  have HC := Lib.hid hc
  have HC2 := Lib.hid hc2
  have hnn : ((es.length : Int) != es.length) = false := by simp
  clear hc hc2
  go_enter Try.func6, Try.ntmps6
  go_wp2_with fail
  go_loopw [5] (fun i wr => ∃ k : Nat, k ≤ es.length ∧ i = .int .i64 k ∧ Below w.heap.size w wr) (fun i _ => es.length - (intOf i).toNat)
  case atStart => exact ⟨0, Nat.zero_le _, rfl, Below.refl _ _⟩
  case round =>
    obtain ⟨k, hk, rfl, hbr⟩ := hrel
    have hbz := hbr.size
    by_cases hlt : k < es.length
    · have hki : (k : Int) < es.length := by omega
      have hkl : (k : Int) + 1 ≤ 1099511627776 := by omega
      obtain ⟨ad, x, rfl, _, hab, hxc, hxr⟩ := HC.out k _ (List.getElem?_eq_getElem hlt)
      obtain ⟨ad2, x2, rfl, _, hab2, hxc2, hxr2⟩ := HC2.out k _ (List.getElem?_eq_getElem hlt)
      generalize es[k] = y at *
      obtain ⟨A3, c3, rfl, hl3⟩ := hxr.slice
      obtain ⟨A4, c4, rfl, hl4⟩ := hxr2.slice
      obtain ⟨f0, f1, f2, f3, f4, f5, f6⟩ := exc_after (hxc.below hbr (by rw [add_blk]; exact hab)) (by rw [add_blk]; omega)
      obtain ⟨g0, g1, g2, g3, g4, g5, g6⟩ := exc_after (hxc2.below hbr (by rw [add_blk]; exact hab2)) (by rw [add_blk]; omega)
      have R1 := (hxr.below hbr).more hbz (Nat.le_refl _)
      have R2 := (hxr2.below hbr).more hbz (Nat.le_refl _)
      have H := Lib.hid (fun r : After wr => rSame_any d y y A3 A4 c3 c4 r.w L L2 (R1.step r.h (Nat.le_refl _)) (R2.step r.h (Nat.le_refl _)))
      rw [sameE_selfP] at H
      unfold exV at H
      clear R1 R2 hxc hxr hxc2 hxr2
      go_wp2
      (refine wp_region_after (by kernel_rfl) (by kernel_rfl) ?_; (repeat (go_big_quiet_step ((go_at_call 9; exact calls_after (H.out _))))); refine wpQuiet_nil ?_; intro wq hw0; obtain ⟨⟨wq0, hbq⟩, hw1⟩ := hw0; subst hw1; (try dsimp only))
      go_wp2
      go_roundw
      case rel => exact ⟨k + 1, by omega, by go_num, hbr.trans (hbq.mono hbz)⟩
      case measure => simp [intOf]; omega
    · have hki : ¬ (k : Int) < es.length := by omega
      go_wp2
      go_ret
      exact ⟨rfl, hbr⟩
end Go.Proofs.Ythnmcpfmljibeaa
/-
  All, of the program and of the reference. Conditions: lengths, a bounded depth.
-/
namespace Go.Proofs.Ythnmcpfmljibeaa
set_option maxRecDepth 100000
set_option linter.unusedVariables false
set_option linter.unusedSimpArgs false
open Go.RowKit

/-- The conjunction of expressions. -/
def allX : List Ex → Ex
  | [] => ⟨1, 0, (3, 1, ⟨#[]⟩), ⟨#[]⟩, []⟩
  | [a] => a
  | a :: b :: t => ⟨5, 0, (0, 0, ⟨#[]⟩), ⟨#[]⟩, a :: b :: t⟩
theorem allX_many {ls : List Ex} (h0 : ls.length ≠ 0) (h1 : ls.length ≠ 1) : allX ls = ⟨5, 0, (0, 0, ⟨#[]⟩), ⟨#[]⟩, ls⟩ := by
  match ls, h0, h1 with
  | [], h, _ => exact absurd rfl h
  | [a], _, h => exact absurd rfl h
  | a :: b :: t, _, _ => rfl
def zAgg : Array Value := #[.int .i64 0, .int .i64 0, .int .i64 0, .int .i64 0, .string ⟨#[]⟩, .string ⟨#[]⟩, .slice none 0 0]
/-- The result's box after a store of an expression. -/
theorem ret_ex {w W w' : World} {D : Nat} {e : Ex} {A : Option Addr} {c : Nat} (HO : Own W w.heap.size 26 zAgg) (HB : Below w.heap.size w W) (HT : RdE W (w.heap.size + 1) W.heap.size D (.slice A e.args.length c) e.args)
    (hw' : w' = ((((((W.setCell ⟨w.heap.size, 0, none⟩ (.int .i64 e.op)).setCell ⟨w.heap.size, 1, none⟩ (.int .i64 e.n)).setCell ⟨w.heap.size, 2, none⟩ (.int .i64 e.v.1)).setCell ⟨w.heap.size, 3, none⟩ (.int .i64 e.v.2.1)).setCell ⟨w.heap.size, 4, none⟩ (.string e.v.2.2)).setCell ⟨w.heap.size, 5, none⟩ (.string e.nm)).setCell ⟨w.heap.size, 6, none⟩ (.slice A e.args.length c)) :
    Own w' w.heap.size 26 #[.int .i64 e.op, .int .i64 e.n, .int .i64 e.v.1, .int .i64 e.v.2.1, .string e.v.2.2, .string e.nm, .slice A e.args.length c] ∧ RdE w' w.heap.size w'.heap.size D (.slice A e.args.length c) e.args ∧ Below w.heap.size w w' := by
  subst hw'
  refine ⟨?_, ?_, ?_⟩
  · exact ((((((HO.store 0 (.int .i64 e.op)).store 1 (.int .i64 e.n)).store 2 (.int .i64 e.v.1)).store 3 (.int .i64 e.v.2.1)).store 4 (.string e.v.2.2)).store 5 (.string e.nm)).store 6 (.slice A e.args.length c)
  · simp only [World.size_setCell]
    refine RdE.more (Nat.le_refl _) (show w.heap.size ≤ w.heap.size + 1 by omega) ?_
    exact ((((((HT.far (by show w.heap.size < _; omega)).far (by show w.heap.size < _; omega)).far (by show w.heap.size < _; omega)).far (by show w.heap.size < _; omega)).far (by show w.heap.size < _; omega)).far (by show w.heap.size < _; omega)).far (by show w.heap.size < _; omega)
  · exact ((((((HB.setCell (Nat.le_refl _) _).setCell (Nat.le_refl _) _).setCell (Nat.le_refl _) _).setCell (Nat.le_refl _) _).setCell (Nat.le_refl _) _).setCell (Nat.le_refl _) _).setCell (Nat.le_refl _) _
set_option maxRecDepth 100000 in
set_option maxHeartbeats 6400000 in
theorem pAllX_any (d : Nat) (ls : List Ex) (v : Value) (w : World) (L : Nat) (h : RdE w L w.heap.size (d + 1) v ls) : Calls Try.prog 10 #[v] w (RetX w (d + 2) (allX ls)) := by
  have h' := h
  obtain ⟨A, c, rfl, hl, hc⟩ := h
  have b0 := bel_mk w (.cells zAgg 26)
  have HB0 := Lib.hid b0
  have HO0 := Lib.hid (Own.new w 26 zAgg)
  by_cases h0 : ls.length = 0
  · obtain rfl := List.eq_nil_of_length_eq_zero h0
    have HT := Lib.hid (show ∀ W, Calls Try.prog 28 #[.bool true] W fun e w' => e = .returned (.agg #[.int .i64 3, .int .i64 1, .string ⟨#[]⟩]) ∧ Below W.heap.size W w' from fun W => eBool true W)
    have HK := Lib.hid (fun W => pCons_any (3, 1, ⟨#[]⟩) W)
    have HX := Lib.hid (show ∀ W W', _ → _ → _ → _ from fun W W' HO HB hw => ret_ex (w := w) (W := W) (w' := W') (D := d + 2) (e := ⟨1, 0, (3, 1, ⟨#[]⟩), ⟨#[]⟩, []⟩) (A := none) (c := 0) HO HB (rdE_nil W _ _ _ (by omega)) hw)
    show Calls _ _ _ _ (RetX w (d + 2) ⟨1, 0, (3, 1, ⟨#[]⟩), ⟨#[]⟩, []⟩)
    unfold valV at HK
    unfold exV zAgg at *
    dsimp only at *
    clear b0 hc h'
    go_enter Try.func10, Try.ntmps10
    go_wp2_with fail
    with_reducible refine (HT.out _).mono ?_
    rintro e1 w1 ⟨rfl, hb1⟩
    replace HB0 := Lib.hid (HB0.out.trans (hb1.mono HB0.out.size))
    replace HO0 := Lib.hid (HO0.out.below hb1 HO0.out.lt)
    clear hb1
    go_wp2_with fail
    with_reducible refine (HK.out _).mono ?_
    rintro e2 w2 ⟨rfl, hb2⟩
    replace HB0 := Lib.hid (HB0.out.trans (hb2.mono HB0.out.size))
    replace HO0 := Lib.hid (HO0.out.below hb2 HO0.out.lt)
    clear hb2
    have o0 := HO0.out.cell 0
    have o1 := HO0.out.cell 1
    have o2 := HO0.out.cell 2
    have o3 := HO0.out.cell 3
    have o4 := HO0.out.cell 4
    have o5 := HO0.out.cell 5
    have o6 := HO0.out.cell 6
    have m0 := HO0.out.free 0
    have m1 := HO0.out.free 1
    have m2 := HO0.out.free 2
    have m3 := HO0.out.free 3
    have m4 := HO0.out.free 4
    have m5 := HO0.out.free 5
    have m6 := HO0.out.free 6
    have hret := HX.out w2 _ HO0.out HB0.out rfl
    go_wp2
    (try simp only [Exit.inBlock, Exit.then]); refine bodyPost_ret_by (results_cell_row1 (by rfl) _ _ w.heap.size _ (by rfl) (load_ex hret.1)) ?_ ?_; (focus rfl)
    exact ⟨_, rfl, hret.2.1, hret.2.2⟩
  · by_cases h1 : ls.length = 1
    · match ls, h1, hc with
      | [a], _, hc =>
        obtain ⟨ad, x, rfl, _, hab, hxc, hxr⟩ := hc 0 a rfl
        obtain ⟨A3, c3, rfl, hl3⟩ := hxr.slice
        rw [show (0 : Nat) * 7 = 0 from rfl, show ad.add 0 = ad by unfold Addr.add; simp] at hxc
        obtain ⟨x0, x1, x2, x3, x4, x5, x6⟩ := hxc.below b0 hab
        have HCL := Lib.hid (show Calls Try.prog 25 #[exV a (.slice A3 a.args.length c3)] (w.alloc (.cells zAgg 26)) (fun e' w' => ∃ A4 c4, e' = .returned (exV a (.slice A4 a.args.length c4)) ∧ RdE w' (w.heap.size + 1) w'.heap.size (d + 1) (.slice A4 a.args.length c4) a.args ∧ Below (w.alloc (.cells zAgg 26)).heap.size (w.alloc (.cells zAgg 26)) w') from (pClo_any d a (.slice A3 a.args.length c3) _ L (hxr.step b0 (Nat.le_refl _))).mono fun e' w' h => by
          obtain ⟨u4, h1, h2, h3⟩ := h
          obtain ⟨A4, c4, rfl, _⟩ := h2.slice
          simp only [World.size_alloc] at h2
          exact ⟨A4, c4, h1, h2, h3⟩)
        show Calls _ _ _ _ (RetX w (d + 2) a)
        have HX := Lib.hid (show ∀ W W' A4 c4, _ → _ → _ → _ → _ from fun W W' A4 c4 HO HB HT hw => ret_ex (w := w) (W := W) (w' := W') (D := d + 1) (e := a) (A := A4) (c := c4) HO HB HT hw)
        unfold exV zAgg at *
        clear b0 hxc hxr hc h'
        go_enter Try.func10, Try.ntmps10
        go_wp2_with fail
        with_reducible refine HCL.out.mono ?_
        rintro e1 w2 ⟨A4, c4, rfl, hr4, hb2⟩
        replace HB0 := Lib.hid (HB0.out.trans (hb2.mono HB0.out.size))
        replace HO0 := Lib.hid (HO0.out.below hb2 HO0.out.lt)
        clear hb2 x0 x1 x2 x3 x4 x5 x6
        have o0 := HO0.out.cell 0
        have o1 := HO0.out.cell 1
        have o2 := HO0.out.cell 2
        have o3 := HO0.out.cell 3
        have o4 := HO0.out.cell 4
        have o5 := HO0.out.cell 5
        have o6 := HO0.out.cell 6
        have m0 := HO0.out.free 0
        have m1 := HO0.out.free 1
        have m2 := HO0.out.free 2
        have m3 := HO0.out.free 3
        have m4 := HO0.out.free 4
        have m5 := HO0.out.free 5
        have m6 := HO0.out.free 6
        have hret := HX.out w2 _ A4 c4 HO0.out HB0.out hr4 rfl
        go_wp2
        (try simp only [Exit.inBlock, Exit.then]); refine bodyPost_ret_by (results_cell_row1 (by rfl) _ _ w.heap.size _ (by rfl) (load_ex hret.1)) ?_ ?_; (focus rfl)
        exact ⟨_, rfl, hret.2.1.up (by omega), hret.2.2⟩
    · rw [allX_many h0 h1]
      have HCL := Lib.hid (show Calls Try.prog 25 #[.agg #[.int .i64 5, .int .i64 0, .int .i64 0, .int .i64 0, .string ⟨#[]⟩, .string ⟨#[]⟩, .slice A ls.length c]] (w.alloc (.cells zAgg 26)) (fun e' w' => ∃ A4 c4, e' = .returned (.agg #[.int .i64 5, .int .i64 0, .int .i64 0, .int .i64 0, .string ⟨#[]⟩, .string ⟨#[]⟩, .slice A4 ls.length c4]) ∧ RdE w' (w.heap.size + 1) w'.heap.size (d + 2) (.slice A4 ls.length c4) ls ∧ Below (w.alloc (.cells zAgg 26)).heap.size (w.alloc (.cells zAgg 26)) w') from (pClo_any (d + 1) ⟨5, 0, (0, 0, ⟨#[]⟩), ⟨#[]⟩, ls⟩ (.slice A ls.length c) _ L (h'.step b0 (Nat.le_refl _))).mono fun e' w' h => by
        obtain ⟨u4, h1, h2, h3⟩ := h
        obtain ⟨A4, c4, rfl, _⟩ := h2.slice
        simp only [World.size_alloc] at h2
        exact ⟨A4, c4, h1, h2, h3⟩)
      have HX := Lib.hid (show ∀ W W' A4 c4, _ → _ → _ → _ → _ from fun W W' A4 c4 HO HB HT hw => ret_ex (w := w) (W := W) (w' := W') (D := d + 2) (e := ⟨5, 0, (0, 0, ⟨#[]⟩), ⟨#[]⟩, ls⟩) (A := A4) (c := c4) HO HB HT hw)
      have h0b : ((ls.length : Int) == 0) = false := by rw [beq_eq_false_iff_ne]; omega
      have h1b : ((ls.length : Int) == 1) = false := by rw [beq_eq_false_iff_ne]; omega
      unfold exV zAgg at *
      dsimp only at HX
      clear b0 hc h' h0 h1
      go_enter Try.func10, Try.ntmps10
      go_wp2_with fail
      with_reducible refine HCL.out.mono ?_
      rintro e1 w2 ⟨A4, c4, rfl, hr4, hb2⟩
      replace HB0 := Lib.hid (HB0.out.trans (hb2.mono HB0.out.size))
      replace HO0 := Lib.hid (HO0.out.below hb2 HO0.out.lt)
      clear hb2
      have o0 := HO0.out.cell 0
      have o1 := HO0.out.cell 1
      have o2 := HO0.out.cell 2
      have o3 := HO0.out.cell 3
      have o4 := HO0.out.cell 4
      have o5 := HO0.out.cell 5
      have o6 := HO0.out.cell 6
      have m0 := HO0.out.free 0
      have m1 := HO0.out.free 1
      have m2 := HO0.out.free 2
      have m3 := HO0.out.free 3
      have m4 := HO0.out.free 4
      have m5 := HO0.out.free 5
      have m6 := HO0.out.free 6
      have hret := HX.out w2 _ A4 c4 HO0.out HB0.out hr4 rfl
      go_wp2
      (try simp only [Exit.inBlock, Exit.then]); refine bodyPost_ret_by (results_cell_row1 (by rfl) _ _ w.heap.size _ (by rfl) (load_ex hret.1)) ?_ ?_; (focus rfl)
      exact ⟨_, rfl, hret.2.1, hret.2.2⟩
/-- What the reference's All answers reads as the conjunction. -/
def RetA (w : World) (d : Nat) (r : Ex) (e : Ending) (w' : World) : Prop := ∃ u, e = .returned (exV r u) ∧ RdE w' 0 w'.heap.size d u r.args ∧ Below w.heap.size w w'
theorem ret_exA {w W w' : World} {e : Ex} {A : Option Addr} {c D : Nat} (HO : Own W w.heap.size 26 zAgg) (HB : Below w.heap.size w W) (HT : RdE w 0 w.heap.size D (.slice A e.args.length c) e.args)
    (hw' : w' = ((((((W.setCell ⟨w.heap.size, 0, none⟩ (.int .i64 e.op)).setCell ⟨w.heap.size, 1, none⟩ (.int .i64 e.n)).setCell ⟨w.heap.size, 2, none⟩ (.int .i64 e.v.1)).setCell ⟨w.heap.size, 3, none⟩ (.int .i64 e.v.2.1)).setCell ⟨w.heap.size, 4, none⟩ (.string e.v.2.2)).setCell ⟨w.heap.size, 5, none⟩ (.string e.nm)).setCell ⟨w.heap.size, 6, none⟩ (.slice A e.args.length c)) :
    Own w' w.heap.size 26 #[.int .i64 e.op, .int .i64 e.n, .int .i64 e.v.1, .int .i64 e.v.2.1, .string e.v.2.2, .string e.nm, .slice A e.args.length c] ∧ RdE w' 0 w'.heap.size D (.slice A e.args.length c) e.args ∧ Below w.heap.size w w' := by
  subst hw'
  have hb : Below w.heap.size w (((((((W.setCell ⟨w.heap.size, 0, none⟩ (.int .i64 e.op)).setCell ⟨w.heap.size, 1, none⟩ (.int .i64 e.n)).setCell ⟨w.heap.size, 2, none⟩ (.int .i64 e.v.1)).setCell ⟨w.heap.size, 3, none⟩ (.int .i64 e.v.2.1)).setCell ⟨w.heap.size, 4, none⟩ (.string e.v.2.2)).setCell ⟨w.heap.size, 5, none⟩ (.string e.nm)).setCell ⟨w.heap.size, 6, none⟩ (.slice A e.args.length c)) := ((((((HB.setCell (Nat.le_refl _) _).setCell (Nat.le_refl _) _).setCell (Nat.le_refl _) _).setCell (Nat.le_refl _) _).setCell (Nat.le_refl _) _).setCell (Nat.le_refl _) _).setCell (Nat.le_refl _) _
  exact ⟨((((((HO.store 0 (.int .i64 e.op)).store 1 (.int .i64 e.n)).store 2 (.int .i64 e.v.1)).store 3 (.int .i64 e.v.2.1)).store 4 (.string e.v.2.2)).store 5 (.string e.nm)).store 6 (.slice A e.args.length c), HT.step hb (Nat.le_refl _), hb⟩
set_option maxRecDepth 100000 in
set_option maxHeartbeats 6400000 in
theorem rAllX_any (d : Nat) (ls : List Ex) (v : Value) (w : World) (h : RdE w 0 w.heap.size (d + 1) v ls) : Calls Try.prog 11 #[v] w (RetA w (d + 2) (allX ls)) := by
  have h' := h
  obtain ⟨A, c, rfl, hl, hc⟩ := h
  have b0 := bel_mk w (.cells zAgg 26)
  have HB0 := Lib.hid b0
  have HO0 := Lib.hid (Own.new w 26 zAgg)
  by_cases h0 : ls.length = 0
  · obtain rfl := List.eq_nil_of_length_eq_zero h0
    have HT := Lib.hid (show ∀ W, Calls Try.prog 29 #[.bool true] W fun e w' => e = .returned (.agg #[.int .i64 3, .int .i64 1, .string ⟨#[]⟩]) ∧ Below W.heap.size W w' from fun W => fBool true W)
    have HX := Lib.hid (show ∀ W W', _ → _ → _ → _ from fun W W' HO HB hw => ret_exA (w := w) (W := W) (w' := W') (D := d + 2) (e := ⟨1, 0, (3, 1, ⟨#[]⟩), ⟨#[]⟩, []⟩) (A := none) (c := 0) HO HB (rdE_nil w _ _ _ (by omega)) hw)
    show Calls _ _ _ _ (RetA w (d + 2) ⟨1, 0, (3, 1, ⟨#[]⟩), ⟨#[]⟩, []⟩)
    unfold zAgg at *
    dsimp only at *
    clear b0 hc h'
    go_enter Try.func11, Try.ntmps11
    go_wp2_with fail
    with_reducible refine (HT.out _).mono ?_
    rintro e1 w2 ⟨rfl, hb1⟩
    replace HB0 := Lib.hid (HB0.out.trans (hb1.mono HB0.out.size))
    replace HO0 := Lib.hid (HO0.out.below hb1 HO0.out.lt)
    clear hb1
    have o0 := HO0.out.cell 0
    have o1 := HO0.out.cell 1
    have o2 := HO0.out.cell 2
    have o3 := HO0.out.cell 3
    have o4 := HO0.out.cell 4
    have o5 := HO0.out.cell 5
    have o6 := HO0.out.cell 6
    have m0 := HO0.out.free 0
    have m1 := HO0.out.free 1
    have m2 := HO0.out.free 2
    have m3 := HO0.out.free 3
    have m4 := HO0.out.free 4
    have m5 := HO0.out.free 5
    have m6 := HO0.out.free 6
    have hret := HX.out w2 _ HO0.out HB0.out rfl
    go_wp2
    (try simp only [Exit.inBlock, Exit.then]); refine bodyPost_ret_by (results_cell_row1 (by rfl) _ _ w.heap.size _ (by rfl) (load_ex hret.1)) ?_ ?_; (focus rfl)
    exact ⟨_, rfl, hret.2.1, hret.2.2⟩
  · by_cases h1 : ls.length = 1
    · match ls, h1, hc with
      | [a], _, hc =>
        obtain ⟨ad, x, rfl, _, hab, hxc, hxr⟩ := hc 0 a rfl
        obtain ⟨A3, c3, rfl, hl3⟩ := hxr.slice
        rw [show (0 : Nat) * 7 = 0 from rfl, show ad.add 0 = ad by unfold Addr.add; simp] at hxc
        obtain ⟨x0, x1, x2, x3, x4, x5, x6⟩ := hxc.below b0 hab
        show Calls _ _ _ _ (RetA w (d + 2) a)
        unfold RetA exV
        have HXR := Lib.hid hxr
        unfold zAgg at *
        clear b0 hxc hxr hc h'
        go_enter Try.func11, Try.ntmps11
        go_wp2
        (try simp only [Exit.inBlock, Exit.then]); refine bodyPost_ret_by (results_cell_row1 (by rfl) _ _ w.heap.size _ (by rfl) (load_ex (Own.new w _ _))) ?_ ?_; (focus rfl)
        exact ⟨_, rfl, (HXR.out.step (bel_mk w _) (Nat.le_refl _)).up (by omega), bel_mk w _⟩
    · rw [allX_many h0 h1]
      have HXR := Lib.hid h'
      unfold RetA exV
      dsimp only
      have h0b : ((ls.length : Int) == 0) = false := by rw [beq_eq_false_iff_ne]; omega
      have h1b : ((ls.length : Int) == 1) = false := by rw [beq_eq_false_iff_ne]; omega
      unfold zAgg at *
      clear b0 hc h' h0 h1
      go_enter Try.func11, Try.ntmps11
      go_wp2
      (try simp only [Exit.inBlock, Exit.then]); refine bodyPost_ret_by (results_cell_row1 (by rfl) _ _ w.heap.size _ (by rfl) (load_ex (Own.new w _ _))) ?_ ?_; (focus rfl)
      exact ⟨_, rfl, (HXR.out.step (bel_mk w _) (Nat.le_refl _)).up (by omega), bel_mk w _⟩
end Go.Proofs.Ythnmcpfmljibeaa
/-
  The walk of the statement PredicateParts. Conditions: a bounded depth, few conjuncts.
-/
namespace Go.Proofs.Ythnmcpfmljibeaa
set_option maxRecDepth 100000
set_option linter.unusedVariables false
set_option linter.unusedSimpArgs false
open Go.RowKit

set_option maxRecDepth 100000 in
set_option maxHeartbeats 6400000 in
theorem law_parts (d : Nat) (e : Ex) (A : Option Addr) (c : Nat) (ls : List Ex) (v : Value) (w : World) (h : RdE w 0 w.heap.size d (.slice A e.args.length c) e.args) (hl : (conjE d e).length ≤ 1099511627776) (hv : RdE w 0 w.heap.size (d + 1) v ls) :
    Calls Try.prog 3 #[exV e (.slice A e.args.length c), v] w fun e' w' => e' = .returned (.bool true) ∧ Below w.heap.size w w' := by
  have b1 := bel_mk w (.cells (exA e (.slice A e.args.length c)) 26)
  have H1 := Lib.hid (fun (W : World) (hb : Below w.heap.size w W) => pConj_any d e (.slice A e.args.length c) W 0 (h.step hb (Nat.le_refl _)) hl)
  have H2 := Lib.hid (fun (W : World) (hb : Below w.heap.size w W) => show Calls Try.prog 8 #[exV e (.slice A e.args.length c)] W (fun e' w' => ∃ v, e' = .returned v ∧ RdE w' 0 w'.heap.size (d + 2) v (conjE d e) ∧ Below W.heap.size W w') from (rConj_any w w.heap.size 0 d (Nat.le_refl _) d (Nat.le_refl _) e (.slice A e.args.length c) W hb h hl).mono fun e' w' hx => by
    obtain ⟨ad, c2, ps, rfl, hm, hk, _, hc, hb2⟩ := hx
    have hbw := hb.trans (hb2.mono hb.size)
    have hpl : ps.length ≤ 1099511627776 := by have := congrArg List.length hm; rw [List.length_map] at this; omega
    have hr := rdE_J (c := c2) hk hbw hbw.size hc hpl
    rw [hm] at hr
    exact ⟨_, rfl, hr.up (by omega), hb2⟩)
  have H3 := Lib.hid (fun (u v : Value) (W : World) (L : Nat) (hu : RdE W L W.heap.size (d + 2) u (conjE d e)) (hw : RdE W 0 W.heap.size (d + 2) v (conjE d e)) => rList_self (d + 1) (conjE d e) u v W L 0 hu hw)
  have H4 := Lib.hid (fun (W : World) (hb : Below w.heap.size w W) => show Calls Try.prog 10 #[v] W (fun e' w' => ∃ A4 c4, e' = .returned (exV (allX ls) (.slice A4 (allX ls).args.length c4)) ∧ RdE w' W.heap.size w'.heap.size (d + 2) (.slice A4 (allX ls).args.length c4) (allX ls).args ∧ Below W.heap.size W w') from (pAllX_any d ls v W 0 (hv.step hb (Nat.le_refl _))).mono fun e' w' hx => by
    obtain ⟨u4, h1, h2, h3⟩ := hx
    obtain ⟨A4, c4, rfl, _⟩ := h2.slice
    exact ⟨A4, c4, h1, h2, h3⟩)
  have H5 := Lib.hid (fun (W : World) (hb : Below w.heap.size w W) => show Calls Try.prog 11 #[v] W (fun e' w' => ∃ A4 c4, e' = .returned (exV (allX ls) (.slice A4 (allX ls).args.length c4)) ∧ RdE w' 0 w'.heap.size (d + 2) (.slice A4 (allX ls).args.length c4) (allX ls).args ∧ Below W.heap.size W w') from (rAllX_any d ls v W (hv.step hb (Nat.le_refl _))).mono fun e' w' hx => by
    obtain ⟨u4, h1, h2, h3⟩ := hx
    obtain ⟨A4, c4, rfl, _⟩ := h2.slice
    exact ⟨A4, c4, h1, h2, h3⟩)
  have H6 := Lib.hid (fun (A1 A2 : Option Addr) (c1 c2 L : Nat) (W : World) (hu : RdE W L W.heap.size (d + 2) (.slice A1 (allX ls).args.length c1) (allX ls).args) (hw : RdE W 0 W.heap.size (d + 2) (.slice A2 (allX ls).args.length c2) (allX ls).args) => show Calls Try.prog 9 #[exV (allX ls) (.slice A1 (allX ls).args.length c1), exV (allX ls) (.slice A2 (allX ls).args.length c2)] W (fun e' w' => e' = .returned (.bool true) ∧ Below W.heap.size W w') from by
    have hx := rSame_any (d + 2) (allX ls) (allX ls) A1 A2 c1 c2 W L 0 hu hw
    rwa [sameE_selfP] at hx)
  have H7 := Lib.hid (fun W => awakeL_any W)
  obtain ⟨Av, cv, rfl, _⟩ := hv.slice
  generalize hax : allX ls = ax at *
  generalize hzs : conjE d e = zs at *
  have HO := Lib.hid (show Own (w.alloc (.cells (exA e (.slice A e.args.length c)) 26)).drew w.heap.size 26 (exA e (.slice A e.args.length c)) from Own.new w 26 (exA e (.slice A e.args.length c)))
  have HB0 := Lib.hid (show Below w.heap.size w (w.alloc (.cells (exA e (.slice A e.args.length c)) 26)).drew from b1.drew)
  clear h hv hl b1 hax hzs
  unfold exV exA at *
  have x0 := HO.out.cell 0
  have x1 := HO.out.cell 1
  have x2 := HO.out.cell 2
  have x3 := HO.out.cell 3
  have x4 := HO.out.cell 4
  have x5 := HO.out.cell 5
  have x6 := HO.out.cell 6
  go_enter Try.func3, Try.ntmps3
  go_wp2_with fail
  go_region_law (first
    | (go_simp; go_at_call 7; with_reducible refine (H1.out _ HB0.out).mono ?_; rintro e1 w1 ⟨v1, rfl, hr1, hb1⟩; have HB1 := Lib.hid (HB0.out.trans (hb1.mono HB0.out.size)); have HO1 := Lib.hid (HO.out.below hb1 HO.out.lt); have HR1 := Lib.hid hr1; obtain ⟨A1, c1, rfl, _⟩ := hr1.slice; have y0 := HO1.out.cell 0; have y1 := HO1.out.cell 1; have y2 := HO1.out.cell 2; have y3 := HO1.out.cell 3; have y4 := HO1.out.cell 4; have y5 := HO1.out.cell 5; have y6 := HO1.out.cell 6; clear hr1 hb1)
    | (go_simp; go_at_call 8; with_reducible refine (H2.out _ HB1.out).mono ?_; rintro e2 w2 ⟨v2, rfl, hr2, hb2⟩; have HB2 := Lib.hid (HB1.out.trans (hb2.mono HB1.out.size)); have HR1b := Lib.hid (HR1.out.step hb2 (Nat.le_refl _)); have HR2 := Lib.hid hr2; obtain ⟨A2, c2, rfl, _⟩ := hr2.slice; clear hr2 hb2)
    | (go_simp; go_at_call 6; with_reducible refine (H3.out _ _ _ _ HR1b.out HR2.out).mono ?_; rintro e3 w3 ⟨rfl, hb3⟩; have HB3 := Lib.hid (HB2.out.trans (hb3.mono HB2.out.size)); clear hb3)
    | (go_simp; go_at_call 10; with_reducible refine (H4.out _ HB3.out).mono ?_; rintro e4 w4 ⟨A4, c4, rfl, hr4, hb4⟩; have HB4 := Lib.hid (HB3.out.trans (hb4.mono HB3.out.size)); have HR4 := Lib.hid hr4; clear hr4 hb4)
    | (go_simp; go_at_call 11; with_reducible refine (H5.out _ HB4.out).mono ?_; rintro e5 w5 ⟨A5, c5, rfl, hr5, hb5⟩; have HB5 := Lib.hid (HB4.out.trans (hb5.mono HB4.out.size)); have HR4b := Lib.hid (HR4.out.step hb5 (Nat.le_refl _)); have HR5 := Lib.hid hr5; clear hr5 hb5)
    | (go_simp; go_at_call 9; with_reducible refine (H6.out _ _ _ _ _ _ HR4b.out HR5.out).mono ?_; rintro e6 w6 ⟨rfl, hb6⟩; have HB6 := Lib.hid (HB5.out.trans (hb6.mono HB5.out.size)); clear hb6)
    | (go_simp; go_at_call 12; with_reducible refine (H7.out _).mono ?_; rintro e7 w7 ⟨rfl, hb7⟩; have HB7 := Lib.hid (HB6.out.trans (hb7.mono HB6.out.size)); clear hb7))
  all_goals
    go_wp2
    go_ret
    exact ⟨by first | rfl | simp, HB7.out⟩
end Go.Proofs.Ythnmcpfmljibeaa
