/-
  Period of the program and of the reference: what is read from any bytes at any offset. Conditions: lengths.
-/
import Derived.Test.YtomiegfblhhhpaaCo5
import Derived.Test.YtomiegfblhhhpaaCo6
import Derived.Outline
import Derived.WalkKit
import Derived.WalkSpells
import Derived.WalkLawsBesides
import Derived.Deep.QuietTactic
import Derived.BigQuiet
import Derived.Handy
import Derived.Lib.Hide
namespace Go.Proofs.Ytomiegfblhhhpaa
open Go.RowKit

theorem results_cell_row3 {fn : Func} {p u v : Tmp} {ty : TypeId} (h : fn.results = #[.cell p ty, .tmp u, .tmp v]) (tmps : Array Value) (w : World) (g : Nat) (cs : Array Value) (hp : tmps.getD p undef = .pointer (some ⟨g, 0, none⟩))
    (hl : (loadVar ty ⟨g, 0, none⟩).run Try.prog w = .ok (.agg cs) w) : (results fn tmps).run Try.prog w = .ok (.tuple #[.agg cs, tmps.getD u undef, tmps.getD v undef]) w := by
  have hp' : tmps[p]?.getD undef = .pointer (some ⟨g, 0, none⟩) := by simpa using hp
  simp [results, h, hp', asAddr, hl]
theorem load_per {w : World} {g : Nat} {x y : Value} (h : Own w g 49 #[x, y]) : (loadVar 49 ⟨g, 0, none⟩).run Try.prog w = .ok (.agg #[x, y]) w :=
  run_loadVar_row w g 49 49 #[x, y] (0, 0) _ h Try.underlying49 rfl (by kernel_rfl)
set_option maxHeartbeats 800000 in
theorem perValid_any (a b : Int) (w : World) :
    Calls Try.prog 53 #[.agg #[.int .i64 a, .int .i64 b]] w fun e w' => e = .returned (.bool (vld a b)) ∧ Below w.heap.size w w' := by
  unfold vld
  by_cases h1 : 0 ≤ a <;> by_cases h2 : a < b <;> by_cases h3 : b ≤ 1099511627776
  all_goals first | (exfalso; omega) | skip
  all_goals
    go_enter Try.func53, Try.ntmps53
    go_wp2
    go_ret
    exact ⟨by simp [*], (Below.refl _ _).alloc (Nat.le_refl _) _⟩
/-- What Period answers: the error, both ends, where the next begins. -/
def perF (l : List UInt8) (i : Int) : Nat × Int × Int × Nat :=
  if (intF l i).1 = 0 then if (intF l (intF l i).2.2).1 = 0 then if vld (intF l i).2.1 (intF l (intF l i).2.2).2.1 then (0, (intF l i).2.1, (intF l (intF l i).2.2).2.1, (intF l (intF l i).2.2).2.2) else (6, 0, 0, 0) else ((intF l (intF l i).2.2).1, 0, 0, 0) else ((intF l i).1, 0, 0, 0)
def perR (x : Nat × Int × Int × Nat) : Value := .tuple #[.agg #[.int .i64 x.2.1, .int .i64 x.2.2.1], .int .i64 (x.2.2.2 : Nat), .int .i64 (x.1 : Nat)]
set_option maxRecDepth 100000 in
set_option maxHeartbeats 3200000 in
theorem pPeriod_any (v : Value) (l : List UInt8) (i : Int) (w : World) (L : Nat) (hv : RdB w L w.heap.size v l) :
    Calls Try.prog 32 #[v, .int .i64 i] w fun e w' => e = .returned (perR (perF l i)) ∧ Below w.heap.size w w' := by
  have H := Lib.hid (fun (i : Int) W (h : Below w.heap.size w W) => pInt_any v l i W L (hv.step h (Nat.le_refl _)))
  have bW := bel_mark w (.cells #[.int .i64 0, .int .i64 0] 49)
  have oB : Own (w.alloc (.cells #[.int .i64 0, .int .i64 0] 49)) w.heap.size 49 #[.int .i64 0, .int .i64 0] := Own.new _ _ _
  have sW : (w.alloc (.cells #[.int .i64 0, .int .i64 0] 49)).heap.size = w.heap.size + 1 := by simp
  have h1 := H.out i _ bW
  obtain ⟨A, c, rfl, _⟩ := hv
  rcases hX : intF l i with ⟨e1, n1, k1⟩
  rw [hX] at h1
  dsimp only at h1
  by_cases he1 : e1 = 0
  · subst he1
    rcases hY : intF l k1 with ⟨e2, n2, k2⟩
    by_cases he2 : e2 = 0
    · subst he2
      by_cases hv : vld n1 n2 = true
      · have HF := Lib.hid (show perF l i = (0, n1, n2, k2) by unfold perF; rw [hX]; dsimp only; rw [if_pos rfl, hY]; dsimp only; rw [if_pos rfl, if_pos hv])
        have HY := Lib.hid hY
        have HV := Lib.hid hv
        clear hX hY hv
        go_enter Try.func32, Try.ntmps32
        go_wp2_with fail
        generalize w.alloc (.cells #[.int .i64 0, .int .i64 0] 49) = W at *
        with_reducible refine h1.mono ?_
        rintro e w1 ⟨rfl, hb1⟩
        have z1 := hb1.size
        have o1 := oB.below hb1 (by omega)
        have B1 := bW.trans (hb1.mono (by omega))
        have h2 := H.out k1 w1 B1
        rw [HY.out] at h2
        clear h1 oB
        go_wp2_with fail
        with_reducible refine h2.mono ?_
        rintro e w2 ⟨rfl, hb2⟩
        have z2 := hb2.size
        have o2 := o1.below hb2 (by omega)
        have B2 := B1.trans (hb2.mono B1.size)
        have h3 := perValid_any n1 n2 (w2.alloc (.cells #[.int .i64 n1, .int .i64 n2] 49))
        rw [HV.out] at h3
        have oP : Own (w2.alloc (.cells #[.int .i64 n1, .int .i64 n2] 49)) w2.heap.size 49 #[.int .i64 n1, .int .i64 n2] := Own.new _ _ _
        have b3 := bel_mark w2 (.cells #[.int .i64 n1, .int .i64 n2] 49)
        have o3 := o2.alloc (.cells #[.int .i64 n1, .int .i64 n2] 49)
        have s3 : (w2.alloc (.cells #[.int .i64 n1, .int .i64 n2] 49)).heap.size = w2.heap.size + 1 := by simp
        have B3 := B2.trans (b3.mono B2.size)
        clear h2 o1 o2
        go_wp2_with fail
        with_reducible refine h3.mono ?_
        rintro e w4 ⟨rfl, hb4⟩
        have z4 := hb4.size
        have o4 := o3.below hb4 (by omega)
        have p4 := oP.below hb4 (by omega)
        have B4 := B3.trans (hb4.mono B3.size)
        have d0 := o4.cell 0; have d1 := o4.cell 1; have e0 := o4.free 0; have e1 := o4.free 1
        have q0 := p4.cell 0; have q1 := p4.cell 1
        (try simp only [List.getElem?_toArray, List.getElem?_cons_zero, List.getElem?_cons_succ] at d0 d1 q0 q1)
        clear h3 o3 oP
        go_wp2
        (try simp only [Exit.inBlock, Exit.then])
        refine bodyPost_ret_by (results_cell_row3 (by rfl) _ _ w.heap.size _ (by rfl) (load_per ((o4.store 0 _).store 1 _))) ?_ ?_
        · rfl
        · rw [HF.out]
          refine ⟨rfl, ?_⟩
          (repeat' (first | (with_reducible exact Below.refl _ _) | (with_reducible assumption) | (with_reducible refine Below.alloc ?_ ?_ _) | (with_reducible refine Below.drew ?_) | (with_reducible refine Below.setCell ?_ ?_ _) | (with_reducible refine Below.trans ?_ (Below.mono (by assumption) ?_)) | go_size))
      · have hv2 : vld n1 n2 = false := by simpa using hv
        have HF := Lib.hid (show perF l i = (6, 0, 0, 0) by unfold perF; rw [hX]; dsimp only; rw [if_pos rfl, hY]; dsimp only; rw [if_pos rfl, if_neg hv])
        have HY := Lib.hid hY
        have HV := Lib.hid hv2
        clear hX hY hv hv2
        go_enter Try.func32, Try.ntmps32
        go_wp2_with fail
        generalize w.alloc (.cells #[.int .i64 0, .int .i64 0] 49) = W at *
        with_reducible refine h1.mono ?_
        rintro e w1 ⟨rfl, hb1⟩
        have z1 := hb1.size
        have o1 := oB.below hb1 (by omega)
        have B1 := bW.trans (hb1.mono (by omega))
        have h2 := H.out k1 w1 B1
        rw [HY.out] at h2
        clear h1 oB
        go_wp2_with fail
        with_reducible refine h2.mono ?_
        rintro e w2 ⟨rfl, hb2⟩
        have z2 := hb2.size
        have o2 := o1.below hb2 (by omega)
        have B2 := B1.trans (hb2.mono B1.size)
        have h3 := perValid_any n1 n2 (w2.alloc (.cells #[.int .i64 n1, .int .i64 n2] 49))
        rw [HV.out] at h3
        have b3 := bel_mark w2 (.cells #[.int .i64 n1, .int .i64 n2] 49)
        have o3 := o2.alloc (.cells #[.int .i64 n1, .int .i64 n2] 49)
        have s3 : (w2.alloc (.cells #[.int .i64 n1, .int .i64 n2] 49)).heap.size = w2.heap.size + 1 := by simp
        have B3 := B2.trans (b3.mono B2.size)
        clear h2 o1 o2
        go_wp2_with fail
        with_reducible refine h3.mono ?_
        rintro e w4 ⟨rfl, hb4⟩
        have z4 := hb4.size
        have o4 := o3.below hb4 (by omega)
        have B4 := B3.trans (hb4.mono B3.size)
        have d0 := o4.cell 0; have d1 := o4.cell 1; have e0 := o4.free 0; have e1 := o4.free 1
        (try simp only [List.getElem?_toArray, List.getElem?_cons_zero, List.getElem?_cons_succ] at d0 d1)
        clear h3 o3
        go_wp2
        (try simp only [Exit.inBlock, Exit.then])
        refine bodyPost_ret_by (results_cell_row3 (by rfl) _ _ w.heap.size _ (by rfl) (load_per ((o4.store 0 _).store 1 _))) ?_ ?_
        · rfl
        · rw [HF.out]
          refine ⟨rfl, ?_⟩
          (repeat' (first | (with_reducible exact Below.refl _ _) | (with_reducible assumption) | (with_reducible refine Below.alloc ?_ ?_ _) | (with_reducible refine Below.drew ?_) | (with_reducible refine Below.setCell ?_ ?_ _) | (with_reducible refine Below.trans ?_ (Below.mono (by assumption) ?_)) | go_size))
    · have HF := Lib.hid (show perF l i = (e2, 0, 0, 0) by unfold perF; rw [hX]; dsimp only; rw [if_pos rfl, hY]; dsimp only; rw [if_neg he2])
      have HY := Lib.hid hY
      have he2i : ¬ (e2 : Int) = 0 := by omega
      clear hX hY he2
      go_enter Try.func32, Try.ntmps32
      go_wp2_with fail
      generalize w.alloc (.cells #[.int .i64 0, .int .i64 0] 49) = W at *
      with_reducible refine h1.mono ?_
      rintro e w1 ⟨rfl, hb1⟩
      have z1 := hb1.size
      have o1 := oB.below hb1 (by omega)
      have B1 := bW.trans (hb1.mono (by omega))
      have h2 := H.out k1 w1 B1
      rw [HY.out] at h2
      clear h1 oB
      go_wp2_with fail
      with_reducible refine h2.mono ?_
      rintro e w2 ⟨rfl, hb2⟩
      have z2 := hb2.size
      have o2 := o1.below hb2 (by omega)
      have B2 := B1.trans (hb2.mono B1.size)
      have d0 := o2.cell 0; have d1 := o2.cell 1; have e0 := o2.free 0; have e1 := o2.free 1
      (try simp only [List.getElem?_toArray, List.getElem?_cons_zero, List.getElem?_cons_succ] at d0 d1)
      clear h2 o1
      go_wp2
      (try simp only [Exit.inBlock, Exit.then])
      refine bodyPost_ret_by (results_cell_row3 (by rfl) _ _ w.heap.size _ (by rfl) (load_per ((o2.store 0 _).store 1 _))) ?_ ?_
      · rfl
      · rw [HF.out]
        refine ⟨rfl, ?_⟩
        (repeat' (first | (with_reducible exact Below.refl _ _) | (with_reducible assumption) | (with_reducible refine Below.alloc ?_ ?_ _) | (with_reducible refine Below.drew ?_) | (with_reducible refine Below.setCell ?_ ?_ _) | (with_reducible refine Below.trans ?_ (Below.mono (by assumption) ?_)) | go_size))
  · have HF := Lib.hid (show perF l i = (e1, 0, 0, 0) by unfold perF; rw [hX]; dsimp only; rw [if_neg he1])
    have he1i : ¬ (e1 : Int) = 0 := by omega
    clear hX he1 H
    go_enter Try.func32, Try.ntmps32
    go_wp2_with fail
    generalize w.alloc (.cells #[.int .i64 0, .int .i64 0] 49) = W at *
    with_reducible refine h1.mono ?_
    rintro e w1 ⟨rfl, hb1⟩
    have z1 := hb1.size
    have o1 := oB.below hb1 (by omega)
    have B1 := bW.trans (hb1.mono (by omega))
    have d0 := o1.cell 0; have d1 := o1.cell 1; have e0 := o1.free 0; have e1 := o1.free 1
    (try simp only [List.getElem?_toArray, List.getElem?_cons_zero, List.getElem?_cons_succ] at d0 d1)
    clear h1 oB
    go_wp2
    (try simp only [Exit.inBlock, Exit.then])
    refine bodyPost_ret_by (results_cell_row3 (by rfl) _ _ w.heap.size _ (by rfl) (load_per ((o1.store 0 _).store 1 _))) ?_ ?_
    · rfl
    · rw [HF.out]
      refine ⟨rfl, ?_⟩
      (repeat' (first | (with_reducible exact Below.refl _ _) | (with_reducible assumption) | (with_reducible refine Below.alloc ?_ ?_ _) | (with_reducible refine Below.drew ?_) | (with_reducible refine Below.setCell ?_ ?_ _) | (with_reducible refine Below.trans ?_ (Below.mono (by assumption) ?_)) | go_size))
set_option maxRecDepth 100000 in
set_option maxHeartbeats 3200000 in
theorem rPeriod_any (v : Value) (l : List UInt8) (i : Int) (w : World) (L : Nat) (hv : RdB w L w.heap.size v l) :
    Calls Try.prog 33 #[v, .int .i64 i] w fun e w' => e = .returned (perR (perF l i)) ∧ Below w.heap.size w w' := by
  have H := Lib.hid (fun (i : Int) W (h : Below w.heap.size w W) => rInt_any v l i W L (hv.step h (Nat.le_refl _)))
  have bW := bel_mark w (.cells #[.int .i64 0, .int .i64 0] 49)
  have oB : Own (w.alloc (.cells #[.int .i64 0, .int .i64 0] 49)) w.heap.size 49 #[.int .i64 0, .int .i64 0] := Own.new _ _ _
  have sW : (w.alloc (.cells #[.int .i64 0, .int .i64 0] 49)).heap.size = w.heap.size + 1 := by simp
  have h1 := H.out i _ bW
  obtain ⟨A, c, rfl, _⟩ := hv
  rcases hX : intF l i with ⟨e1, n1, k1⟩
  rw [hX] at h1
  dsimp only at h1
  by_cases he1 : e1 = 0
  · subst he1
    rcases hY : intF l k1 with ⟨e2, n2, k2⟩
    by_cases he2 : e2 = 0
    · subst he2
      by_cases hv : vld n1 n2 = true
      · have HF := Lib.hid (show perF l i = (0, n1, n2, k2) by unfold perF; rw [hX]; dsimp only; rw [if_pos rfl, hY]; dsimp only; rw [if_pos rfl, if_pos hv])
        have hvv : 0 ≤ n1 ∧ n1 < n2 ∧ n2 ≤ 1099511627776 := by unfold vld at hv; simpa [and_assoc] using hv
        have c1 : ¬ n1 < 0 := by omega
        have c2 : ¬ n2 ≤ n1 := by omega
        have c3 : ¬ n2 > 1099511627776 := by omega
        clear hv hvv
        have HY := Lib.hid hY
        clear hX hY
        go_enter Try.func33, Try.ntmps33
        go_wp2_with fail
        generalize w.alloc (.cells #[.int .i64 0, .int .i64 0] 49) = W at *
        with_reducible refine h1.mono ?_
        rintro e w1 ⟨rfl, hb1⟩
        have z1 := hb1.size
        have o1 := oB.below hb1 (by omega)
        have B1 := bW.trans (hb1.mono (by omega))
        have h2 := H.out k1 w1 B1
        rw [HY.out] at h2
        clear h1 oB
        go_wp2_with fail
        with_reducible refine h2.mono ?_
        rintro e w2 ⟨rfl, hb2⟩
        have z2 := hb2.size
        have o2 := o1.below hb2 (by omega)
        have B2 := B1.trans (hb2.mono B1.size)
        have d0 := o2.cell 0; have d1 := o2.cell 1; have e0 := o2.free 0; have e1 := o2.free 1
        (try simp only [List.getElem?_toArray, List.getElem?_cons_zero, List.getElem?_cons_succ] at d0 d1)
        clear h2 o1
        go_wp2
        (try simp only [Exit.inBlock, Exit.then])
        refine bodyPost_ret_by (results_cell_row3 (by rfl) _ _ w.heap.size _ (by rfl) (load_per ((o2.store 0 _).store 1 _))) ?_ ?_
        · rfl
        · rw [HF.out]
          refine ⟨rfl, ?_⟩
          (repeat' (first | (with_reducible exact Below.refl _ _) | (with_reducible assumption) | (with_reducible refine Below.alloc ?_ ?_ _) | (with_reducible refine Below.drew ?_) | (with_reducible refine Below.setCell ?_ ?_ _) | (with_reducible refine Below.trans ?_ (Below.mono (by assumption) ?_)) | go_size))
      · have HF := Lib.hid (show perF l i = (6, 0, 0, 0) by unfold perF; rw [hX]; dsimp only; rw [if_pos rfl, hY]; dsimp only; rw [if_pos rfl, if_neg hv])
        have hvv : ¬ (0 ≤ n1 ∧ n1 < n2 ∧ n2 ≤ 1099511627776) := fun h => hv (by unfold vld; simpa [and_assoc] using h)
        by_cases c1 : n1 < 0
        · clear hv hvv
          have HY := Lib.hid hY
          clear hX hY
          go_enter Try.func33, Try.ntmps33
          go_wp2_with fail
          generalize w.alloc (.cells #[.int .i64 0, .int .i64 0] 49) = W at *
          with_reducible refine h1.mono ?_
          rintro e w1 ⟨rfl, hb1⟩
          have z1 := hb1.size
          have o1 := oB.below hb1 (by omega)
          have B1 := bW.trans (hb1.mono (by omega))
          have h2 := H.out k1 w1 B1
          rw [HY.out] at h2
          clear h1 oB
          go_wp2_with fail
          with_reducible refine h2.mono ?_
          rintro e w2 ⟨rfl, hb2⟩
          have z2 := hb2.size
          have o2 := o1.below hb2 (by omega)
          have B2 := B1.trans (hb2.mono B1.size)
          have d0 := o2.cell 0; have d1 := o2.cell 1; have e0 := o2.free 0; have e1 := o2.free 1
          (try simp only [List.getElem?_toArray, List.getElem?_cons_zero, List.getElem?_cons_succ] at d0 d1)
          clear h2 o1
          go_wp2
          (try simp only [Exit.inBlock, Exit.then])
          refine bodyPost_ret_by (results_cell_row3 (by rfl) _ _ w.heap.size _ (by rfl) (load_per ((o2.store 0 _).store 1 _))) ?_ ?_
          · rfl
          · rw [HF.out]
            refine ⟨rfl, ?_⟩
            (repeat' (first | (with_reducible exact Below.refl _ _) | (with_reducible assumption) | (with_reducible refine Below.alloc ?_ ?_ _) | (with_reducible refine Below.drew ?_) | (with_reducible refine Below.setCell ?_ ?_ _) | (with_reducible refine Below.trans ?_ (Below.mono (by assumption) ?_)) | go_size))
        · by_cases c2 : n2 ≤ n1
          · clear hv hvv
            have HY := Lib.hid hY
            clear hX hY
            go_enter Try.func33, Try.ntmps33
            go_wp2_with fail
            generalize w.alloc (.cells #[.int .i64 0, .int .i64 0] 49) = W at *
            with_reducible refine h1.mono ?_
            rintro e w1 ⟨rfl, hb1⟩
            have z1 := hb1.size
            have o1 := oB.below hb1 (by omega)
            have B1 := bW.trans (hb1.mono (by omega))
            have h2 := H.out k1 w1 B1
            rw [HY.out] at h2
            clear h1 oB
            go_wp2_with fail
            with_reducible refine h2.mono ?_
            rintro e w2 ⟨rfl, hb2⟩
            have z2 := hb2.size
            have o2 := o1.below hb2 (by omega)
            have B2 := B1.trans (hb2.mono B1.size)
            have d0 := o2.cell 0; have d1 := o2.cell 1; have e0 := o2.free 0; have e1 := o2.free 1
            (try simp only [List.getElem?_toArray, List.getElem?_cons_zero, List.getElem?_cons_succ] at d0 d1)
            clear h2 o1
            go_wp2
            (try simp only [Exit.inBlock, Exit.then])
            refine bodyPost_ret_by (results_cell_row3 (by rfl) _ _ w.heap.size _ (by rfl) (load_per ((o2.store 0 _).store 1 _))) ?_ ?_
            · rfl
            · rw [HF.out]
              refine ⟨rfl, ?_⟩
              (repeat' (first | (with_reducible exact Below.refl _ _) | (with_reducible assumption) | (with_reducible refine Below.alloc ?_ ?_ _) | (with_reducible refine Below.drew ?_) | (with_reducible refine Below.setCell ?_ ?_ _) | (with_reducible refine Below.trans ?_ (Below.mono (by assumption) ?_)) | go_size))
          · have c3 : n2 > 1099511627776 := by omega
            clear hv hvv
            have HY := Lib.hid hY
            clear hX hY
            go_enter Try.func33, Try.ntmps33
            go_wp2_with fail
            generalize w.alloc (.cells #[.int .i64 0, .int .i64 0] 49) = W at *
            with_reducible refine h1.mono ?_
            rintro e w1 ⟨rfl, hb1⟩
            have z1 := hb1.size
            have o1 := oB.below hb1 (by omega)
            have B1 := bW.trans (hb1.mono (by omega))
            have h2 := H.out k1 w1 B1
            rw [HY.out] at h2
            clear h1 oB
            go_wp2_with fail
            with_reducible refine h2.mono ?_
            rintro e w2 ⟨rfl, hb2⟩
            have z2 := hb2.size
            have o2 := o1.below hb2 (by omega)
            have B2 := B1.trans (hb2.mono B1.size)
            have d0 := o2.cell 0; have d1 := o2.cell 1; have e0 := o2.free 0; have e1 := o2.free 1
            (try simp only [List.getElem?_toArray, List.getElem?_cons_zero, List.getElem?_cons_succ] at d0 d1)
            clear h2 o1
            go_wp2
            (try simp only [Exit.inBlock, Exit.then])
            refine bodyPost_ret_by (results_cell_row3 (by rfl) _ _ w.heap.size _ (by rfl) (load_per ((o2.store 0 _).store 1 _))) ?_ ?_
            · rfl
            · rw [HF.out]
              refine ⟨rfl, ?_⟩
              (repeat' (first | (with_reducible exact Below.refl _ _) | (with_reducible assumption) | (with_reducible refine Below.alloc ?_ ?_ _) | (with_reducible refine Below.drew ?_) | (with_reducible refine Below.setCell ?_ ?_ _) | (with_reducible refine Below.trans ?_ (Below.mono (by assumption) ?_)) | go_size))
    · have HF := Lib.hid (show perF l i = (e2, 0, 0, 0) by unfold perF; rw [hX]; dsimp only; rw [if_pos rfl, hY]; dsimp only; rw [if_neg he2])
      have he2i : ¬ (e2 : Int) = 0 := by omega
      clear he2
      have HY := Lib.hid hY
      clear hX hY
      go_enter Try.func33, Try.ntmps33
      go_wp2_with fail
      generalize w.alloc (.cells #[.int .i64 0, .int .i64 0] 49) = W at *
      with_reducible refine h1.mono ?_
      rintro e w1 ⟨rfl, hb1⟩
      have z1 := hb1.size
      have o1 := oB.below hb1 (by omega)
      have B1 := bW.trans (hb1.mono (by omega))
      have h2 := H.out k1 w1 B1
      rw [HY.out] at h2
      clear h1 oB
      go_wp2_with fail
      with_reducible refine h2.mono ?_
      rintro e w2 ⟨rfl, hb2⟩
      have z2 := hb2.size
      have o2 := o1.below hb2 (by omega)
      have B2 := B1.trans (hb2.mono B1.size)
      have d0 := o2.cell 0; have d1 := o2.cell 1; have e0 := o2.free 0; have e1 := o2.free 1
      (try simp only [List.getElem?_toArray, List.getElem?_cons_zero, List.getElem?_cons_succ] at d0 d1)
      clear h2 o1
      go_wp2
      (try simp only [Exit.inBlock, Exit.then])
      refine bodyPost_ret_by (results_cell_row3 (by rfl) _ _ w.heap.size _ (by rfl) (load_per ((o2.store 0 _).store 1 _))) ?_ ?_
      · rfl
      · rw [HF.out]
        refine ⟨rfl, ?_⟩
        (repeat' (first | (with_reducible exact Below.refl _ _) | (with_reducible assumption) | (with_reducible refine Below.alloc ?_ ?_ _) | (with_reducible refine Below.drew ?_) | (with_reducible refine Below.setCell ?_ ?_ _) | (with_reducible refine Below.trans ?_ (Below.mono (by assumption) ?_)) | go_size))
  · have HF := Lib.hid (show perF l i = (e1, 0, 0, 0) by unfold perF; rw [hX]; dsimp only; rw [if_neg he1])
    have he1i : ¬ (e1 : Int) = 0 := by omega
    clear hX he1 H
    go_enter Try.func33, Try.ntmps33
    go_wp2_with fail
    generalize w.alloc (.cells #[.int .i64 0, .int .i64 0] 49) = W at *
    with_reducible refine h1.mono ?_
    rintro e w1 ⟨rfl, hb1⟩
    have z1 := hb1.size
    have o1 := oB.below hb1 (by omega)
    have B1 := bW.trans (hb1.mono (by omega))
    have d0 := o1.cell 0; have d1 := o1.cell 1; have e0 := o1.free 0; have e1 := o1.free 1
    (try simp only [List.getElem?_toArray, List.getElem?_cons_zero, List.getElem?_cons_succ] at d0 d1)
    clear h1 oB
    go_wp2
    (try simp only [Exit.inBlock, Exit.then])
    refine bodyPost_ret_by (results_cell_row3 (by rfl) _ _ w.heap.size _ (by rfl) (load_per ((o1.store 0 _).store 1 _))) ?_ ?_
    · rfl
    · rw [HF.out]
      refine ⟨rfl, ?_⟩
      (repeat' (first | (with_reducible exact Below.refl _ _) | (with_reducible assumption) | (with_reducible refine Below.alloc ?_ ?_ _) | (with_reducible refine Below.drew ?_) | (with_reducible refine Below.setCell ?_ ?_ _) | (with_reducible refine Below.trans ?_ (Below.mono (by assumption) ?_)) | go_size))
end Go.Proofs.Ytomiegfblhhhpaa
