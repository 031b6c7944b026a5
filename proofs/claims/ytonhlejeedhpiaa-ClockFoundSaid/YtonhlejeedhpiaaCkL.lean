/-
  Contracts of Latest, of the program and of the reference: the last stamp up to a time. Conditions: none.
-/
import Derived.Test.YtonhlejeedhpiaaCkS
import Derived.Test.YtonhlejeedhpiaaQui
import Derived.Shelf.Abstract
import Derived.WalkKit
import Derived.WalkSpells
import Derived.WalkLawsBesides
import Derived.Deep.QuietTactic
import Derived.BigQuiet
import Derived.Handy
import Derived.Lib.Hide
namespace Go.Proofs.Ytonhlejeedhpiaa
open Go.RowKit

theorem latV_eq (o : Option (Int × Int)) : latV o = .tuple #[.agg #[.int .i64 (o.getD (0, 0)).1, .int .i64 (o.getD (0, 0)).2], .bool o.isSome] := by cases o <;> rfl
set_option maxHeartbeats 800000 in
theorem closureL (a b t : Int) (g : Nat) (W : World) (hc : W.cell? ⟨g, 0, none⟩ = some (.int .i64 t)) (hg : g < W.heap.size) :
    Calls Try.prog 34 #[.agg #[.int .i64 a, .int .i64 b], .pointer (some ⟨g, 0, none⟩)] W fun e w' => e = .returned (.bool (decide (a ≤ t))) ∧ Below W.heap.size W w' := by
  go_enter Try.func34, Try.ntmps34
  go_wp2
  go_ret
  refine ⟨rfl, ?_⟩
  (repeat' (first | (with_reducible exact Below.refl _ _) | (with_reducible assumption) | (with_reducible refine Below.alloc ?_ ?_ _) | (with_reducible refine Below.drew ?_) | (with_reducible refine Below.setCell ?_ ?_ _) | (with_reducible refine Below.trans ?_ (Below.mono (by assumption) ?_)) | go_size))

set_option maxRecDepth 100000 in
set_option maxHeartbeats 1600000 in
theorem findLast_any (v : Value) (l : List (Int × Int)) (t : Int) (g : Nat) (w : World) (L : Nat) (hv : RdP w L w.heap.size v l) (hc : w.cell? ⟨g, 0, none⟩ = some (.int .i64 t)) (hg : g < w.heap.size) :
    Calls Try.prog 33 #[v, .func (.func 34) #[] #[.pointer (some ⟨g, 0, none⟩)]] w fun e w' => e = .returned (latV (lat t l)) ∧ Below w.heap.size w w' := by
  have hv0 := hv
  have eg : ∀ args w, (callFunc 34 args).run Try.prog w = .ok (.enter 34 args) w := enters_of Try.func34 (by kernel_rfl) rfl
  obtain ⟨A, c, rfl, hlen, _⟩ := hv
  generalize hR : lat t l = R
  go_enter Try.func33, Try.ntmps33
  have hwn : wrap64 ((l.length : Int) - 1) = (l.length : Int) - 1 := IntWalk.wrap64_in _ (by omega)
  go_wp2
  have oW := Own.new w 34 #[.int .i64 0, .int .i64 0]
  have bW : Below w.heap.size w (w.alloc (.cells #[.int .i64 0, .int .i64 0] 34)) := (Below.refl _ _).alloc (Nat.le_refl _) _
  have zW := bW.size
  go_loopw [6] (fun i wr => ∃ (k : Nat) (j : Int), Hid (k ≤ l.length ∧ j = (k : Int) - 1 ∧ lat t (l.take k) = R) ∧ i = .int .i64 j ∧ Own wr w.heap.size 34 #[.int .i64 0, .int .i64 0] ∧ Below w.heap.size w wr) (fun i _ => (intOf i + 1).toNat)
  case atStart => exact ⟨l.length, (l.length : Int) - 1, Lib.hid ⟨by omega, rfl, by rw [List.take_length]; exact hR⟩, by first | rfl | rw [hwn], oW, bW⟩
  case round =>
    obtain ⟨k, j, hK, rfl, hO, hbr⟩ := hrel
    clear oW bW zW
    have hbz := hbr.size
    have hgl := hO.lt
    have hK1 := hK.out
    cases k with
    | zero =>
      obtain ⟨_, hj, hl0⟩ := hK1
      obtain rfl : j = -1 := by omega
      clear hj hK
      have hE : R = none := hl0.symm
      subst hE
      clear hR hl0
      have d0 : wr.cell? ⟨w.heap.size, 0, none⟩ = some (.int .i64 0) := hO.cell 0
      have d1 : wr.cell? ⟨w.heap.size, 1, none⟩ = some (.int .i64 0) := hO.cell 1
      have e0 := hO.free 0
      have e1 := hO.free 1
      go_wp2
      (try simp only [Exit.inBlock, Exit.then])
      refine bodyPost_ret_by (results_cell_row2 (by rfl) _ _ w.heap.size _ (by rfl) (load_stp ((hO.store 0 _).store 1 _))) ?_ ?_
      · rfl
      refine ⟨rfl, hbr.trans ?_⟩
      (repeat' (first | (with_reducible exact Below.refl _ _) | (with_reducible assumption) | (with_reducible refine Below.alloc ?_ ?_ _) | (with_reducible refine Below.drew ?_) | (with_reducible refine Below.setCell ?_ ?_ _) | (with_reducible refine Below.trans ?_ (Below.mono (by assumption) ?_)) | go_size))
    | succ m =>
      obtain ⟨hkl, hj, hl0⟩ := hK1
      obtain rfl : j = (m : Int) := by omega
      clear hj hK
      have hx := List.getElem?_eq_getElem (show m < l.length by omega)
      generalize l[m] = p at hx
      obtain ⟨a, b⟩ := p
      obtain ⟨ad, rfl, _, hab, c0, c1⟩ := (hv0.below hbr).at hx
      dsimp only at c0 c1
      have i2 : (0 : Int) ≤ (m : Int) := by omega
      have i3 : (m : Int) < (l.length : Int) := by omega
      have i7 : IntKind.i64.wrap ((m : Int) - 1) = (m : Int) - 1 := IntWalk.i64_in _ (by omega)
      have hcw := (hbr.cell (p := ⟨g, 0, none⟩) hg).trans hc
      have hcl := closureL a b t g wr hcw (by omega)
      clear hcw
      by_cases hat : a ≤ t
      · rw [decide_eq_true hat] at hcl
        have hE : R = some (a, b) := hl0.symm.trans (lat_yes hx hat)
        subst hE
        clear hR hl0 hx
        go_wp2_with fail
        refine hcl.mono ?_
        rintro e w2 ⟨rfl, hb2⟩
        have z2 := hb2.size
        have o2 := hO.below hb2 hgl
        have k0 := (hb2.cell (p := ad.add (m * 2)) (by rw [add_block]; omega)).trans c0
        have k1 := (hb2.cell (p := ⟨(ad.add (m * 2)).block, (ad.add (m * 2)).off + 1, none⟩) (by show (ad.add (m * 2)).block < _; rw [add_block]; omega)).trans c1
        have d0 : w2.cell? ⟨w.heap.size, 0, none⟩ = some (.int .i64 0) := o2.cell 0
        have d1 : w2.cell? ⟨w.heap.size, 1, none⟩ = some (.int .i64 0) := o2.cell 1
        have e0 := o2.free 0
        have e1 := o2.free 1
        clear c0 c1
        go_wp2
        (try simp only [Exit.inBlock, Exit.then])
        refine bodyPost_ret_by (results_cell_row2 (by rfl) _ _ w.heap.size _ (by rfl) (load_stp ((o2.store 0 _).store 1 _))) ?_ ?_
        · rfl
        refine ⟨rfl, hbr.trans ?_⟩
        have hb2 := hb2.mono hbz
        (repeat' (first | (with_reducible exact Below.refl _ _) | (with_reducible assumption) | (with_reducible refine Below.alloc ?_ ?_ _) | (with_reducible refine Below.drew ?_) | (with_reducible refine Below.setCell ?_ ?_ _) | (with_reducible refine Below.trans ?_ (Below.mono (by assumption) ?_)) | go_size))
      · rw [decide_eq_false hat] at hcl
        have hE := Lib.hid ((lat_no hx hat).symm.trans hl0)
        clear hx hl0
        go_wp2_with fail
        refine hcl.mono ?_
        rintro e w2 ⟨rfl, hb2⟩
        go_wp2
        go_roundw
        case rel => exact ⟨m, (m : Int) - 1, Lib.hid ⟨by omega, rfl, hE.out⟩, by go_num, hO.below hb2 hgl, hbr.trans (hb2.mono hbz)⟩
        case measure => simp [intOf]

set_option maxRecDepth 100000 in
set_option maxHeartbeats 800000 in
theorem pLatest_any (v : Value) (l : List (Int × Int)) (t : Int) (w : World) (L : Nat) (hv : RdP w L w.heap.size v l) :
    Calls Try.prog 17 #[v, .int .i64 t] w fun e w' => e = .returned (latV (lat t l)) ∧ Below w.heap.size w w' := by
  rw [latV_eq]
  have b1 : Below w.heap.size w (w.alloc (.cells #[.int .i64 t] 3)) := (Below.refl _ _).alloc (Nat.le_refl _) _
  have bW : Below w.heap.size w ((w.alloc (.cells #[.int .i64 t] 3)).alloc (.cells #[.int .i64 0, .int .i64 0] 34)) := b1.alloc (by simp) _
  have oB : Own ((w.alloc (.cells #[.int .i64 t] 3)).alloc (.cells #[.int .i64 0, .int .i64 0] 34)) (w.heap.size + 1) 34 #[.int .i64 0, .int .i64 0] := own_two _
  have h := findLast_any v l t w.heap.size ((w.alloc (.cells #[.int .i64 t] 3)).alloc (.cells #[.int .i64 0, .int .i64 0] 34)) L ((hv.below bW).more bW.size (Nat.le_refl _)) (((Own.new w 3 #[.int .i64 t]).alloc _).cell 0) (by simp; omega)
  rw [latV_eq] at h
  obtain ⟨A, c, rfl, _, _⟩ := hv
  generalize (lat t l).getD (0, 0) = p at *
  generalize (lat t l).isSome = b at *
  go_enter Try.func17, Try.ntmps17
  go_wp2_with fail
  refine h.mono ?_
  rintro e w2 ⟨rfl, hb2⟩
  have z2 := hb2.size
  simp only [World.size_alloc] at z2
  have o2 := oB.below hb2 (by simp)
  have d0 : w2.cell? ⟨w.heap.size + 1, 0, none⟩ = some (.int .i64 0) := o2.cell 0
  have d1 : w2.cell? ⟨w.heap.size + 1, 1, none⟩ = some (.int .i64 0) := o2.cell 1
  have e0 := o2.free 0
  have e1 := o2.free 1
  go_wp2
  (try simp only [Exit.inBlock, Exit.then])
  refine bodyPost_ret_by (results_cell_row2 (by rfl) _ _ (w.heap.size + 1) _ (by rfl) (load_stp ((o2.store 0 _).store 1 _))) ?_ ?_
  · rfl
  refine ⟨rfl, ?_⟩
  (repeat' (first | (with_reducible exact Below.refl _ _) | (with_reducible assumption) | (with_reducible refine Below.alloc ?_ ?_ _) | (with_reducible refine Below.drew ?_) | (with_reducible refine Below.setCell ?_ ?_ _) | (with_reducible refine Below.trans ?_ (Below.mono (by assumption) ?_)) | go_size))

set_option maxRecDepth 100000 in
set_option maxHeartbeats 1600000 in
theorem rLatest_any (v : Value) (l : List (Int × Int)) (t : Int) (w : World) (L : Nat) (hv : RdP w L w.heap.size v l) :
    Calls Try.prog 18 #[v, .int .i64 t] w fun e w' => e = .returned (latV (lat t l)) ∧ Below w.heap.size w w' := by
  rw [latV_eq]
  have hv0 := hv
  obtain ⟨A, c, rfl, hlen, _⟩ := hv
  generalize hR : (lat t l).getD (0, 0) = P
  generalize hR2 : (lat t l).isSome = B
  go_enter Try.func18, Try.ntmps18
  go_wp2
  have b1 : Below w.heap.size w (w.alloc (.cells #[.int .i64 0, .int .i64 0] 34)) := (Below.refl _ _).alloc (Nat.le_refl _) _
  have bW : Below w.heap.size w ((w.alloc (.cells #[.int .i64 0, .int .i64 0] 34)).alloc (.cells #[.int .i64 0, .int .i64 0] 34)) := b1.alloc (by simp) _
  have oB : Own ((w.alloc (.cells #[.int .i64 0, .int .i64 0] 34)).alloc (.cells #[.int .i64 0, .int .i64 0] 34)) (w.heap.size + 1) 34 #[.int .i64 0, .int .i64 0] := own_two _
  have oA : Own ((w.alloc (.cells #[.int .i64 0, .int .i64 0] 34)).alloc (.cells #[.int .i64 0, .int .i64 0] 34)) w.heap.size 34 #[.int .i64 0, .int .i64 0] := (Own.new _ _ _).alloc _
  have zW := bW.size
  go_loopw [7, 13] (fun o i wr => ∃ (k : Nat) (x y : Int) (b : Bool), k ≤ l.length ∧ i = .int .i64 k ∧ o = .bool b ∧ Hid (((lat t (l.take k)).getD (0, 0), (lat t (l.take k)).isSome) = ((x, y), b)) ∧ Own wr w.heap.size 34 #[.int .i64 0, .int .i64 0] ∧ Own wr (w.heap.size + 1) 34 #[.int .i64 x, .int .i64 y] ∧ Below w.heap.size w wr) (fun _ i _ => l.length - (intOf i).toNat)
  case atStart => exact ⟨0, 0, 0, false, by omega, rfl, rfl, Lib.hid rfl, oA, oB, bW⟩
  case round =>
    obtain ⟨k, x, y, b, hk, rfl, rfl, hL, hA, hO, hbr⟩ := hrel
    clear oA oB bW zW b1
    have hbz := hbr.size
    have hgl := hO.lt
    have d0 : wr.cell? ⟨w.heap.size + 1, 0, none⟩ = some (.int .i64 x) := hO.cell 0
    have d1 : wr.cell? ⟨w.heap.size + 1, 1, none⟩ = some (.int .i64 y) := hO.cell 1
    have e0 := hO.free 0
    have e1 := hO.free 1
    by_cases hlt : k < l.length
    · have hx := List.getElem?_eq_getElem hlt
      generalize l[k] = p at hx
      obtain ⟨a, r⟩ := p
      obtain ⟨ad, rfl, _, hab, c0, c1⟩ := (hv0.below hbr).at hx
      dsimp only at c0 c1
      have i2 : (0 : Int) ≤ (k : Int) := by omega
      have i3 : (k : Int) < (l.length : Int) := by omega
      by_cases hat : a ≤ t
      · have hE : Hid (((lat t (l.take (k + 1))).getD (0, 0), (lat t (l.take (k + 1))).isSome) = ((a, r), true)) := Lib.hid (by rw [lat_yes hx hat]; rfl)
        clear hx hL
        go_wp2
        go_roundw
        case rel => exact ⟨k + 1, a, r, true, by omega, by go_num, rfl, hE, ((hA.far (by simp) _).far (by simp) _).alloc _, ((hO.store 0 _).store 1 _).alloc _, hbr.trans (by (repeat' (first | (with_reducible exact Below.refl _ _) | (with_reducible assumption) | (with_reducible refine Below.alloc ?_ ?_ _) | (with_reducible refine Below.drew ?_) | (with_reducible refine Below.setCell ?_ ?_ _) | (with_reducible refine Below.trans ?_ (Below.mono (by assumption) ?_)) | go_size)))⟩
        case measure => simp [intOf]; omega
      · have hE : Hid (((lat t (l.take (k + 1))).getD (0, 0), (lat t (l.take (k + 1))).isSome) = ((x, y), b)) := Lib.hid (by rw [lat_no hx hat]; exact hL.out)
        clear hx hL
        go_wp2
        go_roundw
        case rel => exact ⟨k + 1, x, y, b, by omega, by go_num, rfl, hE, hA.alloc _, hO.alloc _, hbr.trans (by (repeat' (first | (with_reducible exact Below.refl _ _) | (with_reducible assumption) | (with_reducible refine Below.alloc ?_ ?_ _) | (with_reducible refine Below.drew ?_) | (with_reducible refine Below.setCell ?_ ?_ _) | (with_reducible refine Below.trans ?_ (Below.mono (by assumption) ?_)) | go_size)))⟩
        case measure => simp [intOf]; omega
    · have hd : ¬ (k : Int) < l.length := by omega
      have hE := hL.out
      rw [lat_all (by omega), hR, hR2] at hE
      obtain rfl : P = (x, y) := congrArg Prod.fst hE
      obtain rfl : B = b := congrArg Prod.snd hE
      clear hE hL hR hR2
      have g0 : wr.cell? ⟨w.heap.size, 0, none⟩ = some (.int .i64 0) := hA.cell 0
      have g1 : wr.cell? ⟨w.heap.size, 1, none⟩ = some (.int .i64 0) := hA.cell 1
      have j0 := hA.free 0
      have j1 := hA.free 1
      go_wp2
      (try simp only [Exit.inBlock, Exit.then])
      refine bodyPost_ret_by (results_cell_row2 (by rfl) _ _ w.heap.size _ (by rfl) (load_stp ((hA.store 0 _).store 1 _))) ?_ ?_
      · rfl
      refine ⟨rfl, hbr.trans ?_⟩
      (repeat' (first | (with_reducible exact Below.refl _ _) | (with_reducible assumption) | (with_reducible refine Below.alloc ?_ ?_ _) | (with_reducible refine Below.drew ?_) | (with_reducible refine Below.setCell ?_ ?_ _) | (with_reducible refine Below.trans ?_ (Below.mono (by assumption) ?_)) | go_size))
end Go.Proofs.Ytonhlejeedhpiaa
