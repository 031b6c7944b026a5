import Derived.Test.YtnbeopkpkagjmaaGreatRF
import Derived.Test.YtnbeopkpkagjmaaGreatSB
import Derived.Test.YtnbeopkpkagjmaaGreatSH
import Derived.Shelf.SlSortCmp.WholeK
import Derived.Shelf.SlSortCmp.NoneTotal
import Derived.WalkKit
import Derived.WalkSpells
import Derived.WalkLawsBesides
import Derived.Deep.QuietTactic
import Derived.BigQuiet
import Derived.Handy
import Derived.Lib.Hide
import Derived.Shelf.Spec.SlicesGrow
/-
  slices.SortFunc over bounds of rectangles: a permutation, ascending by the instant. Conditions: at most a million bounds.
-/
namespace Go.Proofs.YtnbeopkpkagjmaaGreat
set_option maxRecDepth 100000
set_option linter.unusedVariables false
set_option linter.unusedSimpArgs false
open Go.RowKit Go.Sort Go.Lib

def cfO (x y : Bo) : Int := Lib.compareInt x.1 y.1
theorem ltO (x y : Bo) : ltOf cfO x y = decide (x.1 < y.1) := by
  unfold ltOf cfO Lib.compareInt
  by_cases h1 : x.1 < y.1
  · simp [h1]
  · by_cases h2 : y.1 < x.1 <;> simp [h1, h2]
theorem swoO : SWO (ltOf cfO) where
  irrefl x := by rw [ltO]; simp
  trans x y z h1 h2 := by rw [ltO] at *; simp at *; omega
  ntrans x y z h1 h2 := by rw [ltO] at *; simp at *; omega

set_option maxHeartbeats 1000000 in
theorem closureO (x y : Bo) (W : World) : Calls Tryz.prog 76 #[.agg (encO x).toArray, .agg (encO y).toArray] W fun e w' => e = .returned (.int .i64 (cfO x y)) ∧ ∃ q os', w' = grow (W.drewN q) os' := by
  obtain ⟨x1, x2, x3, x4, x5⟩ := x
  obtain ⟨y1, y2, y3, y4, y5⟩ := y
  unfold encO cfO
  have hcon := fun W' => Tryz.cmp_Compare_int x1 y1 W'
  dsimp only
  generalize Lib.compareInt x1 y1 = r at hcon ⊢
  go_enter Tryz.func76, Tryz.ntmps76
  go_wp2_with (go_at_call 68; refine (hcon _).mono ?_; rintro e w' ⟨rfl, rfl⟩)
  go_ret
  exact ⟨rfl, 0, _, by rw [alloc_eq_grow, alloc_eq_grow, grow_grow]; rfl⟩

theorem holds_of_ownO {w : World} {base g c : Nat} {l : List Bo} (h : w.ownsRow base 78 5 (.slice (some ⟨g, 0, none⟩) l.length c) l.length (flatO l)) : HoldsK encO 5 w g 0 l.toArray := by
  intro j hj
  have hjl : j < l.length * 5 := by simpa using hj
  have h1 := World.ownsRow.cellAt h j hjl
  have h2 := World.ownsRow.frozenAt h j
  rw [Nat.zero_add]
  refine ⟨?_, h2⟩
  rw [h1, get_flatK _ _ _ _ (by simpa using hjl)]
  have hk : j / 5 < l.length := by omega
  have hp := List.getElem?_eq_getElem hk
  obtain ⟨g0, g1, g2, g3, g4⟩ := flatO_get l (j / 5) _ hp
  have e0 : l.toArray[j / 5]! = l[j / 5] := by rw [getElem!_pos _ _ (by simpa using hk)]; simp
  rw [e0]
  have h3 : j % 5 = 0 ∨ j % 5 = 1 ∨ j % 5 = 2 ∨ j % 5 = 3 ∨ j % 5 = 4 := by omega
  rcases h3 with h0 | h0 | h0 | h0 | h0
  · have e : j / 5 * 5 = j := by omega
    rw [e] at g0; rw [g0, h0]; rfl
  · have e : j / 5 * 5 + 1 = j := by omega
    rw [e] at g1; rw [g1, h0]; rfl
  · have e : j / 5 * 5 + 2 = j := by omega
    rw [e] at g2; rw [g2, h0]; rfl
  · have e : j / 5 * 5 + 3 = j := by omega
    rw [e] at g3; rw [g3, h0]; rfl
  · have e : j / 5 * 5 + 4 = j := by omega
    rw [e] at g4; rw [g4, h0]; rfl
theorem rd_of_holdsO {w : World} {base g c : Nat} {d : Array Bo} (h : HoldsK encO 5 w g 0 d) (hb : base ≤ g) (hg : g < w.heap.size) (hl : d.size ≤ 9223372036854775807) : RdO w base w.heap.size (.slice (some ⟨g, 0, none⟩) d.size c) d.toList := by
  refine ⟨some ⟨g, 0, none⟩, c, by simp, by simpa using hl, fun k p hk => ⟨⟨g, 0, none⟩, rfl, hb, hg, ?_⟩⟩
  obtain ⟨hk1, rfl⟩ := List.getElem?_eq_some_iff.1 hk
  have hk2 : k < d.size := by simpa using hk1
  have e0 : d[k]! = d.toList[k] := by rw [getElem!_pos d k hk2]; simp
  have c0 := (HoldsK.cell h hk2 (show 0 < 5 by omega)).1
  have c1 := (HoldsK.cell h hk2 (show 1 < 5 by omega)).1
  have c2 := (HoldsK.cell h hk2 (show 2 < 5 by omega)).1
  have c3 := (HoldsK.cell h hk2 (show 3 < 5 by omega)).1
  have c4 := (HoldsK.cell h hk2 (show 4 < 5 by omega)).1
  rw [e0] at c0 c1 c2 c3 c4
  rw [plain_add, plain_add, plain_add, plain_add, plain_add]
  rw [Nat.zero_add] at c0 c1 c2 c3 c4
  exact ⟨c0, c1, c2, c3, c4⟩

/-- What slices.SortFunc leaves behind. -/
def SortedO (w : World) (base : Nat) (v : Value) (l : List Bo) (e : Ending) (w' : World) : Prop :=
  e = .returned (.tuple #[]) ∧ ∃ D : List Bo, D.Perm l ∧ D.Pairwise (fun x y => x.1 ≤ y.1) ∧ RdO w' base w'.heap.size v D ∧ Below base w w'
theorem sort_bo (v : Value) (l : List Bo) (w : World) (base : Nat) (hown : w.ownsRow base 78 5 v l.length (flatO l)) (hlen : l.length ≤ 1000000) :
    Calls Tryz.prog 75 #[v, .func (.func 76) #[] #[]] w (SortedO w base v l) := by
  rcases own_get hown with ⟨rfl, h0⟩ | ⟨g, c, rfl, hb, hg, hnc, _⟩
  · obtain rfl := List.eq_nil_of_length_eq_zero h0
    have h := AnyF.slices_SortFunc_none { Tryz.sortBo with } none 0 (.func (.func 76) #[] #[]) w
    refine Calls.mono h ?_
    rintro e w' ⟨rfl, rfl⟩
    exact ⟨rfl, [], List.Perm.refl _, List.Pairwise.nil, ⟨none, 0, rfl, by simp, by simp⟩, Below.refl _ _⟩
  · have hH := holds_of_ownO hown
    have eg : ∀ args w, (callFunc 76 args).run Tryz.prog w = .ok (.enter 76 args) w := enters_of Tryz.func76 (by kernel_rfl) rfl
    have h := AnyQ.slices_SortFunc Tryz.sortBo 5 Tryz.isAgg78 Tryz.sizeOf78 encO (fun _ => rfl) (fun x v hv => by simp [encO] at hv; rcases hv with rfl | rfl | rfl | rfl | rfl <;> rfl) cfO swoO 76 #[] g 0 c l.toArray w eg (fun _ _ _ _ x y => closureO x y _) hH hg (by simp; omega)
    refine Calls.mono h ?_
    rintro e w' ⟨rfl, d', n, os, hp, hs, rfl⟩
    have hsz : d'.size = l.length := by simpa using hp.1
    refine ⟨rfl, d'.toList, ?_, ?_, ?_, (below_sortWorld encO 5 w g 0 n d' os hg).mono hb⟩
    · have h2 := hp.2.2
      have e1 : d'.extract 0 l.toArray.size = d' := by rw [show l.toArray.size = d'.size by simpa using hsz.symm]; exact Array.extract_size
      have e2 : l.toArray.extract 0 l.toArray.size = l.toArray := Array.extract_size
      rw [e1, e2] at h2
      simpa using h2
    · rw [List.pairwise_iff_getElem]
      intro i j hi hj hij
      have h3 := hs i j (Nat.zero_le _) hij (by simp at hj ⊢; omega)
      rw [ltO, getElem!_pos _ _ (by simpa using hj), getElem!_pos _ _ (by simpa using hi)] at h3
      simp at h3 ⊢
      omega
    · have h4 := rd_of_holdsO (c := c) (holdsK_sortWorldK_c encO 5 w g 0 l.toArray d' n os hH hg (by simpa using hsz)) hb (Nat.lt_of_lt_of_le hg (size_sortWorldK_c encO 5 w g 0 n d' os)) (by omega)
      rw [hsz] at h4
      exact h4
end Go.Proofs.YtnbeopkpkagjmaaGreat
/-
  slices.Concat over two rows of bounds of rectangles. Conditions: at most a million bounds each.
-/
namespace Go.Proofs.YtnbeopkpkagjmaaGreat
set_option maxRecDepth 100000
set_option linter.unusedVariables false
set_option linter.unusedSimpArgs false
open Go.RowKit

/-- What slices.Grow leaves: an empty row of the call's own. -/
theorem grow_bo (n : Nat) (w : World) (hn : n ≤ 3000000) :
    Calls Tryz.prog 87 #[.slice none 0 0, .int .i64 n] w fun e w' => ∃ v, e = .returned v ∧ w'.ownsRow w.heap.size 78 5 v ([] : List Bo).length (flatO []) ∧ Below w.heap.size w w' := by
  rcases Nat.eq_zero_or_pos n with rfl | hpos
  · refine Calls.mono (Any8.slices_Grow_room Tryz.growBo none 0 0 0 w (by omega) (by omega) (by omega) (by omega)) ?_
    rintro e w' ⟨rfl, rfl⟩
    exact ⟨_, rfl, own_nilO _ _, Below.refl _ _⟩
  · obtain ⟨i0, hi, hz0, hz1, hz2⟩ := info_parts infoBo
    have h := Any8.slices_Grow_grow Tryz.growBo i0 (.agg #[.int .i64 0, .int .i64 0, .bool false, .int .i64 0, .int .i64 0]) hi hz0 (by omega) none 0 0 n [] w (by omega) (by omega) (by rw [hz2]; omega) (by omega) (by simp) (fun _ => rfl) (fun _ h => by cases h)
    refine Calls.mono h ?_
    rintro e w' ⟨rfl, rfl⟩
    have hge := grownCap_ge w (0 + n) 0 (Tryz.growBo_ren.t 25)
    have hcm := grownCap_le_maxLen w (0 + n) 0 (Tryz.growBo_ren.t 25) (by unfold maxLen; omega)
    refine ⟨_, rfl, ⟨rfl, .inr ⟨w.heap.size, _, _, rfl, Nat.le_refl _, heap_alloc_new w.drew _, Nat.zero_le _, hcm, ?_, by simp [flatO]⟩⟩, (Below.drew (Below.refl _ _)).alloc (by simp) _⟩
    simp only [Array.size_append, List.size_toArray, size_zeroCells, List.length_nil]
    have hz : (Value.agg #[.int .i64 0, .int .i64 0, .bool false, .int .i64 0, .int .i64 0]).cells.size = 5 := rfl
    rw [hz]
    generalize grownCap w (0 + n) 0 (Tryz.growBo_ren.t 25) = G at *
    omega

def cat2O (l m : List Bo) (k : Nat) : List Bo := if k = 0 then [] else if k = 1 then l else l ++ m
def siz2O (l m : List Bo) (k : Nat) : Nat := if k = 0 then 0 else if k = 1 then l.length else l.length + m.length
theorem cat2O_len (l m : List Bo) (k : Nat) : (cat2O l m k).length ≤ l.length + m.length := by
  unfold cat2O
  split
  · simp
  · split
    · omega
    · rw [List.length_append]; omega
def RetOwnO (w : World) (l : List Bo) (e : Ending) (w' : World) : Prop := ∃ v, e = .returned v ∧ w'.ownsRow w.heap.size 78 5 v l.length (flatO l) ∧ Below w.heap.size w w'
set_option maxRecDepth 100000 in
set_option maxHeartbeats 1600000 in
theorem concatO_any (u v : Value) (l m : List Bo) (g : Nat) (w : World) (L L' : Nat) (hg : g < w.heap.size) (h0 : w.cell? ⟨g, 0, none⟩ = some u) (h1 : w.cell? ⟨g, 1, none⟩ = some v) (hu : RdO w L w.heap.size u l) (hv : RdO w L' w.heap.size v m) (hl : l.length ≤ 1000000) (hm : m.length ≤ 1000000) :
    Calls Tryz.prog 73 #[.slice (some ⟨g, 0, none⟩) 2 2] w (RetOwnO w (l ++ m)) := by
  have hu0 := hu
  have hv0 := hv
  obtain ⟨A, c, rfl, hl63, _⟩ := hu
  obtain ⟨A2, c2, rfl, hm63, _⟩ := hv
  go_enter Tryz.func73, Tryz.ntmps73
  go_wp2
  go_loopw [3, 11] (fun o i wr => ∃ k : Nat, k ≤ 2 ∧ i = .int .i64 k ∧ o = .int .i64 (siz2O l m k : Nat) ∧ w = wr) (fun _ i _ => 2 - (intOf i).toNat)
  case atStart => exact ⟨0, by omega, rfl, rfl, rfl⟩
  case round =>
    obtain ⟨k, hk, rfl, rfl, rfl⟩ := hrel
    have h3 : k = 0 ∨ k = 1 ∨ k = 2 := by omega
    rcases h3 with rfl | rfl | rfl
    · have e0 : siz2O l m 0 = 0 := rfl
      rw [e0]
      have hsz : ¬ ((l.length : Int) < 0) := by omega
      go_wp2
      go_roundw
      case rel => exact ⟨1, by omega, by go_num, by simp [siz2O], by first | trivial | rfl⟩
      case measure => simp [intOf]
    · have e0 : siz2O l m 1 = l.length := rfl
      rw [e0]
      have hsz : ¬ (((l.length : Int) + (m.length : Int)) < 0) := by omega
      go_wp2
      go_roundw
      case rel => exact ⟨2, by omega, by go_num, by simp [siz2O], by first | trivial | rfl⟩
      case measure => simp [intOf]
    · have e0 : siz2O l m 2 = l.length + m.length := rfl
      rw [e0]
      go_wp2_with fail
      refine (grow_bo (l.length + m.length) _ (by omega)).mono ?_
      rintro e w1 ⟨v1, rfl, hown1, hb1⟩
      have H1 := Lib.hid hown1
      clear hown1
      have z1 := hb1.size
      have c0 := (hb1.cell (p := ⟨g, 0, none⟩) hg).trans h0
      have c1 := (hb1.cell (p := ⟨g, 1, none⟩) hg).trans h1
      go_wp2
      go_loopw [6, 27] (fun o i wi => ∃ k : Nat, k ≤ 2 ∧ i = .int .i64 k ∧ wi.ownsRow w.heap.size 78 5 o (cat2O l m k).length (flatO (cat2O l m k)) ∧ Below w.heap.size w wi) (fun _ i _ => 2 - (intOf i).toNat)
      case atStart => exact ⟨0, by omega, rfl, H1.out, hb1⟩
      case round =>
        obtain ⟨k, hk, rfl, hown, hbr⟩ := hrel
        have HO := Lib.hid hown
        clear hown c0 c1
        have hz := hbr.size
        have c0 := (hbr.cell (p := ⟨g, 0, none⟩) hg).trans h0
        have c1 := (hbr.cell (p := ⟨g, 1, none⟩) hg).trans h1
        have h3 : k = 0 ∨ k = 1 ∨ k = 2 := by omega
        rcases h3 with rfl | rfl | rfl
        · have e1 : cat2O l m 0 = [] := rfl
          rw [e1] at HO
          go_wp2_with (at_builtin; refine append_rdO _ rfl _ _ rfl w.heap.size _ [] rfl HO.out L w.heap.size _ l _ _ rfl (hu0.below hbr) ?_ ?_ ?_; (focus (simp; omega)); (focus go_size); intro v2 w2 hown2 hb2)
          go_roundw
          case rel => exact ⟨1, by omega, by go_num, by rw [show cat2O l m 1 = [] ++ l from rfl]; exact hown2, hbr.trans hb2⟩
          case measure => simp [intOf]
        · have e1 : cat2O l m 1 = l := rfl
          rw [e1] at HO
          go_wp2_with (at_builtin; refine append_rdO _ rfl _ _ rfl w.heap.size _ l rfl HO.out L' w.heap.size _ m _ _ rfl (hv0.below hbr) ?_ ?_ ?_; (focus omega); (focus go_size); intro v2 w2 hown2 hb2)
          go_roundw
          case rel => exact ⟨2, by omega, by go_num, by rw [show cat2O l m 2 = l ++ m from rfl]; exact hown2, hbr.trans hb2⟩
          case measure => simp [intOf]
        · have e1 : cat2O l m 2 = l ++ m := rfl
          rw [e1] at HO
          go_wp2
          go_ret
          exact ⟨_, rfl, HO.out, hbr⟩
end Go.Proofs.YtnbeopkpkagjmaaGreat
