import Derived.Test.YtbpjgipldddcfaaGB
import Derived.Test.YtbpjgipldddcfaaGH
import Derived.Shelf.SlSortCmp.WholeK
import Derived.Shelf.SlSortCmp.NoneTotal
import Derived.WalkKit
import Derived.WalkSpells
import Derived.WalkLawsBesides
import Derived.Deep.QuietTactic
import Derived.BigQuiet
import Derived.Handy
import Derived.Lib.Hide
import Derived.Shelf.Spec.SlicesGrow
/-
  slices.SortFunc over bounds: a permutation, ascending by the instant. Conditions: at most a million bounds.
-/
namespace Go.Proofs.Ytbpjgipldddcfaa
set_option maxRecDepth 100000
set_option linter.unusedVariables false
set_option linter.unusedSimpArgs false
open Go.RowKit Go.Sort Go.Lib

def cfB (x y : Bd) : Int := Lib.compareInt x.1 y.1
theorem ltB (x y : Bd) : ltOf cfB x y = decide (x.1 < y.1) := by
  unfold ltOf cfB Lib.compareInt
  by_cases h1 : x.1 < y.1
  · simp [h1]
  · by_cases h2 : y.1 < x.1 <;> simp [h1, h2]
theorem swoB : SWO (ltOf cfB) where
  irrefl x := by rw [ltB]; simp
  trans x y z h1 h2 := by rw [ltB] at *; simp at *; omega
  ntrans x y z h1 h2 := by rw [ltB] at *; simp at *; omega

set_option maxHeartbeats 1000000 in
theorem closureB (x y : Bd) (W : World) : Calls Try.prog 62 #[.agg (encB x).toArray, .agg (encB y).toArray] W fun e w' => e = .returned (.int .i64 (cfB x y)) ∧ ∃ q os', w' = grow (W.drewN q) os' := by
  obtain ⟨x1, x2, x3⟩ := x
  obtain ⟨y1, y2, y3⟩ := y
  unfold encB cfB
  have hcon := fun W' => Try.cmp_Compare_int x1 y1 W'
  dsimp only
  generalize Lib.compareInt x1 y1 = r at hcon ⊢
  go_enter Try.func62, Try.ntmps62
  go_wp2_with (go_at_call 63; refine (hcon _).mono ?_; rintro e w' ⟨rfl, rfl⟩)
  go_ret
  exact ⟨rfl, 0, _, by rw [alloc_eq_grow, alloc_eq_grow, grow_grow]; rfl⟩

theorem below_sortWorld {α : Type} [Inhabited α] (enc : α → List Value) (k : Nat) (w : World) (blk off n : Nat) (d : Array α) (os : Array Obj) (hblk : blk < w.heap.size) : Below blk w (sortWorldK enc k w blk off n d os) := by
  refine ⟨rfl, rfl, rfl, size_sortWorldK_c enc k w blk off n d os, fun j hj => ?_⟩
  unfold sortWorldK putRowK putRow mapBlock grow Sort.ahead
  show (w.heap.modify blk _ ++ os)[j]? = _
  rw [Array.getElem?_append_left (by rw [Array.size_modify]; omega), Array.getElem?_modify, if_neg (by omega)]

theorem holds_of_own {w : World} {base g c : Nat} {l : List Bd} (h : w.ownsRow base 77 3 (.slice (some ⟨g, 0, none⟩) l.length c) l.length (flatB l)) : HoldsK encB 3 w g 0 l.toArray := by
  intro j hj
  have hjl : j < l.length * 3 := by simpa using hj
  have h1 := World.ownsRow.cellAt h j hjl
  have h2 := World.ownsRow.frozenAt h j
  rw [Nat.zero_add]
  refine ⟨?_, h2⟩
  rw [h1, get_flatK _ _ _ _ (by simpa using hjl)]
  have hk : j / 3 < l.length := by omega
  have hp := List.getElem?_eq_getElem hk
  obtain ⟨g0, g1, g2⟩ := flatB_get l (j / 3) _ hp
  have e0 : l.toArray[j / 3]! = l[j / 3] := by rw [getElem!_pos _ _ (by simpa using hk)]; simp
  rw [e0]
  have h3 : j % 3 = 0 ∨ j % 3 = 1 ∨ j % 3 = 2 := by omega
  rcases h3 with h0 | h0 | h0
  · have e : j / 3 * 3 = j := by omega
    rw [e] at g0; rw [g0, h0]; rfl
  · have e : j / 3 * 3 + 1 = j := by omega
    rw [e] at g1; rw [g1, h0]; rfl
  · have e : j / 3 * 3 + 2 = j := by omega
    rw [e] at g2; rw [g2, h0]; rfl
theorem rd_of_holds {w : World} {base g c : Nat} {d : Array Bd} (h : HoldsK encB 3 w g 0 d) (hb : base ≤ g) (hg : g < w.heap.size) (hl : d.size ≤ 9223372036854775807) : RdB w base w.heap.size (.slice (some ⟨g, 0, none⟩) d.size c) d.toList := by
  refine ⟨some ⟨g, 0, none⟩, c, by simp, by simpa using hl, fun k p hk => ⟨⟨g, 0, none⟩, rfl, hb, hg, ?_⟩⟩
  obtain ⟨hk1, rfl⟩ := List.getElem?_eq_some_iff.1 hk
  have hk2 : k < d.size := by simpa using hk1
  have e0 : d[k]! = d.toList[k] := by rw [getElem!_pos d k hk2]; simp
  have c0 := (HoldsK.cell h hk2 (show 0 < 3 by omega)).1
  have c1 := (HoldsK.cell h hk2 (show 1 < 3 by omega)).1
  have c2 := (HoldsK.cell h hk2 (show 2 < 3 by omega)).1
  rw [e0] at c0 c1 c2
  rw [plain_add, plain_add, plain_add]
  rw [Nat.zero_add] at c0 c1 c2
  exact ⟨c0, c1, c2⟩

/-- What slices.SortFunc leaves behind. -/
def Sorted (w : World) (base : Nat) (v : Value) (l : List Bd) (e : Ending) (w' : World) : Prop :=
  e = .returned (.tuple #[]) ∧ ∃ D : List Bd, D.Perm l ∧ D.Pairwise (fun x y => x.1 ≤ y.1) ∧ RdB w' base w'.heap.size v D ∧ Below base w w'
theorem sort_bd (v : Value) (l : List Bd) (w : World) (base : Nat) (hown : w.ownsRow base 77 3 v l.length (flatB l)) (hlen : l.length ≤ 1000000) :
    Calls Try.prog 61 #[v, .func (.func 62) #[] #[]] w (Sorted w base v l) := by
  rcases own_get hown with ⟨rfl, h0⟩ | ⟨g, c, rfl, hb, hg, hnc, _⟩
  · obtain rfl := List.eq_nil_of_length_eq_zero h0
    have h := AnyF.slices_SortFunc_none { Try.sortBd with } none 0 (.func (.func 62) #[] #[]) w
    refine Calls.mono h ?_
    rintro e w' ⟨rfl, rfl⟩
    exact ⟨rfl, [], List.Perm.refl _, List.Pairwise.nil, ⟨none, 0, rfl, by simp, by simp⟩, Below.refl _ _⟩
  · have hH := holds_of_own hown
    have eg : ∀ args w, (callFunc 62 args).run Try.prog w = .ok (.enter 62 args) w := enters_of Try.func62 (by kernel_rfl) rfl
    have h := AnyQ.slices_SortFunc Try.sortBd 3 Try.isAgg77 Try.sizeOf77 encB (fun _ => rfl) (fun x v hv => by simp [encB] at hv; rcases hv with rfl | rfl | rfl <;> rfl) cfB swoB 62 #[] g 0 c l.toArray w eg (fun _ _ _ _ x y => closureB x y _) hH hg (by simp; omega)
    refine Calls.mono h ?_
    rintro e w' ⟨rfl, d', n, os, hp, hs, rfl⟩
    have hsz : d'.size = l.length := by simpa using hp.1
    refine ⟨rfl, d'.toList, ?_, ?_, ?_, (below_sortWorld encB 3 w g 0 n d' os hg).mono hb⟩
    · have h2 := hp.2.2
      have e1 : d'.extract 0 l.toArray.size = d' := by rw [show l.toArray.size = d'.size by simpa using hsz.symm]; exact Array.extract_size
      have e2 : l.toArray.extract 0 l.toArray.size = l.toArray := Array.extract_size
      rw [e1, e2] at h2
      simpa using h2
    · rw [List.pairwise_iff_getElem]
      intro i j hi hj hij
      have h3 := hs i j (Nat.zero_le _) hij (by simp at hj ⊢; omega)
      rw [ltB, getElem!_pos _ _ (by simpa using hj), getElem!_pos _ _ (by simpa using hi)] at h3
      simp at h3 ⊢
      omega
    · have h4 := rd_of_holds (c := c) (holdsK_sortWorldK_c encB 3 w g 0 l.toArray d' n os hH hg (by simpa using hsz)) hb (Nat.lt_of_lt_of_le hg (size_sortWorldK_c encB 3 w g 0 n d' os)) (by omega)
      rw [hsz] at h4
      exact h4
end Go.Proofs.Ytbpjgipldddcfaa
/-
  slices.Concat over two rows of bounds. Conditions: at most a million bounds each.
-/
namespace Go.Proofs.Ytbpjgipldddcfaa
set_option maxRecDepth 100000
set_option linter.unusedVariables false
set_option linter.unusedSimpArgs false
open Go.RowKit

/-- What slices.Grow leaves: an empty row of the call's own. -/
theorem grow_bd (n : Nat) (w : World) (hn : n ≤ 3000000) :
    Calls Try.prog 82 #[.slice none 0 0, .int .i64 n] w fun e w' => ∃ v, e = .returned v ∧ w'.ownsRow w.heap.size 77 3 v ([] : List Bd).length (flatB []) ∧ Below w.heap.size w w' := by
  rcases Nat.eq_zero_or_pos n with rfl | hpos
  · refine Calls.mono (Any8.slices_Grow_room Try.growBd none 0 0 0 w (by omega) (by omega) (by omega) (by omega)) ?_
    rintro e w' ⟨rfl, rfl⟩
    exact ⟨_, rfl, own_nilB _ _, Below.refl _ _⟩
  · obtain ⟨i0, hi, hz0, hz1, hz2⟩ := info_parts infoBd
    have h := Any8.slices_Grow_grow Try.growBd i0 (.agg #[.int .i64 0, .int .i64 0, .int .i64 0]) hi hz0 (by omega) none 0 0 n [] w (by omega) (by omega) (by rw [hz2]; omega) (by omega) (by simp) (fun _ => rfl) (fun _ h => by cases h)
    refine Calls.mono h ?_
    rintro e w' ⟨rfl, rfl⟩
    have hge := grownCap_ge w (0 + n) 0 (Try.growBd_ren.t 25)
    have hcm := grownCap_le_maxLen w (0 + n) 0 (Try.growBd_ren.t 25) (by unfold maxLen; omega)
    refine ⟨_, rfl, ⟨rfl, .inr ⟨w.heap.size, _, _, rfl, Nat.le_refl _, heap_alloc_new w.drew _, Nat.zero_le _, hcm, ?_, by simp [flatB]⟩⟩, (Below.drew (Below.refl _ _)).alloc (by simp) _⟩
    simp only [Array.size_append, List.size_toArray, size_zeroCells, List.length_nil]
    have hz : (Value.agg #[.int .i64 0, .int .i64 0, .int .i64 0]).cells.size = 3 := rfl
    rw [hz]
    generalize grownCap w (0 + n) 0 (Try.growBd_ren.t 25) = G at *
    omega

def cat2 (l m : List Bd) (k : Nat) : List Bd := if k = 0 then [] else if k = 1 then l else l ++ m
def siz2 (l m : List Bd) (k : Nat) : Nat := if k = 0 then 0 else if k = 1 then l.length else l.length + m.length
theorem cat2_len (l m : List Bd) (k : Nat) : (cat2 l m k).length ≤ l.length + m.length := by
  unfold cat2
  split
  · simp
  · split
    · omega
    · rw [List.length_append]; omega
def RetOwn (w : World) (l : List Bd) (e : Ending) (w' : World) : Prop := ∃ v, e = .returned v ∧ w'.ownsRow w.heap.size 77 3 v l.length (flatB l) ∧ Below w.heap.size w w'
set_option maxRecDepth 100000 in
set_option maxHeartbeats 1600000 in
theorem concat_any (u v : Value) (l m : List Bd) (g : Nat) (w : World) (L L' : Nat) (hg : g < w.heap.size) (h0 : w.cell? ⟨g, 0, none⟩ = some u) (h1 : w.cell? ⟨g, 1, none⟩ = some v) (hu : RdB w L w.heap.size u l) (hv : RdB w L' w.heap.size v m) (hl : l.length ≤ 1000000) (hm : m.length ≤ 1000000) :
    Calls Try.prog 59 #[.slice (some ⟨g, 0, none⟩) 2 2] w (RetOwn w (l ++ m)) := by
  have hu0 := hu
  have hv0 := hv
  obtain ⟨A, c, rfl, hl63, _⟩ := hu
  obtain ⟨A2, c2, rfl, hm63, _⟩ := hv
  go_enter Try.func59, Try.ntmps59
  go_wp2
  go_loopw [3, 11] (fun o i wr => ∃ k : Nat, k ≤ 2 ∧ i = .int .i64 k ∧ o = .int .i64 (siz2 l m k : Nat) ∧ w = wr) (fun _ i _ => 2 - (intOf i).toNat)
  case atStart => exact ⟨0, by omega, rfl, rfl, rfl⟩
  case round =>
    obtain ⟨k, hk, rfl, rfl, rfl⟩ := hrel
    have h3 : k = 0 ∨ k = 1 ∨ k = 2 := by omega
    rcases h3 with rfl | rfl | rfl
    · have e0 : siz2 l m 0 = 0 := rfl
      rw [e0]
      have hsz : ¬ ((l.length : Int) < 0) := by omega
      go_wp2
      go_roundw
      case rel => exact ⟨1, by omega, by go_num, by simp [siz2], by first | trivial | rfl⟩
      case measure => simp [intOf]
    · have e0 : siz2 l m 1 = l.length := rfl
      rw [e0]
      have hsz : ¬ (((l.length : Int) + (m.length : Int)) < 0) := by omega
      go_wp2
      go_roundw
      case rel => exact ⟨2, by omega, by go_num, by simp [siz2], by first | trivial | rfl⟩
      case measure => simp [intOf]
    · have e0 : siz2 l m 2 = l.length + m.length := rfl
      rw [e0]
      go_wp2_with fail
      refine (grow_bd (l.length + m.length) _ (by omega)).mono ?_
      rintro e w1 ⟨v1, rfl, hown1, hb1⟩
      have H1 := Lib.hid hown1
      clear hown1
      have z1 := hb1.size
      have c0 := (hb1.cell (p := ⟨g, 0, none⟩) hg).trans h0
      have c1 := (hb1.cell (p := ⟨g, 1, none⟩) hg).trans h1
      go_wp2
      go_loopw [6, 27] (fun o i wi => ∃ k : Nat, k ≤ 2 ∧ i = .int .i64 k ∧ wi.ownsRow w.heap.size 77 3 o (cat2 l m k).length (flatB (cat2 l m k)) ∧ Below w.heap.size w wi) (fun _ i _ => 2 - (intOf i).toNat)
      case atStart => exact ⟨0, by omega, rfl, H1.out, hb1⟩
      case round =>
        obtain ⟨k, hk, rfl, hown, hbr⟩ := hrel
        have HO := Lib.hid hown
        clear hown c0 c1
        have hz := hbr.size
        have c0 := (hbr.cell (p := ⟨g, 0, none⟩) hg).trans h0
        have c1 := (hbr.cell (p := ⟨g, 1, none⟩) hg).trans h1
        have h3 : k = 0 ∨ k = 1 ∨ k = 2 := by omega
        rcases h3 with rfl | rfl | rfl
        · have e1 : cat2 l m 0 = [] := rfl
          rw [e1] at HO
          go_wp2_with (at_builtin; refine append_rdB _ rfl _ _ rfl w.heap.size _ [] rfl HO.out L w.heap.size _ l _ _ rfl (hu0.below hbr) ?_ ?_ ?_; (focus (simp; omega)); (focus go_size); intro v2 w2 hown2 hb2)
          go_roundw
          case rel => exact ⟨1, by omega, by go_num, by rw [show cat2 l m 1 = [] ++ l from rfl]; exact hown2, hbr.trans hb2⟩
          case measure => simp [intOf]
        · have e1 : cat2 l m 1 = l := rfl
          rw [e1] at HO
          go_wp2_with (at_builtin; refine append_rdB _ rfl _ _ rfl w.heap.size _ l rfl HO.out L' w.heap.size _ m _ _ rfl (hv0.below hbr) ?_ ?_ ?_; (focus omega); (focus go_size); intro v2 w2 hown2 hb2)
          go_roundw
          case rel => exact ⟨2, by omega, by go_num, by rw [show cat2 l m 2 = l ++ m from rfl]; exact hown2, hbr.trans hb2⟩
          case measure => simp [intOf]
        · have e1 : cat2 l m 2 = l ++ m := rfl
          rw [e1] at HO
          go_wp2
          go_ret
          exact ⟨_, rfl, HO.out, hbr⟩
end Go.Proofs.Ytbpjgipldddcfaa
