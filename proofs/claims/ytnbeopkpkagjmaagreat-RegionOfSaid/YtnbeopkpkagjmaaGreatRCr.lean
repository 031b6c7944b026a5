import Derived.Test.YtnbeopkpkagjmaaGreatRL
import Derived.Test.YtnbeopkpkagjmaaGreatSH
import Derived.Laws.OwnMore
import Derived.Shelf.Spec.SlicesGrow
import Derived.WalkKit
import Derived.WalkSpells
import Derived.WalkLawsBesides
import Derived.Deep.QuietTactic
import Derived.BigQuiet
import Derived.Handy
import Derived.Lib.Hide
/-
  slices.Concat over two rows of rectangles. Conditions: at most a million bounds each.
-/
namespace Go.Proofs.YtnbeopkpkagjmaaGreat
set_option maxRecDepth 100000
set_option linter.unusedVariables false
set_option linter.unusedSimpArgs false
open Go.RowKit

theorem append_rdR {ops : Array Oper} {rest : List Oper} {o : Oper} {a : Act} {Q : Exit → Act → World → Prop} (W : World) (hgd : o.guard = none) (s x : Operand)
    (ho : o.op = .call { callee := .builtin .append, args := #[s, x], argTypes := #[22, 22] }) (base : Nat) (v : Value) (l : List Rc) (hs : a.eval s = v)
    (hown : W.ownsRow base 35 4 v l.length (flatR l)) (L B : Nat) (A : Option Addr) (m : List Rc) (n c : Nat) (hx : a.eval x = .slice A n c) (hr : RdR W L B (.slice A n c) m)
    (hl : l.length + m.length ≤ 1000000000) (hbase : base ≤ W.heap.size)
    (h : ∀ v' w', w'.ownsRow base 35 4 v' (l ++ m).length (flatR (l ++ m)) → Below base W w' → wpList Tryz.prog ops Q rest (a.put o.dst v') w') :
    wpList Tryz.prog ops Q (o :: rest) a W := by
  refine wpList_plain hgd fun K hK => ?_
  have hs2 := step_append_rcs (K := K) (Q := Q) (E := False) (ops := ops) W hgd s x ho base v l hs hown L B A m n c hx hr hl hbase (fun v' w' h1 h2 _ => hK _ _ (h v' w' h1 h2))
  rwa [if_pos (show Region.wanted o (yielded ops a.tmps) = true by simp [Region.wanted, hgd])] at hs2
/-- What slices.Grow leaves: an empty row of the call's own. -/
theorem grow_rc (n : Nat) (w : World) (hn : n ≤ 3000000) :
    Calls Tryz.prog 60 #[.slice none 0 0, .int .i64 n] w fun e w' => ∃ v, e = .returned v ∧ w'.ownsRow w.heap.size 35 4 v ([] : List Rc).length (flatR []) ∧ Below w.heap.size w w' := by
  rcases Nat.eq_zero_or_pos n with rfl | hpos
  · refine Calls.mono (Any8.slices_Grow_room Tryz.growRc none 0 0 0 w (by omega) (by omega) (by omega) (by omega)) ?_
    rintro e w' ⟨rfl, rfl⟩
    exact ⟨_, rfl, own_nilR _ _, Below.refl _ _⟩
  · obtain ⟨i0, hi, hz0, hz1, hz2⟩ := info_parts infoRect
    have h := Any8.slices_Grow_grow Tryz.growRc i0 (.agg #[.int .i64 0, .int .i64 0, .int .i64 0, .int .i64 0]) hi hz0 (by omega) none 0 0 n [] w (by omega) (by omega) (by rw [hz2]; omega) (by omega) (by simp) (fun _ => rfl) (fun _ h => by cases h)
    refine Calls.mono h ?_
    rintro e w' ⟨rfl, rfl⟩
    have hge := grownCap_ge w (0 + n) 0 (Tryz.growRc_ren.t 25)
    have hcm := grownCap_le_maxLen w (0 + n) 0 (Tryz.growRc_ren.t 25) (by unfold maxLen; omega)
    refine ⟨_, rfl, ⟨rfl, .inr ⟨w.heap.size, _, _, rfl, Nat.le_refl _, heap_alloc_new w.drew _, Nat.zero_le _, hcm, ?_, by simp [flatR]⟩⟩, (Below.drew (Below.refl _ _)).alloc (by simp) _⟩
    simp only [Array.size_append, List.size_toArray, size_zeroCells, List.length_nil]
    have hz : (Value.agg #[.int .i64 0, .int .i64 0, .int .i64 0, .int .i64 0]).cells.size = 4 := rfl
    rw [hz]
    generalize grownCap w (0 + n) 0 (Tryz.growRc_ren.t 25) = G at *
    omega

def cat2R (l m : List Rc) (k : Nat) : List Rc := if k = 0 then [] else if k = 1 then l else l ++ m
def siz2R (l m : List Rc) (k : Nat) : Nat := if k = 0 then 0 else if k = 1 then l.length else l.length + m.length
theorem cat2R_len (l m : List Rc) (k : Nat) : (cat2R l m k).length ≤ l.length + m.length := by
  unfold cat2R
  split
  · simp
  · split
    · omega
    · rw [List.length_append]; omega
def RetOwnR (w : World) (l : List Rc) (e : Ending) (w' : World) : Prop := ∃ v, e = .returned v ∧ w'.ownsRow w.heap.size 35 4 v l.length (flatR l) ∧ Below w.heap.size w w'
set_option maxRecDepth 100000 in
set_option maxHeartbeats 1600000 in
theorem concatR_any (u v : Value) (l m : List Rc) (g : Nat) (w : World) (L L' : Nat) (hg : g < w.heap.size) (h0 : w.cell? ⟨g, 0, none⟩ = some u) (h1 : w.cell? ⟨g, 1, none⟩ = some v) (hu : RdR w L w.heap.size u l) (hv : RdR w L' w.heap.size v m) (hl : l.length ≤ 1000000) (hm : m.length ≤ 1000000) :
    Calls Tryz.prog 38 #[.slice (some ⟨g, 0, none⟩) 2 2] w (RetOwnR w (l ++ m)) := by
  have hu0 := hu
  have hv0 := hv
  obtain ⟨A, c, rfl, hl63, _⟩ := hu
  obtain ⟨A2, c2, rfl, hm63, _⟩ := hv
  go_enter Tryz.func38, Tryz.ntmps38
  go_wp2
  go_loopw [3, 11] (fun o i wr => ∃ k : Nat, k ≤ 2 ∧ i = .int .i64 k ∧ o = .int .i64 (siz2R l m k : Nat) ∧ w = wr) (fun _ i _ => 2 - (intOf i).toNat)
  case atStart => exact ⟨0, by omega, rfl, rfl, rfl⟩
  case round =>
    obtain ⟨k, hk, rfl, rfl, rfl⟩ := hrel
    have h3 : k = 0 ∨ k = 1 ∨ k = 2 := by omega
    rcases h3 with rfl | rfl | rfl
    · have e0 : siz2R l m 0 = 0 := rfl
      rw [e0]
      have hsz : ¬ ((l.length : Int) < 0) := by omega
      go_wp2
      go_roundw
      case rel => exact ⟨1, by omega, by go_num, by simp [siz2R], by first | trivial | rfl⟩
      case measure => simp [intOf]
    · have e0 : siz2R l m 1 = l.length := rfl
      rw [e0]
      have hsz : ¬ (((l.length : Int) + (m.length : Int)) < 0) := by omega
      go_wp2
      go_roundw
      case rel => exact ⟨2, by omega, by go_num, by simp [siz2R], by first | trivial | rfl⟩
      case measure => simp [intOf]
    · have e0 : siz2R l m 2 = l.length + m.length := rfl
      rw [e0]
      go_wp2_with fail
      refine (grow_rc (l.length + m.length) _ (by omega)).mono ?_
      rintro e w1 ⟨v1, rfl, hown1, hb1⟩
      have H1 := Lib.hid hown1
      clear hown1
      have z1 := hb1.size
      have c0 := (hb1.cell (p := ⟨g, 0, none⟩) hg).trans h0
      have c1 := (hb1.cell (p := ⟨g, 1, none⟩) hg).trans h1
      go_wp2
      go_loopw [6, 27] (fun o i wi => ∃ k : Nat, k ≤ 2 ∧ i = .int .i64 k ∧ wi.ownsRow w.heap.size 35 4 o (cat2R l m k).length (flatR (cat2R l m k)) ∧ Below w.heap.size w wi) (fun _ i _ => 2 - (intOf i).toNat)
      case atStart => exact ⟨0, by omega, rfl, H1.out, hb1⟩
      case round =>
        obtain ⟨k, hk, rfl, hown, hbr⟩ := hrel
        have HO := Lib.hid hown
        clear hown c0 c1
        have hz := hbr.size
        have c0 := (hbr.cell (p := ⟨g, 0, none⟩) hg).trans h0
        have c1 := (hbr.cell (p := ⟨g, 1, none⟩) hg).trans h1
        have h3 : k = 0 ∨ k = 1 ∨ k = 2 := by omega
        rcases h3 with rfl | rfl | rfl
        · have e1 : cat2R l m 0 = [] := rfl
          rw [e1] at HO
          go_wp2_with (at_builtin; refine append_rdR _ rfl _ _ rfl w.heap.size _ [] rfl HO.out L w.heap.size _ l _ _ rfl (hu0.below hbr) ?_ ?_ ?_; (focus (simp; omega)); (focus go_size); intro v2 w2 hown2 hb2)
          go_roundw
          case rel => exact ⟨1, by omega, by go_num, by rw [show cat2R l m 1 = [] ++ l from rfl]; exact hown2, hbr.trans hb2⟩
          case measure => simp [intOf]
        · have e1 : cat2R l m 1 = l := rfl
          rw [e1] at HO
          go_wp2_with (at_builtin; refine append_rdR _ rfl _ _ rfl w.heap.size _ l rfl HO.out L' w.heap.size _ m _ _ rfl (hv0.below hbr) ?_ ?_ ?_; (focus omega); (focus go_size); intro v2 w2 hown2 hb2)
          go_roundw
          case rel => exact ⟨2, by omega, by go_num, by rw [show cat2R l m 2 = l ++ m from rfl]; exact hown2, hbr.trans hb2⟩
          case measure => simp [intOf]
        · have e1 : cat2R l m 2 = l ++ m := rfl
          rw [e1] at HO
          go_wp2
          go_ret
          exact ⟨_, rfl, HO.out, hbr⟩
end Go.Proofs.YtnbeopkpkagjmaaGreat
