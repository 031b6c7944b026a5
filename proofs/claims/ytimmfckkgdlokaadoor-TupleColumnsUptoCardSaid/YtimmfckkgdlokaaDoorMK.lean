import Derived.Test.YtimmfckkgdlokaaDoorMW
import Derived.Ground.Names8Prog
import Derived.Shelf.Spec.SlicesGrow
import Derived.WalkKit
import Derived.WalkSpells
import Derived.WalkLawsBesides
import Derived.Deep.QuietTactic
import Derived.BigQuiet
import Derived.Handy
import Derived.Lib.Hide
/-
  slices.Concat of two rows, tuple.Concat; the walk of the statement TupleColumns. Conditions: lengths; the tables lie as the rows say.
-/
namespace Go.Proofs.YtimmfckkgdlokaaDoor
set_option maxRecDepth 100000
open Go.RowKit

theorem grow_v (n : Nat) (w : World) (hn : n ≤ 4398046511104) :
    Calls Tryd.prog 63 #[.slice none 0 0, .int .i64 n] w fun e w' => ∃ v, e = .returned v ∧ w'.ownsRow w.heap.size 35 3 v ([] : List Vl).length (flatV []) ∧ Below w.heap.size w w' := by
  rcases Nat.eq_zero_or_pos n with rfl | hpos
  · refine Calls.mono (Any8.slices_Grow_room Tryd.growV none 0 0 0 w (by omega) (by omega) (by omega) (by omega)) ?_
    rintro e w' ⟨rfl, rfl⟩
    exact ⟨_, rfl, World.ownsRow_nil _ _ _ _, Below.refl _ _⟩
  · obtain ⟨i0, hi, hz0, hz1, hz2⟩ := info_partsB infoV
    have h := Any8.slices_Grow_grow Tryd.growV i0 (.agg #[.int .i64 0, .int .i64 0, .string ⟨#[]⟩]) hi hz0 (by omega) none 0 0 n [] w (by omega) (by omega) (by rw [hz2]; omega) (by omega) (by simp) (fun _ => rfl) (fun _ h => by cases h)
    refine Calls.mono h ?_
    rintro e w' ⟨rfl, rfl⟩
    have hge := grownCap_ge w (0 + n) 0 (Tryd.growV_ren.t 25)
    have hcm := grownCap_le_maxLen w (0 + n) 0 (Tryd.growV_ren.t 25) (by unfold maxLen; omega)
    refine ⟨_, rfl, ⟨rfl, .inr ⟨w.heap.size, _, _, rfl, Nat.le_refl _, heap_alloc_new w.drew _, Nat.zero_le _, hcm, ?_, by simp [flatV]⟩⟩, (Below.drew (Below.refl _ _)).alloc (by simp) _⟩
    simp only [Array.size_append, List.size_toArray, size_zeroCells, List.length_nil]
    have hz : (Value.agg #[.int .i64 0, .int .i64 0, .string ⟨#[]⟩]).cells.size = 3 := rfl
    rw [hz]
    generalize grownCap w (0 + n) 0 (Tryd.growV_ren.t 25) = G at *
    omega
def cat2 (l m : List Vl) (k : Nat) : List Vl := if k = 0 then [] else if k = 1 then l else l ++ m
def siz2 (l m : List Vl) (k : Nat) : Nat := if k = 0 then 0 else if k = 1 then l.length else l.length + m.length
def RetOwnV (w : World) (l : List Vl) (e : Ending) (w' : World) : Prop := ∃ v, e = .returned v ∧ w'.ownsRow w.heap.size 35 3 v l.length (flatV l) ∧ Below w.heap.size w w'
set_option maxRecDepth 100000 in
set_option maxHeartbeats 1600000 in
theorem concat2_any (u v : Value) (l m : List Vl) (g : Nat) (w : World) (hg : g < w.heap.size) (h0 : w.cell? ⟨g, 0, none⟩ = some u) (h1 : w.cell? ⟨g, 1, none⟩ = some v) (hu : RdN w 0 w.heap.size u l) (hv : RdN w 0 w.heap.size v m) (hl : l.length ≤ 1099511627776) (hm : m.length ≤ 1099511627776) :
    Calls Tryd.prog 42 #[.slice (some ⟨g, 0, none⟩) 2 2] w (RetOwnV w (l ++ m)) := by
  have HU := Lib.hid hu
  have HV := Lib.hid hv
  obtain ⟨⟨A, c, rfl, hl63, q1⟩, q2⟩ := hu
  obtain ⟨⟨A2, c2, rfl, hm63, q3⟩, q4⟩ := hv
  clear q1 q2 q3 q4
  go_enter Tryd.func42, Tryd.ntmps42
  go_wp2
  go_loopw [3, 11] (fun o i wr => ∃ k : Nat, k ≤ 2 ∧ i = .int .i64 k ∧ o = .int .i64 (siz2 l m k : Nat) ∧ w = wr) (fun _ i _ => 2 - (intOf i).toNat)
  case atStart => exact ⟨0, by omega, rfl, rfl, rfl⟩
  case round =>
    obtain ⟨k, hk, rfl, rfl, rfl⟩ := hrel
    have h3 : k = 0 ∨ k = 1 ∨ k = 2 := by omega
    rcases h3 with rfl | rfl | rfl
    · have e0 : siz2 l m 0 = 0 := rfl
      rw [e0]
      have hsz : ¬ ((l.length : Int) < 0) := by omega
      go_wp2
      go_roundw
      case rel => exact ⟨1, by omega, by go_num, by simp [siz2], by first | trivial | rfl⟩
      case measure => simp [intOf]
    · have e0 : siz2 l m 1 = l.length := rfl
      rw [e0]
      have hsz : ¬ (((l.length : Int) + (m.length : Int)) < 0) := by omega
      go_wp2
      go_roundw
      case rel => exact ⟨2, by omega, by go_num, by simp [siz2], by first | trivial | rfl⟩
      case measure => simp [intOf]
    · have e0 : siz2 l m 2 = l.length + m.length := rfl
      rw [e0]
      go_wp2_with fail
      refine (grow_v (l.length + m.length) _ (by omega)).mono ?_
      rintro e w1 ⟨v1, rfl, hown1, hb1⟩
      have H1 := Lib.hid hown1
      clear hown1
      have z1 := hb1.size
      have c0 := (hb1.cell (p := ⟨g, 0, none⟩) hg).trans h0
      have c1 := (hb1.cell (p := ⟨g, 1, none⟩) hg).trans h1
      go_wp2
      go_loopw [6, 27] (fun o i wi => ∃ k : Nat, k ≤ 2 ∧ i = .int .i64 k ∧ wi.ownsRow w.heap.size 35 3 o (cat2 l m k).length (flatV (cat2 l m k)) ∧ Below w.heap.size w wi) (fun _ i _ => 2 - (intOf i).toNat)
      case atStart => exact ⟨0, by omega, rfl, H1.out, hb1⟩
      case round =>
        obtain ⟨k, hk, rfl, hown, hbr⟩ := hrel
        have HO := Lib.hid hown
        clear hown c0 c1
        have hz := hbr.size
        have c0 := (hbr.cell (p := ⟨g, 0, none⟩) hg).trans h0
        have c1 := (hbr.cell (p := ⟨g, 1, none⟩) hg).trans h1
        have HU1 := Lib.hid (HU.out.step hbr (Nat.le_refl _))
        have HV1 := Lib.hid (HV.out.step hbr (Nat.le_refl _))
        have h3 : k = 0 ∨ k = 1 ∨ k = 2 := by omega
        rcases h3 with rfl | rfl | rfl
        · have e1 : cat2 l m 0 = [] := rfl
          rw [e1] at HO
          go_wp2_with (at_builtin; refine append_vx _ (by rfl) _ _ rfl w.heap.size _ [] rfl HO.out _ l _ _ rfl HU1.out.1 HU1.out.2 (by simp; omega) hz ?_; intro v2 w2 hown2 hb2)
          go_roundw
          case rel => exact ⟨1, by omega, by go_num, by rw [show cat2 l m 1 = [] ++ l from rfl]; exact hown2, hbr.trans hb2⟩
          case measure => simp [intOf]
        · have e1 : cat2 l m 1 = l := rfl
          rw [e1] at HO
          go_wp2_with (at_builtin; refine append_vx _ (by rfl) _ _ rfl w.heap.size _ l rfl HO.out _ m _ _ rfl HV1.out.1 HV1.out.2 (by omega) hz ?_; intro v2 w2 hown2 hb2)
          go_roundw
          case rel => exact ⟨2, by omega, by go_num, by rw [show cat2 l m 2 = l ++ m from rfl]; exact hown2, hbr.trans hb2⟩
          case measure => simp [intOf]
        · have e1 : cat2 l m 2 = l ++ m := rfl
          rw [e1] at HO
          go_wp2
          go_ret
          exact ⟨_, rfl, HO.out, hbr⟩
set_option maxRecDepth 100000 in
set_option maxHeartbeats 1600000 in
theorem pConcat_any (u v : Value) (l m : List Vl) (w : World) (hu : RdN w 0 w.heap.size u l) (hv : RdN w 0 w.heap.size v m) (hl : l.length ≤ 1099511627776) (hm : m.length ≤ 1099511627776) :
    Calls Tryd.prog 24 #[u, v] w (RetC w (l ++ m)) := by
  have b1 := bel_mark w (.cells #[u, v] 22)
  have o1 := Own.new w 22 #[u, v]
  have H := Lib.hid (concat2_any u v l m w.heap.size (w.alloc (.cells #[u, v] 22)) o1.lt (o1.cell 0) (o1.cell 1) (hu.step b1 (Nat.le_refl _)) (hv.step b1 (Nat.le_refl _)) hl hm)
  have B1 := Lib.hid b1
  obtain ⟨⟨A, c, rfl, q1⟩, q2⟩ := hu
  obtain ⟨⟨A2, c2, rfl, q3⟩, q4⟩ := hv
  have HL := Lib.hid hl
  have HM := Lib.hid hm
  clear q1 q2 q3 q4 b1 o1 hl hm
  go_enter Tryd.func24, Tryd.ntmps24
  go_wp2_with fail
  with_reducible refine H.out.mono ?_
  rintro e w1 ⟨u1, rfl, ho, hb⟩
  have hr := RdN.of_own ho (by rw [List.length_append]; have := HL.out; have := HM.out; omega)
  have HR := Lib.hid (hr.low B1.out.size)
  clear ho hr
  go_wp2
  go_ret
  exact ⟨_, rfl, HR.out, B1.out.trans (hb.mono B1.out.size)⟩
theorem infoI : (Tryd.prog.info? 3).map (fun i => (i.zero, i.size, i.bytes)) = some (some (.int .i64 0), 1, 8) := by kernel_rfl
def intsV (zs : List Int) : List Value := zs.map fun z => .int .i64 z
theorem append_i {ops : Array Oper} {rest : List Oper} {o : Oper} {a : Act} {Q : Exit → Act → World → Prop} (W : World) (hgd : o.guard = none) (s x : Operand)
    (ho : o.op = .call { callee := .builtin .append, args := #[s, x], argTypes := #[23, 23] }) (base : Nat) (vb : Value) (zs : List Int) (hs : a.eval s = vb)
    (hown : W.ownsRow base 3 1 vb zs.length (intsV zs)) (h0 c : Nat) (z : Int) (hx : a.eval x = .slice (some ⟨h0, 0, none⟩) 1 c) (hcell : W.cell? ⟨h0, 0, none⟩ = some (.int .i64 z))
    (hl : zs.length ≤ 1099511627776) (hbase : base ≤ W.heap.size)
    (h : ∀ v' w', w'.ownsRow base 3 1 v' (zs ++ [z]).length (intsV (zs ++ [z])) → Below base W w' → wpList Tryd.prog ops Q rest (a.put o.dst v') w') :
    wpList Tryd.prog ops Q (o :: rest) a W := by
  obtain ⟨i0, hi, hz0, hz1, hz2⟩ := info_partsB infoI
  refine wpList_append_own W hgd s x 23 ho base 3 i0 (.int .i64 0) 1 8 Tryd.underlying23 hi hz0 hz1 hz2 rfl (by decide) vb zs.length (intsV zs) hs hown ⟨h0, 0, none⟩ 1 c [.int .i64 z] hx rfl
    ?_ ?_ (by unfold maxLen; omega) (by omega) hbase ?_
  · intro j v hj
    have hj0 : j = 0 := by have := (List.getElem?_eq_some_iff.1 hj).1; simp at this; omega
    subst hj0
    have hv : Value.int .i64 z = v := by simpa using hj
    subst hv
    exact hcell
  · intro v hv
    simp at hv
    subst hv
    rfl
  · intro v' w' h1 h2 _
    exact h v' w' (by unfold intsV; rw [List.length_append, List.map_append]; exact h1) ((Below.refl _ _).grown h2 hbase fun k hk => (hown.lt k hk).1)
theorem rdI_own {w : World} {base : Nat} {v : Value} {zs : List Int} (h : w.ownsRow base 3 1 v zs.length (intsV zs)) (hl : zs.length ≤ 1099511627776) : RdI w 0 w.heap.size v zs := by
  have h2 := h
  obtain ⟨_, ⟨rfl, h0⟩ | ⟨g, c, cs, rfl, hbg, _⟩⟩ := h
  · obtain rfl := List.eq_nil_of_length_eq_zero h0
    exact ⟨none, 0, rfl, by simp, by simp⟩
  · refine ⟨some ⟨g, 0, none⟩, c, rfl, by omega, fun k z hk => ⟨⟨g, 0, none⟩, rfl, Nat.zero_le _, (h2.lt g rfl).2, World.ownsRow.cells h2 rfl k _ (by unfold intsV; rw [List.getElem?_map, hk]; rfl)⟩⟩
/-- The first n numbers, and those from n on. -/
def upTo (n : Nat) : List Int := (List.range n).map fun i : Nat => (i : Int)
def fromN (n k : Nat) : List Int := (List.range k).map fun i : Nat => ((n + i : Nat) : Int)
theorem upTo_succ (n : Nat) : upTo (n + 1) = upTo n ++ [(n : Int)] := by unfold upTo; rw [List.range_succ, List.map_append]; rfl
theorem fromN_succ (n k : Nat) : fromN n (k + 1) = fromN n k ++ [((n + k : Nat) : Int)] := by unfold fromN; rw [List.range_succ, List.map_append]; rfl
theorem pick_left (ps qs : List Vl) : (upTo ps.length).map (atP (ps ++ qs)) = ps := by
  unfold upTo
  rw [List.map_map]
  apply List.ext_getElem
  · simp
  · intro k h1 h2
    simp only [List.getElem_map, List.getElem_range, Function.comp]
    rw [atP_in _ k (by rw [List.length_append]; omega), List.getElem_append_left h2]
theorem pick_right (ps qs : List Vl) : (fromN ps.length qs.length).map (atP (ps ++ qs)) = qs := by
  unfold fromN
  rw [List.map_map]
  apply List.ext_getElem
  · simp
  · intro k h1 h2
    simp only [List.getElem_map, List.getElem_range, Function.comp]
    rw [atP_in _ (ps.length + k) (by rw [List.length_append]; omega), List.getElem_append_right (by omega)]
    congr 1
    omega
theorem eq_self8 (ps : List Vl) : (cmpR ps ps == 0) = true := by rw [beq_iff_eq]; exact (cmpR_eq ps ps).2 rfl
/-- Where the loop of TupleColumns stands after k rounds. -/
def ColR (w wr : World) (n1 k : Nat) (l m : Value) : Prop :=
  (k ≤ n1 ∧ m = .slice none 0 0 ∧ wr.ownsRow w.heap.size 3 1 l (upTo k).length (intsV (upTo k))) ∨
  (n1 < k ∧ ∃ B, w.heap.size ≤ B ∧ B ≤ wr.heap.size ∧ RdI wr 0 B l (upTo n1) ∧ wr.ownsRow B 3 1 m (fromN n1 (k - n1)).length (intsV (fromN n1 (k - n1))))
end Go.Proofs.YtimmfckkgdlokaaDoor
/-
  The walk of the statement TupleColumns. Conditions: lengths; the tables lie as the rows say.
-/
namespace Go.Proofs.YtimmfckkgdlokaaDoor
set_option maxRecDepth 100000
open Go.RowKit

set_option maxRecDepth 100000 in
set_option maxHeartbeats 12800000 in
theorem law_columns (u v : Value) (ps qs : List Vl) (w : World) (hE : Va.Env w) (hu : RdN w 0 w.heap.size u ps) (hv : RdN w 0 w.heap.size v qs) (hl1 : ps.length ≤ 274877906944) (hl2 : qs.length ≤ 274877906944) :
    Calls Tryd.prog 8 #[u, v] w fun e w' => e = .returned (.bool true) ∧ Below w.heap.size w w' := by
  have h1 := pConcat_any u v ps qs w hu hv (by omega) (by omega)
  have HE1 := Lib.hid (fun x W (h : Below w.heap.size w W) (hx : RdN W 0 W.heap.size x ps) => pEqual_any x u ps ps W 0 0 hx.1 (hu.step h (Nat.le_refl _)).1)
  have HE2 := Lib.hid (fun x W (h : Below w.heap.size w W) (hx : RdN W 0 W.heap.size x qs) => pEqual_any x v qs qs W 0 0 hx.1 (hv.step h (Nat.le_refl _)).1)
  have H5 := Lib.hid (fun W (h : Below w.heap.size w W) => awake_any W (hE.step h))
  have HL1 := Lib.hid hl1
  have HL2 := Lib.hid hl2
  obtain ⟨⟨A, c, rfl, q1⟩, q2⟩ := hu
  obtain ⟨⟨A2, c2, rfl, q3⟩, q4⟩ := hv
  clear q1 q2 q3 q4 hE
  go_enter Tryd.func8, Tryd.ntmps8
  go_wp2_with fail
  with_reducible refine h1.mono ?_
  rintro e w1 ⟨u1, rfl, hR1, hb1⟩
  have HR1 := Lib.hid (hR1.low (Nat.zero_le _))
  obtain ⟨⟨A3, c3, e3, q5⟩, q6⟩ := hR1
  rw [List.length_append] at e3
  subst e3
  have HB1 := Lib.hid hb1
  clear h1 q5 q6 hb1
  go_wp2_with fail
  go_loopw [6, 7, 14] (fun l m i wr => ∃ k : Nat, k ≤ ps.length + qs.length ∧ i = .int .i64 k ∧ Hid (ColR w1 wr ps.length k l m) ∧ Below w1.heap.size w1 wr) (fun _ _ i _ => ps.length + qs.length - (intOf i).toNat)
  case atStart => exact ⟨0, Nat.zero_le _, rfl, Lib.hid (.inl ⟨Nat.zero_le _, rfl, World.ownsRow_nil _ _ _ _⟩), Below.refl _ _⟩
  case round =>
    obtain ⟨k, hk, rfl, HC, hbr⟩ := hrel
    have hbz := hbr.size
    by_cases hlt : k < ps.length + qs.length
    · have hki : (k : Int) < (ps.length : Int) + (qs.length : Int) := by omega
      have b2 := bel_mark wr (.cells #[.int .i64 k] 3)
      have HB2 := Lib.hid b2
      have hcl : (wr.alloc (.cells #[.int .i64 k] 3)).cell? ⟨wr.heap.size, 0, none⟩ = some (.int .i64 k) := (Own.new wr 3 #[.int .i64 k]).cell 0
      have HCL := Lib.hid hcl
      by_cases hk1 : k < ps.length
      · have hki1 : (k : Int) < ps.length := by omega
        rcases HC.out with ⟨h2, rfl, ho⟩ | ⟨h2, _⟩
        rotate_left
        · omega
        have HO := Lib.hid (own_below ho b2)
        have HLEN := Lib.hid (show (upTo k).length ≤ 1099511627776 by unfold upTo; have := HL1.out; simp; omega)
        have HZ := Lib.hid (Nat.le_trans hbz b2.size)
        clear ho b2 hcl
        go_wp2_with (at_builtin; refine append_i _ rfl _ _ rfl w1.heap.size _ (upTo k) rfl HO.out wr.heap.size 1 (k : Int) rfl HCL.out HLEN.out HZ.out ?_; intro v3 w3 hO3 hb3)
        go_roundw
        case rel => exact ⟨k + 1, by omega, by go_num, Lib.hid (.inl ⟨by omega, rfl, by rw [upTo_succ]; exact hO3⟩), hbr.trans ((HB2.out.mono hbz).trans hb3)⟩
        case measure => simp [intOf]; omega
      · have hki1 : ¬ (k : Int) < ps.length := by omega
        obtain ⟨B, hB1, hB2, hRI, hOM⟩ : ∃ B, w1.heap.size ≤ B ∧ B ≤ wr.heap.size ∧ RdI wr 0 B u6 (upTo ps.length) ∧ wr.ownsRow B 3 1 u7 (fromN ps.length (k - ps.length)).length (intsV (fromN ps.length (k - ps.length))) := by
          rcases HC.out with ⟨h2, rfl, ho⟩ | ⟨h2, B, g1, g2, g3, g4⟩
          · have hke : k = ps.length := by omega
            subst hke
            refine ⟨wr.heap.size, hbz, Nat.le_refl _, rdI_own ho (by unfold upTo; have := HL1.out; simp; omega), ?_⟩
            rw [Nat.sub_self]
            exact World.ownsRow_nil _ _ _ _
          · exact ⟨B, g1, g2, g3, g4⟩
        have HO := Lib.hid (own_below hOM b2)
        have HRI := Lib.hid (hRI.below (b2.mono hB2))
        have HLEN := Lib.hid (show (fromN ps.length (k - ps.length)).length ≤ 1099511627776 by unfold fromN; have := HL2.out; simp; omega)
        have HZ := Lib.hid (Nat.le_trans hB2 b2.size)
        have HB3 := Lib.hid hB1
        have HB4 := Lib.hid hB2
        clear hOM hRI b2 hcl hB1 hB2
        go_wp2_with (at_builtin; refine append_i _ rfl _ _ rfl B _ (fromN ps.length (k - ps.length)) rfl HO.out wr.heap.size 1 (k : Int) rfl HCL.out HLEN.out HZ.out ?_; intro v3 w3 hO3 hb3)
        go_roundw
        case rel =>
          refine ⟨k + 1, by omega, by go_num, Lib.hid (.inr ⟨by omega, B, HB3.out, Nat.le_trans HZ.out hb3.size, HRI.out.below hb3, ?_⟩), hbr.trans ((HB2.out.mono hbz).trans (hb3.mono HB3.out))⟩
          rw [show k + 1 - ps.length = (k - ps.length) + 1 by omega, fromN_succ, show ((ps.length + (k - ps.length) : Nat) : Int) = (k : Int) by omega]
          exact hO3
        case measure => simp [intOf]; omega
    · have hki : ¬ (k : Int) < (ps.length : Int) + (qs.length : Int) := by omega
      obtain ⟨hRI, hRJ⟩ : RdI wr 0 wr.heap.size u6 (upTo ps.length) ∧ RdI wr 0 wr.heap.size u7 (fromN ps.length qs.length) := by
        rcases HC.out with ⟨h2, rfl, ho⟩ | ⟨h2, B, g1, g2, g3, g4⟩
        · have hke : k = ps.length := by omega
          have hq0 : qs.length = 0 := by omega
          subst hke
          refine ⟨rdI_own ho (by unfold upTo; have := HL1.out; simp; omega), ?_⟩
          rw [hq0]
          exact ⟨none, 0, rfl, by simp [fromN], fun k z h => by simp [fromN] at h⟩
        · have hke : k - ps.length = qs.length := by omega
          rw [hke] at g4
          exact ⟨g3.more g2, rdI_own g4 (by unfold fromN; have := HL2.out; simp; omega)⟩
      have HRJ := Lib.hid hRJ
      have BR := HB1.out.trans (hbr.mono HB1.out.size)
      have h2 := pPick_any _ u6 _ _ wr 0 0 (HR1.out.step hbr (Nat.le_refl _)).1 hRI (by unfold upTo; have := HL1.out; simp; omega)
      rw [pick_left] at h2
      have hR1' := Lib.hid (HR1.out.step hbr (Nat.le_refl _))
      have esum : (((ps.length : Int) + (qs.length : Int)) == ((ps.length : Int) + (qs.length : Int))) = true := by simp
      obtain ⟨A6, c6, e6, q6⟩ := hRI
      obtain ⟨A7, c7, e7, q7⟩ := hRJ
      subst e6 e7
      clear q6 q7 HC HR1 hlt
      go_wp2_with fail
      with_reducible refine h2.mono ?_
      rintro e w2 ⟨u2, rfl, hP2, hb2⟩
      have B2 := BR.trans (hb2.mono BR.size)
      have hP2 := hP2.low (Nat.zero_le _)
      have h3 := HE1.out u2 w2 B2 hP2
      rw [eq_self8] at h3
      have hRJ2 := HRJ.out.step hb2 (Nat.le_refl _)
      have hR12 := hR1'.out.step hb2 (Nat.le_refl _)
      have HRJ2 := Lib.hid hRJ2
      have HR12 := Lib.hid hR12
      obtain ⟨⟨A8, c8, e8, q8⟩, q9⟩ := hP2
      subst e8
      clear h2 HE1 q8 q9 hRJ2 hR12 HRJ hR1'
      go_wp2_with fail
      with_reducible refine h3.mono ?_
      rintro e w3 ⟨rfl, hb3⟩
      have B3 := B2.trans (hb3.mono B2.size)
      have h4 := pPick_any _ _ _ _ w3 0 0 (HR12.out.step hb3 (Nat.le_refl _)).1 (HRJ2.out.step hb3 (Nat.le_refl _)) (by unfold fromN; have := HL2.out; simp; omega)
      rw [pick_right] at h4
      clear h3 HR12 HRJ2
      go_wp2_with fail
      with_reducible refine h4.mono ?_
      rintro e w4 ⟨u4, rfl, hP4, hb4⟩
      have B4 := B3.trans (hb4.mono B3.size)
      have hP4 := hP4.low (Nat.zero_le _)
      have h5 := HE2.out u4 w4 B4 hP4
      rw [eq_self8] at h5
      obtain ⟨⟨A9, c9, e9, q8⟩, q9⟩ := hP4
      subst e9
      clear h4 HE2 q8 q9
      go_wp2_with fail
      with_reducible refine h5.mono ?_
      rintro e w5 ⟨rfl, hb5⟩
      have B5 := B4.trans (hb5.mono B4.size)
      have h6 := H5.out w5 B5
      clear h5 H5
      go_wp2_with fail
      with_reducible refine h6.mono ?_
      rintro e w6 ⟨rfl, hb6⟩
      go_wp2
      go_ret
      exact ⟨rfl, B5.trans (hb6.mono B5.size)⟩
end Go.Proofs.YtimmfckkgdlokaaDoor
