/-
  Contract of table.compose: the union of the compositions of the members of two sets. Conditions: the table is newTable's; the sets' numbers are below 2^13.
-/
import Derived.Test.YtmmecpmeemhglaaDoorRd
import Derived.Test.YtmmecpmeemhglaaDoorTab
import Derived.Deep.RegionHeld3
import Derived.WalkKit
import Derived.WalkSpells
import Derived.WalkLawsBesides
import Derived.Deep.QuietTactic
import Derived.BigQuiet
import Derived.Handy
import Derived.Lib.Hide
namespace Go.Proofs.YtmmecpmeemhglaaDoor
open Go.RowKit

/-- The composition of the relations i and j. -/
def tb (i j : Nat) : Nat := tbE 3375 (i * 13 + j)
theorem tb_lt (i j : Nat) : tb i j < 8192 := tbE_lt _ (Nat.le_refl _) _
def mbN (x : Nat) : List Nat := (List.range 13).filter fun r => x.testBit r
theorem mb_mbN (x : Nat) : mb x 13 = (mbN x).map fun r : Nat => (r : Int) := rfl
theorem mbN_lt (x : Nat) : ∀ r ∈ mbN x, r < 13 := fun _ hr => List.mem_range.1 (List.mem_filter.1 hr).1
def cRow (s f : Nat) (l : List Nat) : Nat := l.foldl (fun s g => s ||| tb f g) s
def cAll (s : Nat) (l m : List Nat) : Nat := l.foldl (fun s f => cRow s f m) s
def compN (a b : Nat) : Nat := cAll 0 (mbN a) (mbN b)
theorem cRow_lt (f : Nat) (l : List Nat) : ∀ s, s < 8192 → cRow s f l < 8192 := by
  induction l with
  | nil => intro s h; exact h
  | cons g l ih => intro s h; exact ih _ (or_lt h (tb_lt f g))
theorem cAll_lt (l m : List Nat) : ∀ s, s < 8192 → cAll s l m < 8192 := by
  induction l with
  | nil => intro s h; exact h
  | cons f l ih => intro s h; exact ih _ (cRow_lt f m s h)
theorem cRow_snoc (s f : Nat) (l : List Nat) (k g : Nat) (h : l[k]? = some g) : cRow s f (l.take (k + 1)) = cRow s f (l.take k) ||| tb f g := by
  obtain ⟨hk, rfl⟩ := List.getElem?_eq_some_iff.1 h
  unfold cRow
  rw [List.take_succ_eq_append_getElem hk, List.foldl_append]
  rfl
theorem cAll_snoc (s : Nat) (l m : List Nat) (k f : Nat) (h : l[k]? = some f) : cAll s (l.take (k + 1)) m = cRow (cAll s (l.take k) m) f m := by
  obtain ⟨hk, rfl⟩ := List.getElem?_eq_some_iff.1 h
  unfold cAll
  rw [List.take_succ_eq_append_getElem hk, List.foldl_append]
  rfl

set_option maxRecDepth 100000 in
set_option maxHeartbeats 1600000 in
theorem comp_any (t a b : Nat) (w : World) (ht : Own w t 56 (tbA 3375)) (ha : a < 8192) (hb : b < 8192) :
    Calls Tryd.prog 57 #[.pointer (some ⟨t, 0, none⟩), .agg #[.int .u16 a], .agg #[.int .u16 b]] w fun e w' => e = .returned (.agg #[.int .u16 (compN a b : Nat)]) ∧ Below w.heap.size w w' := by
  go_enter Tryd.func57, Tryd.ntmps57
  have hA : ((((w.alloc (.cells #[.int .u16 (a : Nat)] 53)).alloc (.cells #[.int .u16 (b : Nat)] 53)).alloc (.cells #[.int .u16 0] 53)).alloc (.cells #[.int .u16 0] 53)).cell? ⟨w.heap.size, 0, none⟩ = some (.int .u16 (a : Nat)) := (((Own.new w _ _).alloc _ |>.alloc _).alloc _).cell 0
  have oR : Own ((((w.alloc (.cells #[.int .u16 (a : Nat)] 53)).alloc (.cells #[.int .u16 (b : Nat)] 53)).alloc (.cells #[.int .u16 0] 53)).alloc (.cells #[.int .u16 0] 53)) (w.heap.size + 1 + 1) 53 #[.int .u16 0] := (show Own _ (w.heap.size + 1 + 1) 53 #[.int .u16 0] from by have := Own.new ((w.alloc (.cells #[.int .u16 (a : Nat)] 53)).alloc (.cells #[.int .u16 (b : Nat)] 53)) 53 #[.int .u16 0]; simp only [World.size_alloc] at this; exact this).alloc _
  have oS : Own ((((w.alloc (.cells #[.int .u16 (a : Nat)] 53)).alloc (.cells #[.int .u16 (b : Nat)] 53)).alloc (.cells #[.int .u16 0] 53)).alloc (.cells #[.int .u16 0] 53)) (w.heap.size + 1 + 1 + 1) 53 #[.int .u16 0] := (by have := Own.new (((w.alloc (.cells #[.int .u16 (a : Nat)] 53)).alloc (.cells #[.int .u16 (b : Nat)] 53)).alloc (.cells #[.int .u16 0] 53)) 53 #[.int .u16 0]; simp only [World.size_alloc] at this; exact this)
  have oT : Own ((((w.alloc (.cells #[.int .u16 (a : Nat)] 53)).alloc (.cells #[.int .u16 (b : Nat)] 53)).alloc (.cells #[.int .u16 0] 53)).alloc (.cells #[.int .u16 0] 53)) t 56 (tbA 3375) := (((ht.alloc _).alloc _).alloc _).alloc _
  have hzw : (((((w.alloc (.cells #[.int .u16 (a : Nat)] 53)).alloc (.cells #[.int .u16 (b : Nat)] 53)).alloc (.cells #[.int .u16 0] 53)).alloc (.cells #[.int .u16 0] 53))).heap.size = w.heap.size + 4 := by simp
  have hbW : Below w.heap.size w ((((w.alloc (.cells #[.int .u16 (a : Nat)] 53)).alloc (.cells #[.int .u16 (b : Nat)] 53)).alloc (.cells #[.int .u16 0] 53)).alloc (.cells #[.int .u16 0] 53)) := (by (repeat' (first | (with_reducible exact Below.refl _ _) | (with_reducible assumption) | (with_reducible refine Below.alloc ?_ ?_ _) | (with_reducible refine Below.drew ?_) | (with_reducible refine Below.setCell ?_ ?_ _) | (with_reducible refine Below.trans ?_ (Below.mono (by assumption) ?_)) | go_size)))
  have htl := ht.lt
  go_wp2_with fail
  generalize ((((w.alloc (.cells #[.int .u16 (a : Nat)] 53)).alloc (.cells #[.int .u16 (b : Nat)] 53)).alloc (.cells #[.int .u16 0] 53)).alloc (.cells #[.int .u16 0] 53)) = W at *
  refine (list_any b _ hb).mono ?_
  rintro e w1 ⟨v1, rfl, hv1, hb1⟩
  have hz1 := hb1.size
  have hA1 := (hb1.cell (p := ⟨w.heap.size, 0, none⟩) (by simp; omega)).trans hA
  have hv1' := hv1
  obtain ⟨A1, c1, rfl, hl1, _⟩ := hv1
  go_wp2_with (go_at_call 35; refine (list_any a _ ha).mono ?_; rintro e w2 ⟨v2, rfl, hv2, hb2⟩; have hv2' := hv2; obtain ⟨A2, c2, rfl, hl2, _⟩ := hv2)
  have hz2 := hb2.size
  have hB2 : Below W.heap.size W w2 := hb1.trans (hb2.mono hz1)
  have Y0 := oR.below hB2 (by omega)
  have Y1 := oS.below hB2 (by omega)
  have Y2 := oT.below hB2 (by omega)
  have Y3 : RdI w2 (w.heap.size + 4) w2.heap.size (.slice A1 (mb b 13).length c1) (mb b 13) := (hv1'.below hb2).more hz2 (by omega)
  have Y4 : RdI w2 (w.heap.size + 4) w2.heap.size (.slice A2 (mb a 13).length c2) (mb a 13) := hv2'.more (Nat.le_refl _) (by omega)
  have YB : Below w.heap.size w w2 := hbW.trans (hB2.mono (by omega))
  have Hla : Hid ((mb a 13).length = (mbN a).length) := Lib.hid (by rw [mb_mbN, List.length_map])
  have Hlb : Hid ((mb b 13).length = (mbN b).length) := Lib.hid (by rw [mb_mbN, List.length_map])
  go_loopw [18] (fun v wr => ∃ k : Nat, k ≤ (mb a 13).length ∧ v = .int .i64 k ∧ Own wr (w.heap.size + 1 + 1) 53 #[.int .u16 0] ∧ Own wr (w.heap.size + 1 + 1 + 1) 53 #[.int .u16 (cAll 0 ((mbN a).take k) (mbN b) : Nat)] ∧ Own wr t 56 (tbA 3375) ∧ RdI wr (w.heap.size + 4) wr.heap.size (.slice A1 (mb b 13).length c1) (mb b 13) ∧ RdI wr (w.heap.size + 4) wr.heap.size (.slice A2 (mb a 13).length c2) (mb a 13) ∧ Below w.heap.size w wr) (fun v _ => (mb a 13).length - (intOf v).toNat)
  case atStart => exact ⟨0, by omega, rfl, Y0, Y1, Y2, Y3, Y4, YB⟩
  case round =>
    obtain ⟨k, hk, rfl, o0, o1, o2, r1, r2, hbr⟩ := hrel
    by_cases hlt : k < (mb a 13).length
    · obtain ⟨f, hf⟩ : ∃ f, (mbN a)[k]? = some f := ⟨_, List.getElem?_eq_getElem (by rw [← Hla.out]; exact hlt)⟩
      have hf13 := mbN_lt a f (List.mem_of_getElem? hf)
      have HC := Lib.hid (cAll_snoc 0 (mbN a) (mbN b) k f hf)
      have r2' := r2
      obtain ⟨ad, rfl, hal, hab, hcell⟩ := r2.at (show (mb a 13)[k]? = some (f : Int) by rw [mb_mbN, List.getElem?_map, hf]; rfl)
      have hs0 := cAll_lt ((mbN a).take k) (mbN b) 0 (by omega)
      generalize cAll 0 ((mbN a).take k) (mbN b) = s0 at *
      have hdk : decide ((k : Int) < ((mb a 13).length : Int)) = true := by simp; omega
      go_wp2
      go_loopw [24] (fun v wr => ∃ m : Nat, m ≤ (mb b 13).length ∧ v = .int .i64 m ∧ Own wr (w.heap.size + 1 + 1) 53 #[.int .u16 0] ∧ Own wr (w.heap.size + 1 + 1 + 1) 53 #[.int .u16 (cRow s0 f ((mbN b).take m) : Nat)] ∧ Own wr t 56 (tbA 3375) ∧ RdI wr (w.heap.size + 4) wr.heap.size (.slice A1 (mb b 13).length c1) (mb b 13) ∧ RdI wr (w.heap.size + 4) wr.heap.size (.slice (some ad) (mb a 13).length c2) (mb a 13) ∧ Below w.heap.size w wr) (fun v _ => (mb b 13).length - (intOf v).toNat)
      case atStart => exact ⟨0, by omega, rfl, o0, o1, o2, r1, r2', hbr⟩
      case round =>
        obtain ⟨m, hm, rfl, q0, q1, q2, p1, p2, hbi⟩ := hrel
        by_cases hmt : m < (mb b 13).length
        · obtain ⟨g, hg⟩ : ∃ g, (mbN b)[m]? = some g := ⟨_, List.getElem?_eq_getElem (by rw [← Hlb.out]; exact hmt)⟩
          have hg13 := mbN_lt b g (List.mem_of_getElem? hg)
          have HR := Lib.hid (cRow_snoc s0 f (mbN b) m g hg)
          have p1' := p1
          obtain ⟨ad1, rfl, hal1, hab1, hcell1⟩ := p1.at (show (mb b 13)[m]? = some (g : Int) by rw [mb_mbN, List.getElem?_map, hg]; rfl)
          have hs1 := cRow_lt f ((mbN b).take m) s0 hs0
          generalize cRow s0 f ((mbN b).take m) = s1 at *
          have e0 : wr.cell? ⟨w.heap.size + 1 + 1 + 1, 0, none⟩ = some (.int .u16 (s1 : Nat)) := q1.cell 0
          have e1 := q1.free 0
          have e2 : wr.cell? ⟨t, f * 13 + g, none⟩ = some (.int .u16 (tb f g : Nat)) := (q2.cell (f * 13 + g)).trans (tbA_get 3375 (f * 13 + g) (by omega))
          have L1 := q1.lt
          have hbz := hbi.size
          go_wp2
          go_region_with (go_at_call 62; refine (union_any _ _ _ hs1 (tb_lt f g)).mono ?_; rintro e w3 ⟨rfl, hb3⟩; have t1 := Own.below (show Own wr.drew _ _ _ from q1) hb3 L1; have d1 := t1.cell 0; have d2 := t1.free 0)
          all_goals
            go_wp2
            have z3 : wr.heap.size ≤ w3.heap.size := hb3.size
            have bW3 : Below wr.heap.size wr w3 := (below_drewN (Below.refl wr.heap.size wr) 1).trans hb3
            have k0 := (q0.below bW3 q0.lt).far (p := ⟨w.heap.size + 1 + 1 + 1, 0, none⟩) (by show w.heap.size + 1 + 1 ≠ w.heap.size + 1 + 1 + 1; omega) (.int .u16 (s1 ||| tb f g : Nat))
            have k2 := (q2.below bW3 q2.lt).far (p := ⟨w.heap.size + 1 + 1 + 1, 0, none⟩) (by simp; omega) (.int .u16 (s1 ||| tb f g : Nat))
            have kk := t1.store 0 (.int .u16 (s1 ||| tb f g : Nat))
            have k3 := ((p1'.below bW3).set (p := ⟨w.heap.size + 1 + 1 + 1, 0, none⟩) (.inl (by simp)) (.int .u16 (s1 ||| tb f g : Nat))).more (B' := (w3.setCell ⟨w.heap.size + 1 + 1 + 1, 0, none⟩ (.int .u16 (s1 ||| tb f g : Nat))).heap.size) (by simp; omega) (Nat.le_refl _)
            have k4 := ((p2.below bW3).set (p := ⟨w.heap.size + 1 + 1 + 1, 0, none⟩) (.inl (by simp)) (.int .u16 (s1 ||| tb f g : Nat))).more (B' := (w3.setCell ⟨w.heap.size + 1 + 1 + 1, 0, none⟩ (.int .u16 (s1 ||| tb f g : Nat))).heap.size) (by simp; omega) (Nat.le_refl _)
            have bb := (hbi.trans (bW3.mono hbz)).setCell (p := ⟨w.heap.size + 1 + 1 + 1, 0, none⟩) (by simp; omega) (.int .u16 (s1 ||| tb f g : Nat))
            go_roundw
            case rel => exact ⟨m + 1, by omega, by go_num, k0, by rw [HR.out]; exact kk, k2, k3, k4, bb⟩
            case measure => simp [intOf]; omega
        · have hml : m = (mb b 13).length := by omega
          subst hml
          rw [Hlb.out, List.take_length] at q1
          go_wp2
          go_roundw
          case rel => exact ⟨k + 1, by omega, by go_num, q0, by rw [HC.out]; exact q1, q2, p1, p2, hbi⟩
          case measure => simp [intOf]; omega
    · have hkl : k = (mb a 13).length := by omega
      subst hkl
      rw [Hla.out, List.take_length] at o1
      have e0 := o0.cell 0
      have f0 := o0.free 0
      have e1 := o1.cell 0
      go_wp2
      refine bodyPost_ret (v := .agg #[.int .u16 (compN a b : Nat)]) (results_cell_row rfl _ _ (w.heap.size + 1 + 1) 53 #[.int .u16 (compN a b : Nat)] (0, 0) _ rfl (o0.store 0 _) Tryd.underlying53 rfl setInfo) rfl ⟨rfl, ?_⟩
      exact hbr.setCell (by simp; omega) _
end Go.Proofs.YtmmecpmeemhglaaDoor
