/-
  Contract of network.refined: one pass over all ways over a third period. Conditions: at most eight periods, the table is newTable's, the sets' numbers are below 2^13.
-/
import Derived.Test.YtmmecpmeemhglaaDoorPerm
import Derived.Test.YtmmecpmeemhglaaDoorComp
import Derived.Deep.DeepCutAuto
import Derived.Deep.RegionHeld3
import Derived.WalkKit
import Derived.WalkSpells
import Derived.WalkLawsBesides
import Derived.Deep.QuietTactic
import Derived.BigQuiet
import Derived.Handy
import Derived.Lib.Hide
namespace Go.Proofs.YtmmecpmeemhglaaDoor
open Go.RowKit

def refS (M : Net) (i j k : Nat) : Net := upd M i j (M i j &&& compN (M i k) (M k j))
def refK (M : Net) (i j n : Nat) : Net := (List.range n).foldl (fun M k => refS M i j k) M
def refJ (n : Nat) (M : Net) (i m : Nat) : Net := (List.range m).foldl (fun M j => refK M i j n) M
def refI (n : Nat) (M : Net) (m : Nat) : Net := (List.range m).foldl (fun M i => refJ n M i n) M
def refN (n : Nat) (M : Net) : Net := refI n M n
theorem refK_succ (M : Net) (i j k : Nat) : refK M i j (k + 1) = refS (refK M i j k) i j k := by unfold refK; rw [List.range_succ, List.foldl_append]; rfl
theorem refJ_succ (n : Nat) (M : Net) (i j : Nat) : refJ n M i (j + 1) = refK (refJ n M i j) i j n := by unfold refJ; rw [List.range_succ, List.foldl_append]; rfl
theorem refI_succ (n : Nat) (M : Net) (i : Nat) : refI n M (i + 1) = refJ n (refI n M i) i n := by unfold refI; rw [List.range_succ, List.foldl_append]; rfl
def Lo (M : Net) : Prop := ∀ a b, M a b < 8192
theorem refS_lt {M : Net} (h : Lo M) (i j k : Nat) : Lo (refS M i j k) := fun a b => upd_lt h (and_lt _ (h i j)) a b
theorem refK_lt {M : Net} (h : Lo M) (i j n : Nat) : Lo (refK M i j n) := by
  induction n with
  | zero => exact h
  | succ n ih => rw [refK_succ]; exact refS_lt ih i j n
theorem refJ_lt {n : Nat} {M : Net} (h : Lo M) (i m : Nat) : Lo (refJ n M i m) := by
  induction m with
  | zero => exact h
  | succ m ih => rw [refJ_succ]; exact refK_lt ih i m n
theorem refI_lt {n : Nat} {M : Net} (h : Lo M) (m : Nat) : Lo (refI n M m) := by
  induction m with
  | zero => exact h
  | succ m ih => rw [refI_succ]; exact refJ_lt ih m n
theorem keep2 {w : World} {g1 i j : Nat} {x y : Value} (h0 : w.cell? ⟨g1, i, none⟩ = some x) (h1 : w.cell? ⟨g1, j, none⟩ = some y) (g n : Nat) (v : Value) (e1 : g1 ≠ g) :
    (w.setCell ⟨g, n, none⟩ v).cell? ⟨g1, i, none⟩ = some x ∧ (w.setCell ⟨g, n, none⟩ v).cell? ⟨g1, j, none⟩ = some y := by
  refine ⟨(World.cell?_setCell_other _ _ _ _ ?_).trans h0, (World.cell?_setCell_other _ _ _ _ ?_).trans h1⟩
  all_goals
    intro e
    injection e
    omega

set_option maxRecDepth 100000 in
set_option maxHeartbeats 1600000 in
theorem ref_any (t n : Nat) (M : Net) (w : World) (ht : Own w t 56 (tbA 3375)) (hn : n ≤ 8) (hM : Lo M) :
    Calls Tryd.prog 40 #[.agg (netA n M), .pointer (some ⟨t, 0, none⟩)] w fun e w' => e = .returned (.agg (netA n (refN n M))) ∧ Below w.heap.size w w' := by
  have hN0 := netA_n n M
  have HN : Own ((w.alloc (.cells (netA n M) 66)).alloc (.cells Tryd.zeroCells66 66)) w.heap.size 66 (netA n (refI n M 0)) := (Own.new _ _ _).alloc _
  have HZ : Own ((w.alloc (.cells (netA n M) 66)).alloc (.cells Tryd.zeroCells66 66)) (w.heap.size + 1) 66 Tryd.zeroCells66 := (by have := Own.new (w.alloc (.cells (netA n M) 66)) 66 Tryd.zeroCells66; rw [World.size_alloc] at this; exact this)
  have HT : Own ((w.alloc (.cells (netA n M) 66)).alloc (.cells Tryd.zeroCells66 66)) t 56 (tbA 3375) := (ht.alloc _).alloc _
  have HB : Below w.heap.size w ((w.alloc (.cells (netA n M) 66)).alloc (.cells Tryd.zeroCells66 66)) := (by (repeat' (first | (with_reducible exact Below.refl _ _) | (with_reducible assumption) | (with_reducible refine Below.alloc ?_ ?_ _) | (with_reducible refine Below.drew ?_) | (with_reducible refine Below.setCell ?_ ?_ _) | (with_reducible refine Below.trans ?_ (Below.mono (by assumption) ?_)) | go_size)))
  have htl := ht.lt
  go_enter Tryd.func40, Tryd.ntmps40
  go_wp2
  generalize (w.alloc (.cells (netA n M) 66)).alloc (.cells Tryd.zeroCells66 66) = W at *
  go_loopw [11] (fun v wr => ∃ i : Nat, i ≤ n ∧ v = .int .i64 i ∧ Own wr w.heap.size 66 (netA n (refI n M i)) ∧ Own wr (w.heap.size + 1) 66 Tryd.zeroCells66 ∧ Own wr t 56 (tbA 3375) ∧ Below w.heap.size w wr) (fun v _ => n - (intOf v).toNat)
  case atStart => exact ⟨0, by omega, rfl, HN, HZ, HT, HB⟩
  case round =>
    obtain ⟨i, hi, rfl, o0, o1, o2, hbr⟩ := hrel
    have hI := Lib.hid (refI_succ n M i)
    have hlo := refI_lt (n := n) hM i
    by_cases hlt : i < n
    · generalize refI n M i = MI at *
      have k0 : wr.cell? ⟨w.heap.size, 0, none⟩ = some (.int .i64 (n : Nat)) := (o0.cell 0).trans (netA_n n MI)
      have hdi : decide ((i : Int) < n) = true := by simp; omega
      go_wp2
      go_loopw [16] (fun v wr => ∃ j : Nat, j ≤ n ∧ v = .int .i64 j ∧ Own wr w.heap.size 66 (netA n (refJ n MI i j)) ∧ Own wr (w.heap.size + 1) 66 Tryd.zeroCells66 ∧ Own wr t 56 (tbA 3375) ∧ Below w.heap.size w wr) (fun v _ => n - (intOf v).toNat)
      case atStart => exact ⟨0, by omega, rfl, o0, o1, o2, hbr⟩
      case round =>
        obtain ⟨j, hj, rfl, q0, q1, q2, hbj⟩ := hrel
        have hJ := Lib.hid (refJ_succ n MI i j)
        have hlj := refJ_lt (n := n) hlo i j
        by_cases hjt : j < n
        · generalize refJ n MI i j = MJ at *
          have k0 : wr.cell? ⟨w.heap.size, 0, none⟩ = some (.int .i64 (n : Nat)) := (q0.cell 0).trans (netA_n n MJ)
          have hdj : decide ((j : Int) < n) = true := by simp; omega
          go_wp2
          go_loopw [21] (fun v wr => ∃ k : Nat, k ≤ n ∧ v = .int .i64 k ∧ Own wr w.heap.size 66 (netA n (refK MJ i j k)) ∧ Own wr (w.heap.size + 1) 66 Tryd.zeroCells66 ∧ Own wr t 56 (tbA 3375) ∧ Below w.heap.size w wr) (fun v _ => n - (intOf v).toNat)
          case atStart => exact ⟨0, by omega, rfl, q0, q1, q2, hbj⟩
          case round =>
            obtain ⟨k, hk, rfl, s0, s1, s2, hbk⟩ := hrel
            have hK := Lib.hid (refK_succ MJ i j k)
            have hlk := refK_lt hlj i j k
            by_cases hkt : k < n
            · generalize refK MJ i j k = MK at *
              have a8 : i < 8 := by omega
              have b8 : j < 8 := by omega
              have c8 : k < 8 := by omega
              have a8' : (i : Int) < 8 := by omega
              have b8' : (j : Int) < 8 := by omega
              have c8' : (k : Int) < 8 := by omega
              have f1 := (s0.cell (1 + i * 8 + k)).trans (netA_get n MK i k a8 c8)
              have f2 := (s0.cell (1 + k * 8 + j)).trans (netA_get n MK k j c8 b8)
              have L0 := s0.lt
              have L2 := s2.lt
              have L1 := s1.lt
              go_wp2
              have hbz := hbk.size
              go_cut [8] (fun s8 x => ∃ g8 : Nat, s8 = .pointer (some ⟨g8, 0, none⟩) ∧ w.heap.size + 1 < g8 ∧ t < g8 ∧ Own x g8 53 #[.int .u16 (compN (MK i k) (MK k j) : Nat)] ∧ Own x w.heap.size 66 (netA n MK) ∧ Own x (w.heap.size + 1) 66 Tryd.zeroCells66 ∧ Own x t 56 (tbA 3375) ∧ Below w.heap.size w x)
              case first =>
                have hne : w.heap.size ≠ wr.heap.size := by omega
                have g1 : wr.drew.cell? ⟨w.heap.size, 1 + i * 8 + k, none⟩ = some (.int .u16 (MK i k : Nat)) := f1
                have g2 : wr.drew.cell? ⟨w.heap.size, 1 + k * 8 + j, none⟩ = some (.int .u16 (MK k j : Nat)) := f2
                go_region_held3 (fun w' => w'.cell? ⟨w.heap.size, 1 + i * 8 + k, none⟩ = some (.int .u16 (MK i k : Nat)) ∧ w'.cell? ⟨w.heap.size, 1 + k * 8 + j, none⟩ = some (.int .u16 (MK k j : Nat)))
                  (first | exact ⟨f1, f2⟩ | exact ⟨p1, p2⟩ | exact ⟨(World.cell?_alloc_lt _ _ ⟨w.heap.size, _, none⟩ L0).trans g1, (World.cell?_alloc_lt _ _ ⟨w.heap.size, _, none⟩ L0).trans g2⟩ | exact ⟨(World.cell?_alloc_lt _ _ ⟨w.heap.size, _, none⟩ L3).trans p1, (World.cell?_alloc_lt _ _ ⟨w.heap.size, _, none⟩ L3).trans p2⟩ | exact keep2 p1 p2 _ _ _ hne | exact keep2 p1 p2 _ _ _ hne3 | go_keep)
                  (first
                    | (go_at_call 57; refine (comp_any t _ _ _ (show Own (World.alloc wr.drew _) _ _ _ from Own.alloc (show Own wr.drew _ _ _ from s2) _) (hlk i k) (hlk k j)).mono ?_; rintro e w3 ⟨rfl, hb3⟩; have v1 := Own.below (show Own (World.alloc wr.drew (Obj.cells #[Value.int .u16 0] 53)) wr.heap.size _ _ from Own.new _ _ _) hb3 (by simp); have d1 := v1.cell 0; have d2 := v1.free 0; have bX : Below wr.heap.size wr w3 := ((Below.refl wr.heap.size wr).drew.alloc (by simp) _).trans (hb3.mono (by simp)); have L3 : w.heap.size < w3.heap.size := Nat.lt_of_lt_of_le L0 bX.size; have p1 := (bX.cell (p := ⟨w.heap.size, 1 + i * 8 + k, none⟩) L0).trans f1; have p2 := (bX.cell (p := ⟨w.heap.size, 1 + k * 8 + j, none⟩) L0).trans f2; have hne3 : w.heap.size ≠ w3.heap.size := by omega)
                    | (go_at_call 57; refine (comp_any t _ _ _ (show Own wr.drew _ _ _ from s2) (hlk i k) (hlk k j)).mono ?_; rintro e w3 ⟨rfl, hb3⟩; have bX : Below wr.heap.size wr w3 := (Below.refl wr.heap.size wr).drew.trans (hb3.mono (by simp)); have L3 : w.heap.size < w3.heap.size := Nat.lt_of_lt_of_le L0 bX.size; have p1 := (bX.cell (p := ⟨w.heap.size, 1 + i * 8 + k, none⟩) L0).trans f1; have p2 := (bX.cell (p := ⟨w.heap.size, 1 + k * 8 + j, none⟩) L0).trans f2; have hne3 : w.heap.size ≠ w3.heap.size := by omega))
                · go_wp2_with fail
                  go_meet
                  have q3 := bX.size
                  exact ⟨_, rfl, by omega, by omega, Own.new _ _ _, (s0.below bX L0).alloc _, (s1.below bX L1).alloc _, (s2.below bX L2).alloc _, (hbk.trans (bX.mono hbz)).alloc (by omega) _⟩
                · go_wp2_with fail
                  go_meet
                  have q3 := bX.size
                  exact ⟨_, rfl, by omega, by omega, v1.store 0 _, (s0.below bX L0).far (by simp; omega) _, (s1.below bX L1).far (by simp; omega) _, (s2.below bX L2).far (by simp; omega) _, (hbk.trans (bX.mono hbz)).setCell (by simp; omega) _⟩
              case rest =>
                obtain ⟨g8, rfl, hg1, hg2, y8, y0, y1, y2, hby⟩ := hcut
                have e8 : wc.cell? ⟨g8, 0, none⟩ = some (.int .u16 (compN (MK i k) (MK k j) : Nat)) := y8.cell 0
                have e0 := (y0.cell (1 + i * 8 + j)).trans (netA_get n MK i j a8 b8)
                have L4 := y0.lt
                have hHS := Lib.hid (netA_set n MK i j (MK i j &&& compN (MK i k) (MK k j)) a8 b8)
                have hCC := cAll_lt (mbN (MK i k)) (mbN (MK k j)) 0 (by omega)
                have hbz2 := hby.size
                have hMij := hlk i j
                rw [show cAll 0 (mbN (MK i k)) (mbN (MK k j)) = compN (MK i k) (MK k j) from rfl] at hCC
                generalize hCe : compN (MK i k) (MK k j) = C at *
                go_wp2
                go_region_with (go_at_call 55; refine (inter_any _ _ _ hMij hCC).mono ?_; rintro e w4 ⟨rfl, hb4⟩; have n4 := Own.below (show Own wc.drew _ _ _ from y0) hb4 L4; have d1 := (n4.cell (1 + i * 8 + j)).trans (netA_get n MK i j a8 b8); have d2 := n4.free (1 + i * 8 + j))
                all_goals
                  go_wp2
                  have q4 : wc.heap.size ≤ w4.heap.size := hb4.size
                  have bY : Below wc.heap.size wc w4 := (below_drewN (Below.refl wc.heap.size wc) 1).trans hb4
                  have m1 := (y1.below bY y1.lt).far (p := ⟨w.heap.size, 1 + i * 8 + j, none⟩) (by show w.heap.size + 1 ≠ w.heap.size; omega) (.int .u16 (MK i j &&& C : Nat))
                  have m2 := (y2.below bY y2.lt).far (p := ⟨w.heap.size, 1 + i * 8 + j, none⟩) (by show t ≠ w.heap.size; omega) (.int .u16 (MK i j &&& C : Nat))
                  have m0 := n4.store (1 + i * 8 + j) (.int .u16 (MK i j &&& C : Nat))
                  rw [hHS.out] at m0
                  have mb := (hby.trans (bY.mono hbz2)).setCell (p := ⟨w.heap.size, 1 + i * 8 + j, none⟩) (by simp) (.int .u16 (MK i j &&& C : Nat))
                  go_roundw
                  case rel => exact ⟨k + 1, by omega, by go_num, by rw [hK.out]; unfold refS; rw [hCe]; exact m0, m1, m2, mb⟩
                  case measure => simp [intOf]; omega
            · have hkn : k = n := by omega
              subst hkn
              go_wp2
              go_roundw
              case rel => exact ⟨j + 1, by omega, by go_num, by rw [hJ.out]; exact s0, s1, s2, hbk⟩
              case measure => simp [intOf]; omega
        · have hjn : j = n := by omega
          subst hjn
          go_wp2
          go_roundw
          case rel => exact ⟨i + 1, by omega, by go_num, by rw [hI.out]; exact q0, q1, q2, hbj⟩
          case measure => simp [intOf]; omega
    · have hin : i = n := by omega
      subst hin
      go_wp2_with (first | (refine wpList_load_row rfl 66 _ rfl w.heap.size rfl 66 (netA i (refN i M)) (0, 0) _ o0 Tryd.underlying66 rfl (netI _ _) ?_) | (refine wpList_store_row rfl 66 _ _ rfl (w.heap.size + 1) (netA i (refN i M)) rfl rfl 66 _ o1 (netI _ _) (netZ _ _) (netOne _ _) ?_))
      refine bodyPost_ret (v := .agg (netA i (refN i M))) (results_cell_row rfl _ _ (w.heap.size + 1) 66 (netA i (refN i M)) (0, 0) _ rfl (setRow_heap _ _ _ _ _ _ o1) Tryd.underlying66 rfl (netI _ _)) rfl ⟨rfl, ?_⟩
      exact below_setRow hbr (by omega) _
end Go.Proofs.YtmmecpmeemhglaaDoor
