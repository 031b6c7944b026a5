import Derived.Test.YtdhemhmgenhmaaaGreatPA
import Derived.Test.YtdhemhmgenhmaaaGreatTA
import Derived.Test.YtdhemhmgenhmaaaGreatSPdZm
import Derived.Laws.CopyRow
import Derived.Deep.RegionHeld3
import Derived.WalkKit
import Derived.WalkSpells
import Derived.WalkLawsBesides
import Derived.Deep.QuietTactic
import Derived.BigQuiet
import Derived.Handy
import Derived.Lib.Hide
import Derived.Test.YtdhemhmgenhmaaaGreatMV
import Derived.Test.YtdhemhmgenhmaaaGreatQP
set_option maxRecDepth 100000
set_option maxHeartbeats 25600000
set_option linter.unusedVariables false
set_option linter.unusedSimpArgs false
/-
  slices.Repeat of an expression; isWellFormed of predicate. Conditions: lengths.
-/
namespace Go.Proofs.YtdhemhmgenhmaaaGreat
open Go.RowKit
theorem takeD {P : Program} {md : Region.Mode} {ops : Array Oper} {Q : Exit → Act → World → Prop} {S : World → Prop} {i d : Nat} {oi : Oper} {v : Value} {fuel : Nat} {listed : Array Bool} {a : Act} {w : World} (hi : ops[i]? = some oi) (hd : oi.dst = some d)
  (hs : Region.noSelect ops = true) (hf : Region.free md ops listed i = true) (hr : (Region.ready md ops listed).contains i = true)
  (hQ : ∀ c a w, Q (.panic c) (a.put oi.dst v) w → Q (.panic c) a w) (hy : YieldsIf P ops S oi v a) (hS : S w)
  (h : wpAnyH P md ops Q S fuel (listed.setIfInBounds i true) (a.put (some d) v) w) : wpAnyH P md ops Q S (fuel + 1) listed a w :=
 wpAnyH_take hi hs hf hr hQ hy hS (by rw [hd]; exact h)
theorem run_copy_X (w : World) (dT sT ty : TypeId) (g o dLen dCap : Nat) (a : Addr) (sLen sCap : Nat) (cur : Array Value) (t : TypeId) (cs : List Value)
  (hu : Tryz.prog.underlying dT = some (.slice 26)) (hg : w.heap[g]? = some (.cells cur t (0, 0))) (hn : cs.length = Nat.min sLen dLen * 7)
  (hsrc : ∀ j v, cs[j]? = some v → w.cell? (a.add j) = some v) (hfit : o + cs.length ≤ cur.size) (h1 : ∀ v ∈ cs, v.oneCell' = true) :
  (Builtin.copy_ #[dT, sT] ty #[.slice (some ⟨g, o, none⟩) dLen dCap, .slice (some a) sLen sCap]).run Tryz.prog w =
   .ok (goInt (Nat.min sLen dLen)) (w.setRow g (cur.toList.take o ++ cs ++ cur.toList.drop (o + cs.length)).toArray) := by
 have hl := run_loadCells_list (P := Tryz.prog) w a cs hsrc
 have hst := run_storeCells_at Tryz.prog g o t cs 0 cur w hg (by simpa using hfit) h1
 obtain ⟨i0, hi, hz0, hz1, hz2⟩ := info_partsB infoX
 simp [Builtin.copy_, run_underlying hu, Builtin.lenOf, Builtin.firstCells, sizeOf, typeInfo, hi, hz1, ← hn, hl, hst]
theorem flatE_take : ∀ (l : List ExU) (k : Nat), (flatE l).take (k * 7) = flatE (l.take k)
 | [], k => by simp [flatE]
 | p :: l, 0 => by simp [flatE]
 | p :: l, k + 1 => by
  show (exL p ++ flatE l).take ((k + 1) * 7) = exL p ++ flatE (l.take k)
  rw [List.take_append, exL_len, show (k + 1) * 7 - 7 = k * 7 by omega, flatE_take l k, List.take_of_length_le (by rw [exL_len]; omega)]
theorem flatE_drop : ∀ (l : List ExU) (k : Nat), (flatE l).drop (k * 7) = flatE (l.drop k)
 | [], k => by simp [flatE]
 | p :: l, 0 => by simp
 | p :: l, k + 1 => by
  show (exL p ++ flatE l).drop ((k + 1) * 7) = flatE (l.drop k)
  rw [List.drop_append, exL_len, show (k + 1) * 7 - 7 = k * 7 by omega, flatE_drop l k, List.drop_of_length_le (by rw [exL_len]; omega), List.nil_append]
theorem rowE_rep (p : ExU) (n k m : Nat) (h : k + m ≤ n) : ((rowE (List.replicate k p) n).toList.take (k * 7) ++ flatE (List.replicate m p) ++ (rowE (List.replicate k p) n).toList.drop (k * 7 + (flatE (List.replicate m p)).length)).toArray = rowE (List.replicate (k + m) p) n := by
 unfold rowE
 simp only [List.length_replicate]
 rw [flatE_len, List.length_replicate, show k * 7 + m * 7 = (k + m) * 7 by omega, flatE_take, flatE_drop, ← flatE_append, ← flatE_append]
 congr 2
 rw [List.take_left' (by simp), List.drop_append, List.drop_of_length_le (by simp), List.drop_replicate, List.length_replicate, List.nil_append, List.replicate_append_replicate, show n - k - (k + m - k) = n - (k + m) by omega]
theorem flatE_oneX (p : ExU) (hp : ∃ A4 n4 c4, p.2 = .slice A4 n4 c4) (m : Nat) : ∀ v ∈ flatE (List.replicate m p), v.oneCell' = true := fun v hv => by
 induction m with
 | zero => simp [flatE] at hv
 | succ m ih =>
  rcases List.mem_append.1 (show v ∈ exL p ++ flatE (List.replicate m p) from hv) with hu | hu
  ·obtain ⟨A4, n4, c4, hp⟩ := hp
   simp only [exL, List.mem_cons, List.not_mem_nil, or_false, hp] at hu
   rcases hu with rfl | rfl | rfl | rfl | rfl | rfl | rfl <;> rfl
  ·exact ih hu
open Go.RowKit in
theorem below_setRow0 {B g : Nat} {w0 w : World} (hb : Below B w0 w) (hBg : B ≤ g) (cs : Array Value) : Below B w0 (w.setRow g cs) :=
 hb.trans ⟨rfl, rfl, rfl, by simp [World.setRow], fun k hk => setRow_other w g k cs (by omega)⟩
theorem own_setRow {w : World} {g : Nat} {t : TypeId} {cs ds : Array Value} (h : Own w g t cs) : Own (w.setRow g ds) g t ds := setRow_heap w g _ _ t _ h
theorem pRep_any (p : ExU) (hp : ∃ A4 n4 c4, p.2 = .slice A4 n4 c4) (g c n : Nat) (w : World) (ho : Own w g 26 (exL p).toArray) (hn : n ≤ 1099511627776) :
  Calls Tryz.prog 46 #[.slice (some ⟨g, 0, none⟩) 1 c, .int .i64 (n : Nat)] w fun e w' => ∃ b, e = .returned (.slice (some ⟨b, 0, none⟩) n n) ∧ w.heap.size ≤ b ∧ Own w' b 26 (rowE (List.replicate n p) n) ∧ Below w.heap.size w w' := by
 have HM := Lib.hid (fun W => show Calls Tryz.prog 89 #[.int .u64 1, .int .u64 (n : Nat)] W fun e w' => e = .returned (.tuple #[.int .u64 0, .int .u64 (n : Nat)]) ∧ Below W.heap.size W w' from by
  have h := Tryz.bits_Mul 1 n (by omega) (by omega) W
  rw [show 1 * n / 18446744073709551616 = 0 by omega, show 1 * n % 18446744073709551616 = n by omega] at h
  refine h.mono ?_
  rintro e w' ⟨h1, h2⟩
  exact ⟨h1, by first | exact h2 | (subst h2; exact Below.refl _ _)⟩)
 have HP := Lib.hid hp
 have HO := Lib.hid ho
 have HN := Lib.hid hn
 clear hp ho
 rcases Nat.eq_zero_or_pos n with h0 | hpos
 ·subst h0
  replace HM := Lib.hid (fun W => show Calls Tryz.prog 89 #[.int .u64 1, .int .u64 0] W fun e w' => e = .returned (.tuple #[.int .u64 0, .int .u64 0]) ∧ Below W.heap.size W w' from HM.out W)
  go_enter Tryz.func46, Tryz.ntmps46
  go_wp2_with fail
  with_reducible refine (HM.out _).mono ?_
  rintro e w1 ⟨rfl, hb1⟩
  have HB1 := Lib.hid hb1
  have hmk : (Instr.makeSlice 24 (.int .i64 0) (.int .i64 0)).run Tryz.prog w1 = .ok (.slice (some ⟨w1.heap.size, 0, none⟩) 0 0) (w1.alloc (.cells (rowE [] 0) 26)) := made_rowE w1 0 (by omega)
  clear hb1 HM
  have HW := Lib.hid (Own.new w1 26 (rowE [] 0))
  have HB2 := Lib.hid (HB1.out.trans ((bel_mk w1 (.cells (rowE [] 0) 26)).mono HB1.out.size))
  have hcp := run_copy_X _ 24 24 3 w1.heap.size 0 0 0 ⟨g, 0, none⟩ 1 c (rowE [] 0) 26 [] Tryz.underlying24 HW.out rfl (by simp) (by simp) (by simp)
  rw [show goInt (((Nat.min 1 0 : Nat)) : Int) = .int .i64 0 from rfl] at hcp
  go_wp2_with fail
  have HW3 := Lib.hid (own_setRow (ds := ((rowE [] 0).toList.take 0 ++ [] ++ (rowE [] 0).toList.drop (0 + ([] : List Value).length)).toArray) HW.out)
  have HB3 := Lib.hid (below_setRow0 HB2.out HB1.out.size ((rowE [] 0).toList.take 0 ++ [] ++ (rowE [] 0).toList.drop (0 + ([] : List Value).length)).toArray)
  clear hmk hcp
  go_loopw [8] (fun i wr => i = .int .i64 0 ∧ Hid (Own wr w1.heap.size 26 (rowE [] 0)) ∧ Below w.heap.size w wr) (fun i _ => 0)
  case atStart => exact ⟨rfl, HW3, HB3.out⟩
  case round =>
   obtain ⟨rfl, HW4, hb4⟩ := hrel
   clear HW3 HB3 HW
   go_wp2
   go_ret
   exact ⟨_, rfl, HB1.out.size, HW4.out, hb4⟩
 ·have hlt0 : (0 : Int) < n := by omega
  go_enter Tryz.func46, Tryz.ntmps46
  go_wp2_with fail
  with_reducible refine (HM.out _).mono ?_
  rintro e w1 ⟨rfl, hb1⟩
  have HB1 := Lib.hid hb1
  have hmk := made_rowE w1 n hn
  have HO1 := Lib.hid ((HO.out.below hb1 HO.out.lt).alloc (.cells (rowE [] n) 26))
  clear hb1 HM
  have HW := Lib.hid (Own.new w1 26 (rowE [] n))
  have HB2 := Lib.hid (HB1.out.trans ((bel_mk w1 (.cells (rowE [] n) 26)).mono HB1.out.size))
  have hmin : Nat.min 1 n = 1 := Nat.min_eq_left hpos
  have HCP := Lib.hid (run_copy_X _ 24 24 3 w1.heap.size 0 n n ⟨g, 0, none⟩ 1 c (rowE [] n) 26 (exL p) Tryz.underlying24 HW.out (by rw [hmin]; rfl) (fun j v hj => by rw [addX, HO1.out.cell j, List.getElem?_toArray]; exact hj) (by unfold rowE; simp [flatE_len, exL_len]; omega) (fun v hv => flatE_oneX p HP.out 1 v (by show v ∈ exL p ++ []; rw [List.append_nil]; exact hv)))
  rw [hmin, show goInt ((1 : Nat) : Int) = .int .i64 1 from rfl] at HCP
  have hrow := rowE_rep p n 0 1 (by omega)
  simp only [Nat.zero_mul, Nat.zero_add, List.replicate_zero] at hrow
  rw [show flatE (List.replicate 1 p) = exL p from by show exL p ++ [] = _; rw [List.append_nil]] at hrow
  have hcp := HCP.out
  go_wp2_with fail
  have hds : (exL p ++ List.drop (exL p).length (rowE [] n).toList).toArray = rowE (List.replicate 1 p) n := by simpa using hrow
  have hw3 := own_setRow (ds := (exL p ++ List.drop (exL p).length (rowE [] n).toList).toArray) HW.out
  have HWS := Lib.hid (Eq.mp (congrArg (fun x => Own ((w1.alloc (.cells (rowE [] n) 26)).setRow w1.heap.size (exL p ++ List.drop (exL p).length (rowE [] n).toList).toArray) w1.heap.size 26 x) hds) hw3)
  have HBS := Lib.hid (below_setRow0 HB2.out HB1.out.size (exL p ++ List.drop (exL p).length (rowE [] n).toList).toArray)
  clear hmk hcp HCP hrow hds hw3 HW HB2 HO1 hmin
  go_loopw [8] (fun i wr => ∃ k : Nat, 1 ≤ k ∧ k ≤ n ∧ i = .int .i64 k ∧ Hid (Own wr w1.heap.size 26 (rowE (List.replicate k p) n)) ∧ Below w.heap.size w wr) (fun i _ => n - (intOf i).toNat)
  case atStart => exact ⟨1, Nat.le_refl _, hpos, rfl, HWS, HBS.out⟩
  case round =>
   obtain ⟨k, hk1, hk2, rfl, HW4, hb4⟩ := hrel
   clear HWS HBS
   have HB4 := Lib.hid hb4
   clear hb4
   by_cases hlt : k < n
   ·have hki : (k : Int) < n := by omega
    have hne : ¬ (k : Int) = n := by omega
    have hne2 : ¬ n = k := by omega
    have hk0 : (0 : Int) < k := by omega
    obtain ⟨m, hm⟩ : ∃ m, m = Nat.min k (n - k) := ⟨_, rfl⟩
    have hm1 : 1 ≤ m := by rw [hm]; exact Nat.le_min.2 ⟨hk1, by omega⟩
    have hm2 : m ≤ n - k := by rw [hm]; exact Nat.min_le_right _ _
    have hm3 : m ≤ k := by rw [hm]; exact Nat.min_le_left _ _
    have HWD := Lib.hid (show Own wr.drew w1.heap.size 26 (rowE (List.replicate k p) n) from HW4.out)
    have HBD := Lib.hid (show Below w.heap.size w wr.drew from HB4.out.drew)
    have hsrc : ∀ j v, (flatE (List.replicate m p))[j]? = some v → wr.drew.cell? ((⟨w1.heap.size, 0, none⟩ : Addr).add j) = some v := fun j v hj => by
     have hj1 := (List.getElem?_eq_some_iff.1 hj).1
     rw [addX, HWD.out.cell j]
     unfold rowE
     rw [flatE_len, List.length_replicate] at hj1
     rw [List.getElem?_toArray, flatE_append, List.getElem?_append_left (by rw [flatE_len, List.length_replicate]; omega)]
     have e : List.replicate k p = List.replicate m p ++ List.replicate (k - m) p := by rw [List.replicate_append_replicate, Nat.add_sub_cancel' hm3]
     rw [e, flatE_append, List.getElem?_append_left (by rw [flatE_len, List.length_replicate]; omega)]
     exact hj
    have HCP := Lib.hid (run_copy_X wr.drew 24 24 3 w1.heap.size (k * 7) (n - k) (n - k) ⟨w1.heap.size, 0, none⟩ k n (rowE (List.replicate k p) n) 26 (flatE (List.replicate m p)) Tryz.underlying24 HWD.out (by rw [flatE_len, List.length_replicate, hm]) hsrc (by rw [flatE_len, List.length_replicate]; unfold rowE; simp [flatE_len]; omega) (flatE_oneX p HP.out _))
    rw [rowE_rep p n k _ (by omega), ← hm] at HCP
    have HW5 := Lib.hid (own_setRow (ds := rowE (List.replicate (k + m) p) n) HWD.out)
    have HB5 := Lib.hid (below_setRow0 HBD.out HB1.out.size (rowE (List.replicate (k + m) p) n))
    clear HW4 HB4 HWD HBD hsrc hm
    go_wp2_with fail
    have hwr : IntKind.i64.wrap ((k : Int) + (m : Int)) = (k : Int) + m := IntWalk.i64_in _ (by omega)
    have hcp := HCP.out
    refine wp_region_held_drew (S := fun _ => True) (by kernel_rfl) (by trivial) (fun hHeld => ?_)
    (refine takeD (i := 0) (d := 38) (oi := _) (v := ?_) rfl rfl (by kernel_rfl) (by kernel_rfl) (by kernel_rfl) (fun _ _ _ h => h) (Or.inl ⟨by rfl, ?_⟩) (by assumption) ?_; rotate_left; (focus ((intro w hSw; (try dsimp only at hSw); go_simp) <;> (with_reducible rfl))); (try simp only [Act.put, List.setIfInBounds_toArray, List.set_cons_zero, List.set_cons_succ]))
    (refine takeD (i := 1) (d := 39) (oi := _) (v := ?_) rfl rfl (by kernel_rfl) (by kernel_rfl) (by kernel_rfl) (fun _ _ _ h => h) (Or.inl ⟨by rfl, ?_⟩) (by assumption) ?_; rotate_left; (focus ((intro w hSw; (try dsimp only at hSw); go_simp) <;> (with_reducible rfl))); (try simp only [Act.put, List.setIfInBounds_toArray, List.set_cons_zero, List.set_cons_succ]))
    (refine takeD (i := 2) (d := 40) (oi := _) (v := ?_) rfl rfl (by kernel_rfl) (by kernel_rfl) (by kernel_rfl) (fun _ _ _ h => h) (Or.inl ⟨by rfl, ?_⟩) (by assumption) ?_; rotate_left; (focus ((intro w hSw; (try dsimp only at hSw); go_simp) <;> (with_reducible rfl))); (try simp only [Act.put, List.setIfInBounds_toArray, List.set_cons_zero, List.set_cons_succ]))
    (refine takeD (i := 3) (d := 41) (oi := _) (v := ?_) rfl rfl (by kernel_rfl) (by kernel_rfl) (by kernel_rfl) (fun _ _ _ h => h) (Or.inl ⟨by rfl, ?_⟩) (by assumption) ?_; rotate_left; (focus ((intro w hSw; (try dsimp only at hSw); go_simp) <;> (with_reducible rfl))); (try simp only [Act.put, List.setIfInBounds_toArray, List.set_cons_zero, List.set_cons_succ]))
    (refine takeD (i := 4) (d := 42) (oi := _) (v := ?_) rfl rfl (by kernel_rfl) (by kernel_rfl) (by kernel_rfl) (fun _ _ _ h => h) (Or.inl ⟨by rfl, ?_⟩) (by assumption) ?_; rotate_left; (focus ((intro w hSw; (try dsimp only at hSw); go_simp) <;> (with_reducible rfl))); (try simp only [Act.put, List.setIfInBounds_toArray, List.set_cons_zero, List.set_cons_succ]))
    (refine takeD (i := 5) (d := 43) (oi := _) (v := ?_) rfl rfl (by kernel_rfl) (by kernel_rfl) (by kernel_rfl) (fun _ _ _ h => h) (Or.inl ⟨by rfl, ?_⟩) (by assumption) ?_; rotate_left; (focus ((intro w hSw; (try dsimp only at hSw); go_simp) <;> (with_reducible rfl))); (try simp only [Act.put, List.setIfInBounds_toArray, List.set_cons_zero, List.set_cons_succ]))
    (refine takeD (i := 6) (d := 44) (oi := _) (v := ?_) rfl rfl (by kernel_rfl) (by kernel_rfl) (by kernel_rfl) (fun _ _ _ h => h) (Or.inl ⟨by rfl, ?_⟩) (by assumption) ?_; rotate_left; (focus ((intro w hSw; (try dsimp only at hSw); go_simp) <;> (with_reducible rfl))); (try simp only [Act.put, List.setIfInBounds_toArray, List.set_cons_zero, List.set_cons_succ]))
    refine wpAnyH_ready (rs := [7]) (by kernel_rfl) (by simp) ?_
    refine AllReadyH.cons (o := _) rfl (fun K hK => ?_) AllReadyH.nil
    go_simp
    skip
    refine hK.out _ _ (by (try dsimp only); all_goals trivial) (fun hHeld => ?_)
    clear hK
    (try simp only [Act.put, List.setIfInBounds_toArray, List.set_cons_zero, List.set_cons_succ])
    (refine takeD (i := 8) (d := 46) (oi := _) (v := ?_) rfl rfl (by kernel_rfl) (by kernel_rfl) (by kernel_rfl) (fun _ _ _ h => h) (Or.inl ⟨by rfl, ?_⟩) (by assumption) ?_; rotate_left; (focus ((intro w hSw; (try dsimp only at hSw); go_simp) <;> (with_reducible rfl))); (try simp only [Act.put, List.setIfInBounds_toArray, List.set_cons_zero, List.set_cons_succ]))
    (refine takeD (i := 9) (d := 8) (oi := _) (v := ?_) rfl rfl (by kernel_rfl) (by kernel_rfl) (by kernel_rfl) (fun _ _ _ h => h) (Or.inl ⟨by rfl, ?_⟩) (by assumption) ?_; rotate_left; (focus ((intro w hSw; (try dsimp only at hSw); go_simp) <;> (with_reducible rfl))); (try simp only [Act.put, List.setIfInBounds_toArray, List.set_cons_zero, List.set_cons_succ]))
    refine wpAnyH_done (by kernel_rfl) ?_ _
    clear hcp
    go_wp2
    go_roundw
    case rel => exact ⟨k + m, by omega, by omega, by go_num, HW5, HB5.out⟩
    case measure => simp [intOf]; omega
   ·have hkn : k = n := by omega
    subst hkn
    go_wp2
    go_ret
    exact ⟨_, rfl, HB1.out.size, HW4.out, HB4.out⟩
end Go.Proofs.YtdhemhmgenhmaaaGreat
namespace Go.Proofs.YtdhemhmgenhmaaaGreat
open Go.RowKit
theorem pCons_any (v : Vl) (w : World) : Calls Tryz.prog 13 #[valV v] w fun e w' => e = .returned (exV ⟨1, 0, v, ⟨#[]⟩, []⟩ (.slice none 0 0)) ∧ Below w.heap.size w w' := by
 obtain ⟨v0, v1, v2⟩ := v
 unfold valV exV
 dsimp only
 have HB := Lib.hid (show Below w.heap.size w ((w.alloc (.cells #[.int .i64 v0, .int .i64 v1, .string v2] 23)).alloc (.cells #[.int .i64 1, .int .i64 0, .int .i64 v0, .int .i64 v1, .string v2, .string ⟨#[]⟩, .slice none 0 0] 26)) from (bel_mk w _).trans ((bel_mk _ _).mono (by simp)))
 have HX := Lib.hid (show Own ((w.alloc (.cells #[.int .i64 v0, .int .i64 v1, .string v2] 23)).alloc (.cells #[.int .i64 1, .int .i64 0, .int .i64 v0, .int .i64 v1, .string v2, .string ⟨#[]⟩, .slice none 0 0] 26)) (w.heap.size + 1) 26 #[.int .i64 1, .int .i64 0, .int .i64 v0, .int .i64 v1, .string v2, .string ⟨#[]⟩, .slice none 0 0] from Va.own_two _)
 go_enter Tryz.func13, Tryz.ntmps13
 go_wp2
 (try simp only [Exit.inBlock, Exit.then]); refine bodyPost_ret_by (results_cell_row1 (by rfl) _ _ (w.heap.size + 1) _ (by rfl) (load_ex HX.out)) ?_ ?_; (focus rfl); refine ⟨rfl, ?_⟩
 exact HB.out
theorem rdE_nul {w : World} {g n : Nat} (h : Own w g 26 (rowE (List.replicate n (nulX, .slice none 0 0)) n)) (hn : n ≤ 1099511627776) : RdE w g w.heap.size 2 (.slice (some ⟨g, 0, none⟩) n n) (List.replicate n nulX) := by
 have h1 := rowE_all (List.replicate n ((nulX, .slice none 0 0) : ExU))
 rw [List.length_replicate] at h1
 rw [h1] at h
 have h2 := rdE_row (L := g) (d := 1) (c := n) h (Nat.le_refl _) (by rw [List.length_replicate]; exact hn) (fun p hp => by rw [(List.mem_replicate.1 hp).2]; exact ⟨none, 0, rfl, by simp [nulX], by simp [nulX]⟩)
 rw [List.length_replicate, List.map_replicate] at h2
 exact h2
theorem pWfP_any (e : Ex) (A : Option Addr) (c : Nat) (hl : e.args.length ≤ 1099511627776) (w : World) :
  Calls Tryz.prog 12 #[exV e (.slice A e.args.length c)] w fun e' w' => e' = .returned (.bool (wfX e)) ∧ Below w.heap.size w w' := by
 have HX := Lib.hid (wf_chk e)
 have HK := Lib.hid (fun (W : World) (b : Nat) (h : RdE W b W.heap.size 2 (.slice (some ⟨b, 0, none⟩) e.args.length e.args.length) (List.replicate e.args.length nulX)) => show Calls Tryz.prog 47 #[exV e (.slice (some ⟨b, 0, none⟩) e.args.length e.args.length), .slice none 0 0] W fun e' w' => e' = .returned (resV (chkT [] 2 (ofNul e))) ∧ Below W.heap.size W w' from by
  have h2 := pCheck_any (.slice none 0 0) [] 2 (ofNul e) (some ⟨b, 0, none⟩) e.args.length W b 0 (by unfold ofNul; simpa using h) ⟨none, 0, rfl, by simp, by simp⟩
  unfold ofNul at h2 ⊢
  unfold exV at h2 ⊢
  simpa using h2)
 generalize chkT [] 2 (ofNul e) = q at *
 generalize wfX e = wf at *
 obtain ⟨er, eq⟩ := q
 obtain ⟨op, n, ⟨k1, k2, s⟩, nm, es⟩ := e
 unfold exV resV at *
 dsimp only at *
 generalize es.length = l at *
 have HE := Lib.hid (Own.new w 26 #[.int .i64 op, .int .i64 n, .int .i64 k1, .int .i64 k2, .string s, .string nm, .slice A l c])
 have HB := Lib.hid (bel_mk w (.cells #[.int .i64 op, .int .i64 n, .int .i64 k1, .int .i64 k2, .string s, .string nm, .slice A l c] 26))
 have f6 := HE.out.cell 6
 go_enter Tryz.func12, Tryz.ntmps12
 go_wp2_with fail
 have HBD := Lib.hid (show Below w.heap.size w (w.alloc (.cells #[.int .i64 op, .int .i64 n, .int .i64 k1, .int .i64 k2, .string s, .string nm, .slice A l c] 26)).drew from HB.out.drew)
 have HED := Lib.hid (show Own (w.alloc (.cells #[.int .i64 op, .int .i64 n, .int .i64 k1, .int .i64 k2, .string s, .string nm, .slice A l c] 26)).drew w.heap.size 26 #[.int .i64 op, .int .i64 n, .int .i64 k1, .int .i64 k2, .string s, .string nm, .slice A l c] from HE.out)
 clear HB HE
 go_region_law (first
  | (go_simp; go_at_call 14; with_reducible refine (eNull _).mono ?_; rintro e w1 ⟨rfl, hb1⟩; have HE1 := Lib.hid (HED.out.below hb1 HED.out.lt); have HB1 := Lib.hid (HBD.out.trans (hb1.mono HBD.out.size)); have c1 := HE1.out.cell 6; clear hb1)
  | (go_simp; go_at_call 13; with_reducible refine (pCons_any nullP _).mono ?_; rintro e w2 ⟨rfl, hb2⟩; have HE2 := Lib.hid (HE1.out.below hb2 HE1.out.lt); have HB2 := Lib.hid (HB1.out.trans (hb2.mono HB1.out.size)); have c2 := HE2.out.cell 6; have z2 := HE2.out.lt; clear hb2; unfold exV nullP)
  | (go_simp; go_at_call 46; refine (pRep_any (nulX, .slice none 0 0) ⟨_, _, _, rfl⟩ w2.heap.size 1 l _ (Own.new w2 26 #[.int .i64 1, .int .i64 0, .int .i64 0, .int .i64 0, .string ⟨#[]⟩, .string ⟨#[]⟩, .slice none 0 0]) hl).mono ?_; rintro e w5 ⟨b, rfl, hbb, hob, hb5⟩; have HE5 := Lib.hid ((HE2.out.alloc (.cells #[.int .i64 1, .int .i64 0, .int .i64 0, .int .i64 0, .string ⟨#[]⟩, .string ⟨#[]⟩, .slice none 0 0] 26)).below hb5 (HE2.out.alloc _).lt); have HB5 := Lib.hid ((HB2.out.trans ((bel_mk w2 (.cells #[.int .i64 1, .int .i64 0, .int .i64 0, .int .i64 0, .string ⟨#[]⟩, .string ⟨#[]⟩, .slice none 0 0] 26)).mono HB2.out.size)).trans (hb5.mono (by have := HB2.out.size; simp only [World.size_alloc]; omega))); have HO5 := Lib.hid hob; have HBB := Lib.hid hbb; have c5 := HE5.out.cell 6; have m5 := HE5.out.free 6; clear hb5 hob hbb))
 all_goals
  have HE6 := Lib.hid (HE5.out.store 6 (.slice (some ⟨b, 0, none⟩) l l))
  have HB6 := Lib.hid (HB5.out.sc w.heap.size 6 (.slice (some ⟨b, 0, none⟩) l l))
  have hlt := HE2.out.lt
  have hne : b ≠ w.heap.size := by have := HBB.out; simp only [World.size_alloc] at this; omega
  have HR6 := Lib.hid (rdE_nul (HO5.out.far (p := ⟨w.heap.size, 6, none⟩) hne (.slice (some ⟨b, 0, none⟩) l l)) hl)
  have HK6 := Lib.hid (HK.out _ b HR6.out)
  clear hlt hne HR6 HK HE5 HB5 HO5 HBB HE2 HB2 HE1 HB1 HED HBD c5 m5 c1 c2 z2
  generalize w5.setCell ⟨w.heap.size, 6, none⟩ (.slice (some ⟨b, 0, none⟩) l l) = w6 at *
  have q0 := HE6.out.cell 0
  have q1 := HE6.out.cell 1
  have q2 := HE6.out.cell 2
  have q3 := HE6.out.cell 3
  have q4 := HE6.out.cell 4
  have q5 := HE6.out.cell 5
  have q6 := HE6.out.cell 6
  go_wp2_with fail
  with_reducible refine HK6.out.mono ?_
  rintro e w7 ⟨rfl, hb7⟩
  have HB7 := Lib.hid (HB6.out.trans (hb7.mono HB6.out.size))
  clear hb7 q0 q1 q2 q3 q4 q5 q6
  by_cases h0 : eq = 0
  ·have hw : wf = true := HX.out.1 (.inl h0)
   subst h0 hw
   go_wp2
   go_ret
   exact ⟨rfl, HB7.out⟩
  ·have h0b : (eq == 0) = false := by rw [beq_eq_false_iff_ne]; exact h0
   by_cases h13 : eq = 13
   ·have hw : wf = true := HX.out.1 (.inr h13)
    subst h13 hw
    go_wp2
    go_ret
    exact ⟨rfl, HB7.out⟩
   ·have h13b : (eq == 13) = false := by rw [beq_eq_false_iff_ne]; exact h13
    have hw : wf = false := by
     cases hwf : wf
     ·rfl
     ·rcases HX.out.2 hwf with h | h
      ·exact absurd h h0
      ·exact absurd h h13
    subst hw
    go_wp2
    go_ret
    exact ⟨rfl, HB7.out⟩
end Go.Proofs.YtdhemhmgenhmaaaGreat
