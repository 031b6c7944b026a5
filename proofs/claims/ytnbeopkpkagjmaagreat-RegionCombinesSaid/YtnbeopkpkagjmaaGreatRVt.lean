import Derived.Test.YtnbeopkpkagjmaaGreatRH
import Derived.WalkKit
import Derived.WalkSpells
import Derived.WalkLawsBesides
import Derived.Deep.QuietTactic
import Derived.BigQuiet
import Derived.Handy
import Derived.Lib.Hide
import Derived.Test.YtnbeopkpkagjmaaGreatRgJJ
import Derived.Test.YtnbeopkpkagjmaaGreatRI
import Derived.Laws.OwnMore
import Derived.IntWalk
import Derived.Deep.DeepCutAuto
/-
  Contract of validTimes: the valid times of rectangles. Conditions: lengths.
-/
namespace Go.Proofs.YtnbeopkpkagjmaaGreat
set_option maxRecDepth 100000
set_option linter.unusedVariables false
set_option linter.unusedSimpArgs false
open Go.RowKit

def zP : Int × Int := (0, 0)
/-- The cells of n periods of which those of l are set. -/
def rowP (l : List (Int × Int)) (n : Nat) : Array Value := (flatP (l ++ List.replicate (n - l.length) zP)).toArray
theorem flatP_rep : ∀ n : Nat, flatP (List.replicate n zP) = List.replicate (n * 2) (Value.int .i64 0)
  | 0 => by simp [flatP]
  | n + 1 => by
    rw [List.replicate_succ, show flatP (zP :: List.replicate n zP) = [.int .i64 0, .int .i64 0] ++ flatP (List.replicate n zP) by simp [flatP, zP], flatP_rep n, show (n + 1) * 2 = n * 2 + 1 + 1 by omega]
    simp [List.replicate_succ]
theorem made_rowP (W : World) (n : Nat) (hn : n ≤ 1099511627776) :
    (Instr.makeSlice 27 (.int .i64 (n : Nat)) (.int .i64 (n : Nat))).run Tryz.prog W = .ok (.slice (some ⟨W.heap.size, 0, none⟩) n n) (W.alloc (.cells (rowP [] n) 33)) := by
  obtain ⟨i0, hi, hz0, hz1, hz2⟩ := info_partsB infoPer
  have h := run_make (P := Tryz.prog) (w := W) 27 33 i0 (.agg #[.int .i64 0, .int .i64 0]) Tryz.underlying27 hi hz0 .i64 .i64 (n : Int) (n : Int) (by omega) (Int.le_refl _) (by rw [hz2]; omega) (by omega)
  rw [h, Int.toNat_natCast, hz1]
  have hr : madeCells (Value.agg #[.int .i64 0, .int .i64 0]).cells (n * 2) = rowP [] n := by
    unfold rowP
    rw [List.nil_append, List.length_nil, Nat.sub_zero, flatP_rep]
    unfold madeCells
    apply Array.ext
    · simp [Value.cells]
    · intro i h1 h2
      have h4 : i % 2 = 0 ∨ i % 2 = 1 := by omega
      rcases h4 with h4 | h4 <;> simp [Value.cells, h4]
  rw [hr]
theorem rowP_next (l : List (Int × Int)) (n : Nat) (h : l.length < n) (j : Nat) (hj : j < 2) : (rowP l n)[l.length * 2 + j]? = some (Value.int .i64 0) := by
  unfold rowP
  rw [flatP_append, flatP_rep, List.getElem?_toArray, List.getElem?_append_right (by rw [flatP_length]; omega), flatP_length, List.getElem?_replicate, if_pos (by omega)]
theorem rowP_set (l : List (Int × Int)) (n : Nat) (r : Int × Int) (h : l.length < n) :
    ((rowP l n).setIfInBounds (l.length * 2) (.int .i64 r.1)).setIfInBounds (l.length * 2 + 1) (.int .i64 r.2) = rowP (l ++ [r]) n := by
  unfold rowP
  rw [List.setIfInBounds_toArray, List.setIfInBounds_toArray]
  congr 1
  rw [show n - l.length = (n - (l ++ [r]).length) + 1 by rw [List.length_append]; simp; omega, List.replicate_succ, flatP_append, flatP_append, flatP_snoc, show flatP (zP :: List.replicate (n - (l ++ [r]).length) zP) = [.int .i64 0, .int .i64 0] ++ flatP (List.replicate (n - (l ++ [r]).length) zP) by simp [flatP, zP]]
  generalize flatP (List.replicate (n - (l ++ [r]).length) zP) = T
  rw [List.set_append, if_neg (by rw [flatP_length]; omega), List.set_append, if_neg (by rw [flatP_length]; omega), flatP_length, List.append_assoc]
  rw [show l.length * 2 - l.length * 2 = 0 by omega, show l.length * 2 + 1 - l.length * 2 = 1 by omega]
  rfl
theorem rdP_row {w : World} {g L : Nat} {l : List (Int × Int)} (h : Own w g 33 (rowP l l.length)) (hg : L ≤ g) (hl : l.length ≤ 9223372036854775807) : RdP w L w.heap.size (.slice (some ⟨g, 0, none⟩) l.length l.length) l := by
  refine ⟨_, _, rfl, hl, Nat.le_refl _, fun k r hk => ⟨⟨g, 0, none⟩, rfl, hg, h.lt, ?_⟩⟩
  obtain ⟨h1, h2⟩ := flatP_get l k r hk
  have e : rowP l l.length = (flatP l).toArray := by unfold rowP; rw [Nat.sub_self]; simp
  rw [e] at h
  rw [plain_add]
  have c := fun j => h.cell j
  exact ⟨(c _).trans (by simpa using h1), (c _).trans (by simpa using h2)⟩
def vtR (l : List Rc) : List (Int × Int) := l.map (·.1)
set_option maxRecDepth 100000 in
set_option maxHeartbeats 3200000 in
theorem pVt_any (v : Value) (l : List Rc) (w : World) (L : Nat) (hv : RdR w L w.heap.size v l) (hlen : l.length ≤ 1000000) :
    Calls Tryz.prog 45 #[v] w (RetPers w (vtR l)) := by
  have hv0 := hv
  obtain ⟨A, c, rfl, hl, _⟩ := hv
  have hmk := made_rowP w l.length (by omega)
  have hmk2 := made_rowP w.drew l.length (by omega)
  have b1 : Below w.heap.size w (w.alloc (.cells (rowP [] l.length) 33)) := (Below.refl _ _).alloc (Nat.le_refl _) _
  have o2 := Own.new w 33 (rowP [] l.length)
  have HB := Lib.hid b1
  have HO2 := Lib.hid o2
  clear b1 o2
  go_enter Tryz.func45, Tryz.ntmps45
  go_upto_region 3 with fail
  generalize w.alloc (.cells (rowP [] l.length) 33) = W0 at *
  go_loopw [11] (fun i wr => ∃ k : Nat, k ≤ l.length ∧ i = .int .i64 k ∧ Hid (Own wr w.heap.size 33 (rowP (vtR (l.take k)) l.length)) ∧ Below w.heap.size w wr) (fun i _ => l.length - (intOf i).toNat)
  case atStart => exact ⟨0, by omega, rfl, HO2, HB.out⟩
  case round =>
    obtain ⟨k, hk, rfl, HR, hbr⟩ := hrel
    clear HO2 HB hmk hmk2
    have hbz := hbr.size
    by_cases hlt : k < l.length
    · have hx := List.getElem?_eq_getElem hlt
      have hT : vtR (l.take (k + 1)) = vtR (l.take k) ++ [(l[k].1.1, l[k].1.2)] := by unfold vtR; rw [List.take_succ_eq_append_getElem hlt, List.map_append]; rfl
      have hlen2 : (vtR (l.take k)).length = k := by unfold vtR; rw [List.length_map, List.length_take]; omega
      generalize l[k] = r at hx hT
      obtain ⟨⟨a, b⟩, p, q⟩ := r
      dsimp only at hT
      have i2 : (0 : Int) ≤ (k : Int) := by omega
      have i3 : (k : Int) < (l.length : Int) := by omega
      obtain ⟨ad, rfl, _, hab, c0, c1, c2, c3⟩ := (hv0.below hbr).at hx
      dsimp only at c0 c1 c2 c3
      have oR := HR.out.alloc (.cells #[.int .i64 a, .int .i64 b, .int .i64 p, .int .i64 q] 35)
      have bV : Below w.heap.size w (wr.alloc (.cells #[.int .i64 a, .int .i64 b, .int .i64 p, .int .i64 q] 35)) := hbr.alloc hbz _
      have oX := Own.new wr 35 #[.int .i64 a, .int .i64 b, .int .i64 p, .int .i64 q]
      have n0 := rowP_next (vtR (l.take k)) l.length (by omega) 0 (by omega)
      have n1 := rowP_next (vtR (l.take k)) l.length (by omega) 1 (by omega)
      have hset := rowP_set (vtR (l.take k)) l.length (a, b) (by omega)
      rw [← hT] at hset
      rw [hlen2] at n0 n1 hset
      rw [Nat.add_zero] at n0
      dsimp only at hset
      have x0 := oX.cell 0
      have x1 := oX.cell 1
      have x2 := oX.cell 2
      have x3 := oX.cell 3
      have e0 := (oR.cell (k * 2)).trans n0
      have e1 := (oR.cell (k * 2 + 1)).trans n1
      have f0 := oR.free (k * 2)
      have f1 := oR.free (k * 2 + 1)
      have o4 := (oR.store (k * 2) (.int .i64 a)).store (k * 2 + 1) (.int .i64 b)
      rw [hset] at o4
      have b4 := (bV.setCell (p := ⟨w.heap.size, k * 2, none⟩) (Nat.le_refl _) (.int .i64 a)).setCell (p := ⟨w.heap.size, k * 2 + 1, none⟩) (Nat.le_refl _) (.int .i64 b)
      have O4 := Lib.hid o4
      have B4 := Lib.hid b4
      clear hx n0 n1 hset oR oX o4 b4 HR hT hlen2
      go_upto_region 5 with fail
      generalize wr.alloc (.cells #[.int .i64 a, .int .i64 b, .int .i64 p, .int .i64 q] 35) = V at *
      generalize wr.heap.size = gN at *
      go_wp2
      go_roundw
      case rel => exact ⟨k + 1, by omega, by go_num, O4, B4.out⟩
      case measure => simp [intOf]; omega
    · have hd : ¬ (k : Int) < l.length := by omega
      have hT : l.take k = l := List.take_of_length_le (by omega)
      rw [hT] at HR
      have hls : (vtR l).length = l.length := by unfold vtR; rw [List.length_map]
      have h1 := HR.out
      rw [← hls] at h1
      have HX := Lib.hid (rdP_row h1 (Nat.le_refl w.heap.size) (by omega))
      rw [hls] at HX
      clear h1 HR hT
      go_wp2
      go_ret
      exact ⟨_, rfl, HX.out, hbr⟩
end Go.Proofs.YtnbeopkpkagjmaaGreat
/-
  Contract of together: the rectangles at the front that have the same system time. Conditions: none.
-/
namespace Go.Proofs.YtnbeopkpkagjmaaGreat
set_option maxRecDepth 100000
set_option linter.unusedVariables false
set_option linter.unusedSimpArgs false
open Go.RowKit

theorem idxF_run (f : Rc → Bool) : ∀ (l : List Rc) (k : Nat), (idxF f k l = -1 ∧ l.takeWhile (fun r => !f r) = l) ∨ ∃ m : Nat, m < l.length ∧ idxF f k l = ((k + m : Nat) : Int) ∧ l.takeWhile (fun r => !f r) = l.take m ∧ l.dropWhile (fun r => !f r) = l.drop m
  | [], _ => .inl ⟨rfl, rfl⟩
  | r :: l, k => by
    unfold idxF
    rw [List.takeWhile_cons, List.dropWhile_cons]
    cases h : f r
    · rw [if_neg (by simp), if_pos (by simp), if_pos (by simp)]
      rcases idxF_run f l (k + 1) with ⟨h1, h2⟩ | ⟨m, h1, h2, h3, h4⟩
      · exact .inl ⟨h1, by rw [h2]⟩
      · exact .inr ⟨m + 1, by simp; omega, by rw [h2]; congr 1; omega, by rw [h3]; rfl, by rw [h4]; rfl⟩
    · rw [if_pos rfl, if_neg (by simp), if_neg (by simp)]
      exact .inr ⟨0, by simp, by simp, rfl, rfl⟩
set_option maxRecDepth 100000 in
set_option maxHeartbeats 3200000 in
theorem pTg1_any (a b p q : Int) (g n c : Nat) (ad : Addr) (x y : Int) (w : World) (h1 : w.cell? ⟨g, 0, none⟩ = some (.slice (some ad) n c)) (l1 : g < w.heap.size) (hn : 0 < n) (la : ad.block < w.heap.size) (h2 : w.cell? ⟨ad.block, ad.off + 2, none⟩ = some (.int .i64 x)) (h3 : w.cell? ⟨ad.block, ad.off + 3, none⟩ = some (.int .i64 y)) :
    Calls Tryz.prog 44 #[.agg #[.int .i64 a, .int .i64 b, .int .i64 p, .int .i64 q], .pointer (some ⟨g, 0, none⟩)] w fun e w' => e = .returned (.bool (!(decide (p = x) && decide (q = y)))) ∧ Below w.heap.size w w' := by
  have o1 := Own.new w 35 #[.int .i64 a, .int .i64 b, .int .i64 p, .int .i64 q]
  have b1 : Below w.heap.size w (w.alloc (.cells #[.int .i64 a, .int .i64 b, .int .i64 p, .int .i64 q] 35)) := (Below.refl _ _).alloc (Nat.le_refl _) _
  have hz1 := b1.size
  have i1 : (0 : Int) < (n : Int) := by omega
  have e2 := o1.cell 2
  have e3 := o1.cell 3
  have z1 := o1.lt
  go_enter Tryz.func44, Tryz.ntmps44
  go_upto_region 1 with fail
  have d1 := (b1.cell (p := ⟨g, 0, none⟩) l1).trans h1
  have d2 := (b1.cell (p := ⟨ad.block, ad.off + 2, none⟩) la).trans h2
  have d3 := (b1.cell (p := ⟨ad.block, ad.off + 3, none⟩) la).trans h3
  generalize w.alloc (.cells #[.int .i64 a, .int .i64 b, .int .i64 p, .int .i64 q] 35) = V at *
  have l2 : g < V.heap.size := by omega
  have l3 : ad.block < V.heap.size := by omega
  clear h1 h2 h3 o1
  have f0 : ∀ P : After V, P.w.cell? ⟨w.heap.size, 2, none⟩ = some (.int .i64 p) := after_cell z1 e2
  have f1 : ∀ P : After V, P.w.cell? ⟨w.heap.size, 3, none⟩ = some (.int .i64 q) := after_cell z1 e3
  have f2 : ∀ P : After V, P.w.cell? ⟨g, 0, none⟩ = some (.slice (some ad) n c) := after_cell l2 d1
  have f3 : ∀ P : After V, P.w.cell? ⟨ad.block, ad.off + 2, none⟩ = some (.int .i64 x) := after_cell l3 d2
  have f4 : ∀ P : After V, P.w.cell? ⟨ad.block, ad.off + 3, none⟩ = some (.int .i64 y) := after_cell l3 d3
  obtain ⟨B1, hB1⟩ : ∃ B1, decide (p = x) = B1 := ⟨_, rfl⟩
  obtain ⟨B2, hB2⟩ : ∃ B2, decide (q = y) = B2 := ⟨_, rfl⟩
  have hb1 : (p == x) = B1 := hB1
  have hb2 : (q == y) = B2 := hB2
  have HX := Lib.hid (show (!(decide (p = x) && decide (q = y))) = !(B1 && B2) by rw [hB1, hB2])
  clear hB1 hB2 d1 d2 d3 e2 e3
  cases B1 <;> cases B2
  all_goals
    go_wp2
    (refine wp_region_after (by kernel_rfl) (by kernel_rfl) ?_; (repeat (go_big_quiet_step (fail))); refine wpQuiet_nil ?_; intro wq hw0; obtain ⟨⟨wq0, hbq⟩, hw1⟩ := hw0; subst hw1; (try dsimp only))
    go_wp2
    go_ret
    exact ⟨by rw [HX.out]; rfl, b1.trans (hbq.mono hz1)⟩
/-- The rectangles at the front with the same system time. -/
def rnR (r : Rc) (l : List Rc) : List Rc := r :: l.takeWhile fun q => decide (q.2 = r.2)
theorem rnR_eq (r : Rc) (l : List Rc) : (r :: l).takeWhile (fun q => !(!(decide (q.2.1 = r.2.1) && decide (q.2.2 = r.2.2)))) = rnR r l := by
  have hf : (fun q : Rc => !(!(decide (q.2.1 = r.2.1) && decide (q.2.2 = r.2.2)))) = fun q => decide (q.2 = r.2) := by
    funext q
    rw [Bool.not_not, Bool.eq_iff_iff]
    simp [Prod.ext_iff]
  rw [hf, List.takeWhile_cons, if_pos (by simp)]; rfl
set_option maxRecDepth 100000 in
set_option maxHeartbeats 3200000 in
theorem pTg_any (A : Option Addr) (c : Nat) (r : Rc) (l : List Rc) (w : World) (L : Nat) (hv : RdR w L w.heap.size (.slice A (l.length + 1) c) (r :: l)) :
    Calls Tryz.prog 26 #[.slice A (l.length + 1) c] w fun e w' => e = .returned (.slice A (rnR r l).length c) ∧ Below w.heap.size w w' := by
  obtain ⟨ad, rfl, hL, hB, c0, c1, c2, c3⟩ := hv.at (k := 0) (r := r) rfl
  rw [Nat.zero_mul, show ad.add 0 = ad by unfold Addr.add; simp] at c2 c3
  have hcap := hv.cap.2
  rw [List.length_cons] at hcap
  have hln : (rnR r l).length ≤ l.length + 1 := by unfold rnR; rw [List.length_cons]; have := (List.takeWhile_sublist (fun q : Rc => decide (q.2 = r.2)) (l := l)).length_le; omega
  have bW : Below w.heap.size w (w.alloc (.cells #[.slice (some ad) (l.length + 1) c] 22)) := (Below.refl _ _).alloc (Nat.le_refl _) _
  have oW := Own.new w 22 #[.slice (some ad) (l.length + 1) c]
  have sW : w.heap.size < (w.alloc (.cells #[.slice (some ad) (l.length + 1) c] 22)).heap.size := by simp
  have hv1 := hv.step bW (Nat.le_refl _)
  have x2 := (bW.cell (p := ⟨ad.block, ad.off + 2, none⟩) hB).trans c2
  have x3 := (bW.cell (p := ⟨ad.block, ad.off + 3, none⟩) hB).trans c3
  have HC := Lib.hid (pIdxF_any 44 #[.pointer (some ⟨w.heap.size, 0, none⟩)] (fun q => !(decide (q.2.1 = r.2.1) && decide (q.2.2 = r.2.2))) _ L (fun _ _ => rfl)
    (fun q W hb => pTg1_any q.1.1 q.1.2 q.2.1 q.2.2 w.heap.size (l.length + 1) c ad r.2.1 r.2.2 W ((hb.cell (p := ⟨w.heap.size, 0, none⟩) sW).trans (oW.cell 0)) (by have := hb.size; omega) (by omega) (by have := hb.size; omega) ((hb.cell (p := ⟨ad.block, ad.off + 2, none⟩) (by show ad.block < _; omega)).trans x2) ((hb.cell (p := ⟨ad.block, ad.off + 3, none⟩) (by show ad.block < _; omega)).trans x3)) _ _ hv1)
  have hrun := idxF_run (fun q : Rc => !(decide (q.2.1 = r.2.1) && decide (q.2.2 = r.2.2))) (r :: l) 0
  rw [rnR_eq] at hrun
  generalize idxF _ 0 (r :: l) = ix at *
  have y0 := oW.cell 0
  have hx : (ix = -1 ∧ (rnR r l).length = l.length + 1) ∨ ∃ m : Nat, ix = (m : Int) ∧ (rnR r l).length = m := by
    rcases hrun with ⟨h1, h2⟩ | ⟨m, h1, h2, h3, _⟩
    · exact .inl ⟨h1, by rw [h2]; rfl⟩
    · exact .inr ⟨m, by rw [h2, Nat.zero_add], by rw [h3, List.length_take]; omega⟩
  generalize (rnR r l).length = N at *
  clear hv hv1 hrun c0 c1 c2 c3 x2 x3
  have HB := Lib.hid bW
  have HO := Lib.hid oW
  go_enter Tryz.func26, Tryz.ntmps26
  go_upto_region 1 with fail
  generalize w.alloc (.cells #[.slice (some ad) (l.length + 1) c] 22) = V at *
  go_wp2_with fail
  with_reducible refine HC.out.mono ?_
  rintro e w1 ⟨rfl, hb1⟩
  clear HC
  have y1 := (hb1.cell (p := ⟨w.heap.size, 0, none⟩) sW).trans y0
  have BX := bW.trans (hb1.mono bW.size)
  clear bW oW y0 hb1 HB HO
  rcases hx with ⟨rfl, hN⟩ | ⟨m, rfl, hN⟩
  · go_wp2
    go_ret
    exact ⟨by rw [hN]; rfl, BX⟩
  · subst hN
    have i1 : ¬ ((N : Int) < 0) := by omega
    have i2 : (0 : Int) ≤ (N : Int) := by omega
    have i3 : (N : Int) ≤ (c : Int) := by omega
    go_wp2
    go_ret
    exact ⟨by simp, BX⟩
end Go.Proofs.YtnbeopkpkagjmaaGreat
