import Derived.Test.YtnbeopkpkagjmaaGreatRD
import Derived.Laws.OwnMore
import Derived.IntWalk
import Derived.Deep.DeepCutAuto
import Derived.WalkKit
import Derived.WalkSpells
import Derived.WalkLawsBesides
import Derived.Deep.QuietTactic
import Derived.BigQuiet
import Derived.Handy
import Derived.Lib.Hide
/-
  Contract of strip: the rectangles of a slice. Conditions: lengths.
-/
namespace Go.Proofs.YtnbeopkpkagjmaaGreat
set_option maxRecDepth 100000
set_option linter.unusedVariables false
set_option linter.unusedSimpArgs false
open Go.RowKit

theorem info_partsB {t : TypeId} {z : Value} {a b : Nat} (h : (Tryz.prog.info? t).map (fun i => (i.zero, i.size, i.bytes)) = some (some z, a, b)) : ∃ i, Tryz.prog.info? t = some i ∧ i.zero = some z ∧ i.size = a ∧ i.bytes = b := by
  cases hi : Tryz.prog.info? t with
  | none => rw [hi] at h; cases h
  | some i =>
    rw [hi] at h
    simp only [Option.map_some, Option.some.injEq, Prod.mk.injEq] at h
    exact ⟨i, rfl, h.1, h.2.1, h.2.2⟩
def zR : Rc := ((0, 0), (0, 0))
/-- The cells of n rectangles of which those of l are set. -/
def rowR (l : List Rc) (n : Nat) : Array Value := (flatR (l ++ List.replicate (n - l.length) zR)).toArray
theorem flatR_rep : ∀ n : Nat, flatR (List.replicate n zR) = List.replicate (n * 4) (Value.int .i64 0)
  | 0 => by simp [flatR]
  | n + 1 => by
    rw [List.replicate_succ, show flatR (zR :: List.replicate n zR) = [.int .i64 0, .int .i64 0, .int .i64 0, .int .i64 0] ++ flatR (List.replicate n zR) by simp [flatR, zR], flatR_rep n, show (n + 1) * 4 = n * 4 + 1 + 1 + 1 + 1 by omega]
    simp [List.replicate_succ]
theorem made_rowR (W : World) (n : Nat) (hn : n ≤ 1099511627776) :
    (Instr.makeSlice 22 (.int .i64 (n : Nat)) (.int .i64 (n : Nat))).run Tryz.prog W = .ok (.slice (some ⟨W.heap.size, 0, none⟩) n n) (W.alloc (.cells (rowR [] n) 35)) := by
  obtain ⟨i0, hi, hz0, hz1, hz2⟩ := info_partsB infoRect
  have h := run_make (P := Tryz.prog) (w := W) 22 35 i0 (.agg #[.int .i64 0, .int .i64 0, .int .i64 0, .int .i64 0]) Tryz.underlying22 hi hz0 .i64 .i64 (n : Int) (n : Int) (by omega) (Int.le_refl _) (by rw [hz2]; omega) (by omega)
  rw [h, Int.toNat_natCast, hz1]
  have hr : madeCells (Value.agg #[.int .i64 0, .int .i64 0, .int .i64 0, .int .i64 0]).cells (n * 4) = rowR [] n := by
    unfold rowR
    rw [List.nil_append, List.length_nil, Nat.sub_zero, flatR_rep]
    unfold madeCells
    apply Array.ext
    · simp [Value.cells]
    · intro i h1 h2
      have h4 : i % 4 = 0 ∨ i % 4 = 1 ∨ i % 4 = 2 ∨ i % 4 = 3 := by omega
      rcases h4 with h4 | h4 | h4 | h4 <;> simp [Value.cells, h4]
  rw [hr]
theorem rowR_next (l : List Rc) (n : Nat) (h : l.length < n) (j : Nat) (hj : j < 4) : (rowR l n)[l.length * 4 + j]? = some (Value.int .i64 0) := by
  unfold rowR
  rw [flatR_append, flatR_rep, List.getElem?_toArray, List.getElem?_append_right (by rw [flatR_length]; omega), flatR_length, List.getElem?_replicate, if_pos (by omega)]
theorem rowR_set (l : List Rc) (n : Nat) (r : Rc) (h : l.length < n) :
    ((((rowR l n).setIfInBounds (l.length * 4) (.int .i64 r.1.1)).setIfInBounds (l.length * 4 + 1) (.int .i64 r.1.2)).setIfInBounds (l.length * 4 + 2) (.int .i64 r.2.1)).setIfInBounds (l.length * 4 + 3) (.int .i64 r.2.2) = rowR (l ++ [r]) n := by
  unfold rowR
  rw [List.setIfInBounds_toArray, List.setIfInBounds_toArray, List.setIfInBounds_toArray, List.setIfInBounds_toArray]
  congr 1
  rw [show n - l.length = (n - (l ++ [r]).length) + 1 by rw [List.length_append]; simp; omega, List.replicate_succ, flatR_append, flatR_append, flatR_snoc, show flatR (zR :: List.replicate (n - (l ++ [r]).length) zR) = [.int .i64 0, .int .i64 0, .int .i64 0, .int .i64 0] ++ flatR (List.replicate (n - (l ++ [r]).length) zR) by simp [flatR, zR]]
  generalize flatR (List.replicate (n - (l ++ [r]).length) zR) = T
  rw [List.set_append, if_neg (by rw [flatR_length]; omega), List.set_append, if_neg (by rw [flatR_length]; omega), List.set_append, if_neg (by rw [flatR_length]; omega), List.set_append, if_neg (by rw [flatR_length]; omega), flatR_length, List.append_assoc]
  rw [show l.length * 4 - l.length * 4 = 0 by omega, show l.length * 4 + 1 - l.length * 4 = 1 by omega, show l.length * 4 + 2 - l.length * 4 = 2 by omega, show l.length * 4 + 3 - l.length * 4 = 3 by omega]
  rfl
theorem rdR_row {w : World} {g L : Nat} {l : List Rc} (h : Own w g 35 (rowR l l.length)) (hg : L ≤ g) (hl : l.length ≤ 9223372036854775807) : RdR w L w.heap.size (.slice (some ⟨g, 0, none⟩) l.length l.length) l := by
  refine ⟨_, _, rfl, hl, Nat.le_refl _, fun k r hk => ⟨⟨g, 0, none⟩, rfl, hg, h.lt, ?_⟩⟩
  obtain ⟨h1, h2, h3, h4⟩ := flatR_get l k r hk
  have e : rowR l l.length = (flatR l).toArray := by unfold rowR; rw [Nat.sub_self]; simp
  rw [e] at h
  rw [plain_add]
  have c := fun j => h.cell j
  exact ⟨(c _).trans (by simpa using h1), (c _).trans (by simpa using h2), (c _).trans (by simpa using h3), (c _).trans (by simpa using h4)⟩
def strR (q : Int × Int) (l : List (Int × Int)) : List Rc := l.map fun p => (p, q)
set_option maxRecDepth 100000 in
set_option maxHeartbeats 3200000 in
theorem pStrip_any (v : Value) (l : List (Int × Int)) (s t : Int) (w : World) (L : Nat) (hv : RdP w L w.heap.size v l) (hlen : l.length ≤ 1000000) :
    Calls Tryz.prog 57 #[v, .agg #[.int .i64 s, .int .i64 t]] w (RetRcs w (strR (s, t) l)) := by
  have hv0 := hv
  obtain ⟨A, c, rfl, hl, _⟩ := hv
  have hmk := made_rowR (w.alloc (.cells #[.int .i64 s, .int .i64 t] 33)) l.length (by omega)
  have b1 : Below w.heap.size w ((w.alloc (.cells #[.int .i64 s, .int .i64 t] 33)).alloc (.cells (rowR [] l.length) 35)) := ((Below.refl _ _).alloc (Nat.le_refl _) _).alloc (by simp) _
  have o1 := (Own.new w 33 #[.int .i64 s, .int .i64 t]).alloc (.cells (rowR [] l.length) 35)
  have o2 : Own ((w.alloc (.cells #[.int .i64 s, .int .i64 t] 33)).alloc (.cells (rowR [] l.length) 35)) (w.heap.size + 1) 35 (rowR [] l.length) := by
    have := Own.new (w.alloc (.cells #[.int .i64 s, .int .i64 t] 33)) 35 (rowR [] l.length)
    rwa [show (w.alloc (.cells #[.int .i64 s, .int .i64 t] 33)).heap.size = w.heap.size + 1 by simp] at this
  have HB := Lib.hid b1
  have HO1 := Lib.hid o1
  have HO2 := Lib.hid o2
  clear b1 o1 o2
  go_enter Tryz.func57, Tryz.ntmps57
  go_upto_region 3 with fail
  generalize (w.alloc (.cells #[.int .i64 s, .int .i64 t] 33)).alloc (.cells (rowR [] l.length) 35) = W0 at *
  go_loopw [13] (fun i wr => ∃ k : Nat, k ≤ l.length ∧ i = .int .i64 k ∧ Hid (Own wr (w.heap.size + 1) 35 (rowR (strR (s, t) (l.take k)) l.length)) ∧ Hid (Own wr w.heap.size 33 #[.int .i64 s, .int .i64 t]) ∧ Below w.heap.size w wr) (fun i _ => l.length - (intOf i).toNat)
  case atStart => exact ⟨0, by omega, rfl, HO2, HO1, HB.out⟩
  case round =>
    obtain ⟨k, hk, rfl, HR, HQ, hbr⟩ := hrel
    clear HO1 HO2 HB hmk
    have hbz := hbr.size
    by_cases hlt : k < l.length
    · have hx := List.getElem?_eq_getElem hlt
      have hlt' := hlt
      have hT : strR (s, t) (l.take (k + 1)) = strR (s, t) (l.take k) ++ [((l[k].1, l[k].2), (s, t))] := by unfold strR; rw [List.take_succ_eq_append_getElem hlt, List.map_append]; rfl
      have hlen2 : (strR (s, t) (l.take k)).length = k := by unfold strR; rw [List.length_map, List.length_take]; omega
      generalize l[k] = p at hx hT
      obtain ⟨a, b⟩ := p
      dsimp only at hT
      have i2 : (0 : Int) ≤ (k : Int) := by omega
      have i3 : (k : Int) < (l.length : Int) := by omega
      obtain ⟨ad, rfl, _, hab, c0, c1⟩ := (hv0.below hbr).at hx
      dsimp only at c0 c1
      have oR := HR.out.alloc (.cells #[.int .i64 a, .int .i64 b] 33)
      have oQ := HQ.out.alloc (.cells #[.int .i64 a, .int .i64 b] 33)
      have bV : Below w.heap.size w (wr.alloc (.cells #[.int .i64 a, .int .i64 b] 33)) := hbr.alloc hbz _
      have oX := Own.new wr 33 #[.int .i64 a, .int .i64 b]
      have n0 := rowR_next (strR (s, t) (l.take k)) l.length (by omega) 0 (by omega)
      have n1 := rowR_next (strR (s, t) (l.take k)) l.length (by omega) 1 (by omega)
      have n2 := rowR_next (strR (s, t) (l.take k)) l.length (by omega) 2 (by omega)
      have n3 := rowR_next (strR (s, t) (l.take k)) l.length (by omega) 3 (by omega)
      have hset := rowR_set (strR (s, t) (l.take k)) l.length ((a, b), (s, t)) (by omega)
      rw [← hT] at hset
      rw [hlen2] at n0 n1 n2 n3 hset
      rw [Nat.add_zero] at n0
      dsimp only at hset
      have x0 := oX.cell 0
      have x1 := oX.cell 1
      have z0 := oQ.cell 0
      have z1 := oQ.cell 1
      have e0 := (oR.cell (k * 4)).trans n0
      have e1 := (oR.cell (k * 4 + 1)).trans n1
      have e2 := (oR.cell (k * 4 + 2)).trans n2
      have e3 := (oR.cell (k * 4 + 3)).trans n3
      have f0 := oR.free (k * 4)
      have f1 := oR.free (k * 4 + 1)
      have f2 := oR.free (k * 4 + 2)
      have f3 := oR.free (k * 4 + 3)
      have o4 := (((oR.store (k * 4) (.int .i64 a)).store (k * 4 + 1) (.int .i64 b)).store (k * 4 + 2) (.int .i64 s)).store (k * 4 + 3) (.int .i64 t)
      rw [hset] at o4
      have hne : w.heap.size ≠ w.heap.size + 1 := by omega
      have q4 := (((oQ.far (p := ⟨w.heap.size + 1, k * 4, none⟩) hne (.int .i64 a)).far (p := ⟨w.heap.size + 1, k * 4 + 1, none⟩) hne (.int .i64 b)).far (p := ⟨w.heap.size + 1, k * 4 + 2, none⟩) hne (.int .i64 s)).far (p := ⟨w.heap.size + 1, k * 4 + 3, none⟩) hne (.int .i64 t)
      have b4 := (((bV.setCell (p := ⟨w.heap.size + 1, k * 4, none⟩) (by show w.heap.size ≤ w.heap.size + 1; omega) (.int .i64 a)).setCell (p := ⟨w.heap.size + 1, k * 4 + 1, none⟩) (by show w.heap.size ≤ w.heap.size + 1; omega) (.int .i64 b)).setCell (p := ⟨w.heap.size + 1, k * 4 + 2, none⟩) (by show w.heap.size ≤ w.heap.size + 1; omega) (.int .i64 s)).setCell (p := ⟨w.heap.size + 1, k * 4 + 3, none⟩) (by show w.heap.size ≤ w.heap.size + 1; omega) (.int .i64 t)
      have O4 := Lib.hid o4
      have Q4 := Lib.hid q4
      have B4 := Lib.hid b4
      clear hx n0 n1 n2 n3 hset oR oQ oX o4 q4 b4 HR HQ hT hlen2
      go_upto_region 5 with fail
      generalize wr.alloc (.cells #[.int .i64 a, .int .i64 b] 33) = V at *
      generalize wr.heap.size = gN at *
      go_wp2
      go_roundw
      case rel => exact ⟨k + 1, by omega, by go_num, O4, Q4, B4.out⟩
      case measure => simp [intOf]; omega
    · have hd : ¬ (k : Int) < l.length := by omega
      have hT : l.take k = l := List.take_of_length_le (by omega)
      rw [hT] at HR
      have hls : (strR (s, t) l).length = l.length := by unfold strR; rw [List.length_map]
      have h1 := HR.out
      rw [← hls] at h1
      have HX := Lib.hid (rdR_row h1 (Nat.le_succ w.heap.size) (by omega))
      rw [hls] at HX
      clear h1 HR hT
      go_wp2
      go_ret
      exact ⟨_, rfl, HX.out, hbr⟩
end Go.Proofs.YtnbeopkpkagjmaaGreat
