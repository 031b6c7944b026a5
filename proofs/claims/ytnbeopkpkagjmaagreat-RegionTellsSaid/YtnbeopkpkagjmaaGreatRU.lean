import Derived.Test.YtnbeopkpkagjmaaGreatRCb
import Derived.Test.YtnbeopkpkagjmaaGreatRCr
import Derived.Test.YtnbeopkpkagjmaaGreatOF
import Derived.Test.YtnbeopkpkagjmaaGreatRTw
import Derived.WalkKit
import Derived.WalkSpells
import Derived.WalkLawsBesides
import Derived.Deep.QuietTactic
import Derived.BigQuiet
import Derived.Handy
import Derived.Lib.Hide
/-
  The functions of region that the statements call, over what is proved of combine and of span. Conditions: at most 6000 rectangles.
-/
namespace Go.Proofs.YtnbeopkpkagjmaaGreat
set_option maxRecDepth 100000
set_option linter.unusedVariables false
set_option linter.unusedSimpArgs false
open Go.RowKit

theorem ofC : OfC := fun u a w L hu ha => sOf_any u a w L hu ha
theorem interC : InterC := fun u v a b w L L2 hu hv ha hb => sIntersect_any u v a b w L L2 hu hv ha hb
theorem subC : SubC := fun u v a b w L L2 hu hv ha hb => sSubtract_any u v a b w L L2 hu hv ha hb
theorem qOf_any (u : Value) (a : List Rc) (w : World) (L : Nat) (hu : RdR w L w.heap.size u a) (la : a.length ≤ 6000) : Calls Tryz.prog 16 #[u] w (RetRcs w (ofR a)) := pOfR_any cmbC u a w L hu la
theorem qInter_any (u v : Value) (a b : List Rc) (w : World) (L L2 : Nat) (hu : RdR w L w.heap.size u a) (hv : RdR w L2 w.heap.size v b) (lab : a.length + b.length ≤ 6000) : Calls Tryz.prog 21 #[u, v] w (RetRcs w (cmbR fAnd a b)) := pInterR_any cmbC interC u v a b w L L2 hu hv lab
theorem qSub_any (u v : Value) (a b : List Rc) (w : World) (L L2 : Nat) (hu : RdR w L w.heap.size u a) (hv : RdR w L2 w.heap.size v b) (lab : a.length + b.length ≤ 6000) : Calls Tryz.prog 23 #[u, v] w (RetRcs w (cmbR fSub a b)) := pSubR_any cmbC subC u v a b w L L2 hu hv lab
theorem qSlice_any (v : Value) (l : List Rc) (t : Int) (w : World) (L : Nat) (hv : RdR w L w.heap.size v l) (hlen : l.length ≤ 50000) : Calls Tryz.prog 12 #[v, .int .i64 t] w (RetPers w (slcR l t)) := pSlice_any ofC v l t w L hv hlen
theorem qSection_any (v : Value) (l : List Rc) (t : Int) (w : World) (L : Nat) (hv : RdR w L w.heap.size v l) (hlen : l.length ≤ 50000) : Calls Tryz.prog 14 #[v, .int .i64 t] w (RetPers w (secR l t)) := pSection_any ofC v l t w L hv hlen
set_option maxRecDepth 100000 in
set_option maxHeartbeats 3200000 in
theorem qUnion_any (u v : Value) (a b : List Rc) (w : World) (L L2 : Nat) (hu : RdR w L w.heap.size u a) (hv : RdR w L2 w.heap.size v b) (lab : a.length + b.length ≤ 6000) : Calls Tryz.prog 19 #[u, v] w (RetRcs w (cmbR fOr a b)) := by
  have hu0 := hu
  have hv0 := hv
  obtain ⟨A1, c1, rfl, _, _⟩ := hu
  obtain ⟨A2, c2, rfl, _, _⟩ := hv
  have bW : Below w.heap.size w (w.alloc (.cells #[.slice A1 a.length c1, .slice A2 b.length c2] 22)) := (Below.refl _ _).alloc (Nat.le_refl _) _
  have oW := Own.new w 22 #[.slice A1 a.length c1, .slice A2 b.length c2]
  have sW : w.heap.size < (w.alloc (.cells #[.slice A1 a.length c1, .slice A2 b.length c2] 22)).heap.size := by simp
  have HC := Lib.hid (concatR_any _ _ a b w.heap.size _ L L2 sW (oW.cell 0) (oW.cell 1) (hu0.step bW (Nat.le_refl _)) (hv0.step bW (Nat.le_refl _)) (by omega) (by omega))
  clear hu0 hv0 oW
  go_enter Tryz.func19, Tryz.ntmps19
  go_wp2_with fail
  with_reducible refine HC.out.mono ?_
  rintro e w3 ⟨v3, rfl, hown3, hb3⟩
  have B3 := bW.trans (hb3.mono bW.size)
  have HO := Lib.hid (qOf_any v3 (a ++ b) w3 _ (RdR.of_own hown3 (by rw [List.length_append]; omega)) (by rw [List.length_append]; omega))
  rw [cmb_un] at HO
  clear HC hown3 bW hb3
  go_wp2_with fail
  with_reducible refine HO.out.mono ?_
  rintro e w4 ⟨v4, rfl, hr4, hb4⟩
  have HX := Lib.hid (hr4.more (Nat.le_refl _) B3.size)
  obtain ⟨A4, c4, rfl, _, _⟩ := hr4
  go_wp2
  go_ret
  exact ⟨_, rfl, HX.out, B3.trans (hb4.mono B3.size)⟩
/-- A literal of rectangles. -/
theorem rdR_lit (W : World) (cs : Array Value) (l : List Rc) (n : Nat) (hn : l.length = n) (h : cs.toList = flatR l) (hl : n ≤ 1000) : RdR (W.alloc (.cells cs 35)) W.heap.size (W.alloc (.cells cs 35)).heap.size (.slice (some ⟨W.heap.size, 0, none⟩) n n) l := by
  subst hn
  have hsz : cs.size = l.length * 4 := by rw [← Array.length_toList, h, flatR_length]
  refine RdR.of_own (own_of_row (cur := cs) (Nat.le_refl _) (Own.new W _ _) (Nat.le_refl _) (by unfold maxLen; omega) hsz ?_) (by omega)
  rw [h]
  exact List.take_of_length_le (by rw [flatR_length]; exact Nat.le_refl _)
theorem rdP_lit (W : World) (cs : Array Value) (l : List (Int × Int)) (n : Nat) (hn : l.length = n) (h : cs.toList = flatP l) (hl : n ≤ 1000) : RdP (W.alloc (.cells cs 33)) W.heap.size (W.alloc (.cells cs 33)).heap.size (.slice (some ⟨W.heap.size, 0, none⟩) n n) l := by
  subst hn
  have hsz : cs.size = l.length * 2 := by rw [← Array.length_toList, h, flatP_length]
  refine RdP.of_own (own_of_row (cur := cs) (Nat.le_refl _) (Own.new W _ _) (Nat.le_refl _) (by unfold maxLen; omega) hsz ?_) (by omega)
  rw [h]
  exact List.take_of_length_le (by rw [flatP_length]; exact Nat.le_refl _)
end Go.Proofs.YtnbeopkpkagjmaaGreat
