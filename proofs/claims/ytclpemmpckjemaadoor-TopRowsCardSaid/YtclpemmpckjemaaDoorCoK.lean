/-
  The program's appendKey at a text: what it answers. Conditions: lengths.
-/
import Derived.Test.YtclpemmpckjemaaDoorCo9
import Derived.WalkKit
import Derived.WalkSpells
import Derived.WalkLawsBesides
import Derived.Deep.QuietTactic
import Derived.BigQuiet
import Derived.Handy
import Derived.Lib.Hide
namespace Go.Proofs.YtclpemmpckjemaaDoor
open Go.RowKit

/-- A byte that lies in a cell is read as a slice. -/
theorem rdB_one (W : World) (g : Nat) (b : UInt8) (hc : W.cell? ⟨g, 0, none⟩ = some (.int .u8 (b.toNat : Nat))) (hg : g < W.heap.size) : RdB W 0 W.heap.size (.slice (some ⟨g, 0, none⟩) 1 1) [b] :=
  ⟨_, _, rfl, by simp, by simp, fun k x hk => by
    have h0 : k = 0 := by have := (List.getElem?_eq_some_iff.1 hk).1; simp at this; exact this
    subst h0
    have hx : b = x := by simpa using hk
    subst hx
    exact ⟨_, rfl, Nat.zero_le _, hg, by rw [show (⟨g, 0, none⟩ : Addr).add 0 = ⟨g, 0, none⟩ by unfold Addr.add; simp]; exact hc⟩⟩
set_option maxRecDepth 100000 in
set_option maxHeartbeats 6400000 in
theorem appendKey_2 (v : Value) (l : List UInt8) (n : Int) (s : ByteArray) (w : World) (base : Nat) (hO : w.ownsRow base 5 1 v l.length (bytV l)) (hz : base ≤ w.heap.size) (hl : l.length + s.size ≤ 140737488355200) :
    Calls Tryd.prog 15 #[v, valV (2, n, s)] w (RetB base w (l ++ keyV (2, n, s))) := by
  have hB : Buf w base v l := .inl hO
  unfold valV
  dsimp only
  have HB := Lib.hid (fun X (h : Below w.heap.size w X) => (hB.to_n).step h hz)
  have HZ := Lib.hid (fun X (h : Below w.heap.size w X) => Nat.le_trans hz h.size)
  have HLK := Lib.hid (show l.length + ([3] : List UInt8).length ≤ 140737488355328 by simp; omega)
  have HE := Lib.hid (show l ++ keyV (2, n, s) = ((l ++ [3]) ++ s.data.toList) ++ [0] by show l ++ ([3] ++ s.data.toList ++ [0]) = _; simp [List.append_assoc])
  have HL2 := Lib.hid (show (l ++ [3]).length + s.size ≤ 140737488355328 by simp; omega)
  have HL3 := Lib.hid (show 0 < (l ++ [3]).length by simp)
  have HL4 := Lib.hid (show ((l ++ [3]) ++ s.data.toList).length + ([0] : List UInt8).length ≤ 140737488355328 by rw [List.length_append, size_list]; simp; omega)
  have HT := Lib.hid (fun v2 w2 ho2 hz2 => appendBytes_any v2 (l ++ [3]) s w2 base ho2 HL3.out hz2 HL2.out)
  have hc0 := fun o => box_cell w (.int .i64 2) (.int .i64 n) (.string s) 24 o 2 (.string s) rfl
  have HC0 := Lib.hid hc0
  clear hc0
  generalize hRR : l ++ keyV (2, n, s) = R at *
  have HRR := Lib.hid hRR
  clear hRR
  go_enter Tryd.func15, Tryd.ntmps15
  go_wp2_with fail
  go_region_law (first
    | (go_simp; go_at_call 31; refine (HT.out v2 _ (by first | exact ho2 | exact own_below ho2 (bel_mark w2 _)) (by first | exact hz2 | exact Nat.le_trans hz2 (bel_mark w2 _).size)).mono ?_; rintro e w3 ⟨⟨v3, rfl, ho3, hb3⟩, hf3⟩; have hb23 : Below base w2 w3 := (by first | exact hb3 | exact ((bel_mark w2 _).mono hz2).trans hb3); have hz3 := Nat.le_trans hz2 (Nat.le_trans (by first | exact Nat.le_refl _ | exact (bel_mark w2 _).size) hb3.size); have hs3 := hb3.size; (try simp only [World.size_alloc] at hs3); (try have hl31 : w3.cell? ⟨w.heap.size + 1, 0, none⟩ = some (.int .u8 0) := (hf3 ⟨w.heap.size + 1, 0, none⟩ (by show w.heap.size + 1 < w2.heap.size; omega) (fun g hg => by have h := hly2 g hg; show w.heap.size + 1 ≠ g; omega)).trans hl21); (try have hl32 : w3.cell? ⟨w.heap.size + 2, 0, none⟩ = some (.int .u8 0) := (hf3 ⟨w.heap.size + 2, 0, none⟩ (by show w.heap.size + 2 < w2.heap.size; omega) (fun g hg => by have h := hly2 g hg; show w.heap.size + 2 ≠ g; omega)).trans hl22); (first | (refine (fun (hl33 : w3.cell? ⟨w2.heap.size, 0, none⟩ = some (.int .u8 0)) => ?_) ?_; rotate_left; focus (refine (hf3 ⟨w2.heap.size, 0, none⟩ ?_ ?_).trans ?_; (focus (simp; done)); (focus (intro g hg; have h7 := (ho2.lt g hg).2; show w2.heap.size ≠ g; omega)); (focus (exact (Own.new w2 5 #[.int .u8 0]).cell 0)))) | skip))
    | (refine step_append_buf _ rfl _ _ rfl base v l rfl w.heap.size (HB.out _ (by repeat' (first | exact Below.refl _ _ | refine Below.drew ?_ | refine Below.alloc ?_ ?_ _ | go_size))) _ [3] 0 _ rfl (rdB_one _ _ 3 (by go_simp) (by first | (simp; done) | (simp; omega))) (by simp) HLK.out (HZ.out _ (by repeat' (first | exact Below.refl _ _ | refine Below.drew ?_ | refine Below.alloc ?_ ?_ _ | go_size))) ?_; intro v2 w2 ho2 hb2 hfar2 hly2; have hz2 := Nat.le_trans (HZ.out _ (by repeat' (first | exact Below.refl _ _ | refine Below.drew ?_ | refine Below.alloc ?_ ?_ _ | go_size))) hb2.size; have hs2 := hb2.size; (try simp only [World.size_alloc, World.size_drew] at hs2); (try simp only [World.size_alloc, World.size_drew] at hly2); have hcl2 := (hfar2 ⟨w.heap.size, 2, none⟩ (Nat.le_refl _) (by first | (simp; done) | (simp; omega))).trans (show _ = some (Value.string s) by (go_simp; done)); have hw2 : w.heap.size < w2.heap.size := (by first | omega | (simp at hs2; omega)); (first | (refine (fun (hl21 : w2.cell? ⟨w.heap.size + 1, 0, none⟩ = some (.int .u8 0)) => ?_) ?_; rotate_left; focus (refine (hfar2 ⟨w.heap.size + 1, 0, none⟩ (Nat.le_add_right _ _) ?_).trans ?_; (focus (first | (simp; done) | (simp; omega))); (focus (go_simp; done)))) | skip); (first | (refine (fun (hl22 : w2.cell? ⟨w.heap.size + 2, 0, none⟩ = some (.int .u8 0)) => ?_) ?_; rotate_left; focus (refine (hfar2 ⟨w.heap.size + 2, 0, none⟩ (Nat.le_add_right _ _) ?_).trans ?_; (focus (first | (simp; done) | (simp; omega))); (focus (go_simp; done)))) | skip))
    | (refine step_append_x _ rfl _ _ rfl base v3 ((l ++ [3]) ++ s.data.toList) rfl (by first | exact ho3 | exact own_below ho3 (bel_mark w3 _)) _ [0] 0 _ rfl (rdB_one _ _ 0 (by first | exact hl31 | exact hl32 | exact hl33 | go_simp) (by first | omega | (simp; done) | (simp; omega))) (by rintro n' c' h'; cases h') HL4.out (by first | exact hz3 | exact Nat.le_trans hz3 (bel_mark w3 _).size) ?_; intro v4 w4 ho4 hb4; have hb34 : Below base w3 w4 := by first | exact hb4 | exact ((bel_mark w3 _).mono hz3).trans hb4))
  all_goals (try go_wp2_with fail)
  all_goals go_ret
  all_goals (first | rw [HE.out] | rw [HRR.out, HE.out])
  all_goals exact ⟨_, rfl, ho4, (((Below.trans (by repeat' (first | exact Below.refl _ _ | refine Below.drew ?_ | refine Below.alloc ?_ ?_ _ | go_size)) hb2).trans hb23).trans hb34)⟩
end Go.Proofs.YtclpemmpckjemaaDoor
