/-
  The program's appendValue and PutValue at a text, appendKey at numbers and texts: what each answers. Conditions: lengths, numbers of 64 bits.
-/
import Derived.Test.YtclpemmpckjemaaDoorCoS
import Derived.Deep.RegionWith
import Derived.WalkKit
import Derived.WalkSpells
import Derived.WalkLawsBesides
import Derived.Deep.QuietTactic
import Derived.BigQuiet
import Derived.Handy
import Derived.Lib.Hide
namespace Go.Proofs.YtclpemmpckjemaaDoor
open Go.RowKit

/-- A value: its kind, its number, its text. -/
abbrev Vl := Int × Int × ByteArray
def valV (p : Vl) : Value := .agg #[.int .i64 p.1, .int .i64 p.2.1, .string p.2.2]
/-- The key of a value. -/
def keyV (p : Vl) : List UInt8 := if p.1 = 1 then [2] ++ ordB (shf p.2.1) else if p.1 = 2 then [3] ++ p.2.2.data.toList ++ [0] else if p.1 = 3 then [4, UInt8.ofNat (p.2.1 % 2).toNat] else [1]
theorem rdB_drew {w : World} {L B : Nat} {v : Value} {l : List UInt8} (h : RdB w L B v l) : RdB w.drew L B v l := h
theorem rdB_at (w : World) (g : Nat) (hg : g = w.heap.size) (X : Int) (b : UInt8) (hX : X = (b.toNat : Int)) : RdB (w.alloc (.cells #[.int .u8 X] 5)) 0 (w.alloc (.cells #[.int .u8 X] 5)).heap.size (.slice (some ⟨g, 0, none⟩) 1 1) [b] := by
  subst hg; exact rdB_byte w X b hX
theorem box_cell (w : World) (a b c : Value) (t : TypeId) (o : Obj) (i : Nat) (x : Value) (h : #[a, b, c][i]? = some x) : ((w.alloc (.cells #[a, b, c] t)).alloc o).cell? ⟨w.heap.size, i, none⟩ = some x := by
  have o1 := (Own.new w t #[a, b, c]).alloc o
  rw [o1.cell i]
  exact h
set_option maxRecDepth 100000 in
set_option maxHeartbeats 3200000 in
theorem appendValue_text (v : Value) (l : List UInt8) (n : Int) (s : ByteArray) (w : World) (base : Nat) (hB : Buf w base v l) (hz : base ≤ w.heap.size) (hl : l.length + s.size ≤ 140737488355200) :
    Calls Tryd.prog 23 #[v, valV (2, n, s)] w (RetB base w (l ++ ([2] ++ textB s))) := by
  unfold valV
  dsimp only
  have HB := Lib.hid (fun X (h : Below w.heap.size w X) => (hB.to_n).step h hz)
  have HZ := Lib.hid (fun X (h : Below w.heap.size w X) => Nat.le_trans hz h.size)
  have HLK := Lib.hid (show l.length + ([2] : List UInt8).length ≤ 140737488355328 by simp; omega)
  have HE := Lib.hid (show l ++ ([2] ++ textB s) = (l ++ [2]) ++ textB s by rw [List.append_assoc])
  have HL2 := Lib.hid (show (l ++ [2]).length + s.size ≤ 140737488355300 by simp; omega)
  have HT := Lib.hid (fun v2 w2 ho2 hz2 => appendText_any v2 (l ++ [2]) s w2 base (.inl ho2) hz2 HL2.out)
  have hc0 := fun o => box_cell w (.int .i64 2) (.int .i64 n) (.string s) 24 o 2 (.string s) rfl
  have HC0 := Lib.hid hc0
  clear hc0
  generalize hRR : l ++ ([2] ++ textB s) = R at *
  have HRR := Lib.hid hRR
  clear hRR
  go_enter Tryd.func23, Tryd.ntmps23
  go_wp2_with fail
  go_region_law (first
    | (go_simp; go_at_call 35; refine (HT.out v2 w2 ho2 (Nat.le_trans (HZ.out _ (by (repeat' (first | (with_reducible exact Below.refl _ _) | (with_reducible assumption) | (with_reducible refine Below.alloc ?_ ?_ _) | (with_reducible refine Below.drew ?_) | (with_reducible refine Below.setCell ?_ ?_ _) | (with_reducible refine Below.trans ?_ (Below.mono (by assumption) ?_)) | go_size)))) hb2.size)).mono ?_; rintro e w3 ⟨v3, rfl, ho3, hb3⟩)
    | (refine step_append_buf _ rfl _ _ rfl base v l rfl w.heap.size (HB.out _ (by (repeat' (first | (with_reducible exact Below.refl _ _) | (with_reducible assumption) | (with_reducible refine Below.alloc ?_ ?_ _) | (with_reducible refine Below.drew ?_) | (with_reducible refine Below.setCell ?_ ?_ _) | (with_reducible refine Below.trans ?_ (Below.mono (by assumption) ?_)) | go_size)))) _ [2] 0 _ rfl (by first | exact rdB_drew (rdB_at (w.alloc (.cells #[.int .i64 2, .int .i64 n, .string s] 24)) (w.heap.size + 1) (by simp) 2 (2 : UInt8) rfl) | exact rdB_at (w.alloc (.cells #[.int .i64 2, .int .i64 n, .string s] 24)).drew (w.heap.size + 1) (by simp) 2 (2 : UInt8) rfl) (by simp) HLK.out (HZ.out _ (by (repeat' (first | (with_reducible exact Below.refl _ _) | (with_reducible assumption) | (with_reducible refine Below.alloc ?_ ?_ _) | (with_reducible refine Below.drew ?_) | (with_reducible refine Below.setCell ?_ ?_ _) | (with_reducible refine Below.trans ?_ (Below.mono (by assumption) ?_)) | go_size)))) ?_; intro v2 w2 ho2 hb2 hfar2 hly2; have hcl2 := (hfar2 ⟨w.heap.size, 2, none⟩ (Nat.le_refl _) (by first | (simp; done) | (simp; omega))).trans (HC0.out _)))
  all_goals (try go_wp2_with fail)
  all_goals go_ret
  all_goals (first | rw [HE.out] | rw [HRR.out, HE.out])
  all_goals exact ⟨_, rfl, ho3, (Below.trans (by repeat' (first | exact Below.refl _ _ | refine Below.drew ?_ | refine Below.alloc ?_ ?_ _ | go_size)) hb2).trans hb3⟩
set_option maxRecDepth 100000 in
set_option maxHeartbeats 3200000 in
theorem appendKey_1 (v : Value) (l : List UInt8) (n : Int) (s : ByteArray) (hn : I64 n) (w : World) (base : Nat) (hO : w.ownsRow base 5 1 v l.length (bytV l)) (hz : base ≤ w.heap.size) (hl : l.length + s.size ≤ 140737488355200) :
    Calls Tryd.prog 15 #[v, valV (1, n, s)] w (RetB base w (l ++ keyV (1, n, s))) := by
  have hB : Buf w base v l := .inl hO
  unfold valV
  dsimp only
  have HB := Lib.hid (fun X (h : Below w.heap.size w X) => (hB.to_n).step h hz)
  have HZ := Lib.hid (fun X (h : Below w.heap.size w X) => Nat.le_trans hz h.size)
  have HLK := Lib.hid (show l.length + ([2] : List UInt8).length ≤ 140737488355328 by simp; omega)
  have HE := Lib.hid (show l ++ keyV (1, n, s) = (l ++ [2]) ++ ordB (shf n) by rw [List.append_assoc]; rfl)
  have HL2 := Lib.hid (show (l ++ [2]).length ≤ 140737488355300 by simp; omega)
  have HT := Lib.hid (fun v2 w2 ho2 hz2 => appendOrdered_any v2 (l ++ [2]) n hn w2 base ho2 hz2 HL2.out)
  have hc0 := fun o => box_cell w (.int .i64 1) (.int .i64 n) (.string s) 24 o 1 (.int .i64 n) rfl
  have HC0 := Lib.hid hc0
  clear hc0
  generalize hRR : l ++ keyV (1, n, s) = R at *
  have HRR := Lib.hid hRR
  clear hRR
  go_enter Tryd.func15, Tryd.ntmps15
  go_wp2_with fail
  go_region_law (first
    | (go_simp; go_at_call 30; refine (HT.out v2 w2 ho2 (Nat.le_trans (HZ.out _ (by (repeat' (first | (with_reducible exact Below.refl _ _) | (with_reducible assumption) | (with_reducible refine Below.alloc ?_ ?_ _) | (with_reducible refine Below.drew ?_) | (with_reducible refine Below.setCell ?_ ?_ _) | (with_reducible refine Below.trans ?_ (Below.mono (by assumption) ?_)) | go_size)))) hb2.size)).mono ?_; rintro e w3 ⟨v3, rfl, ho3, hb3⟩)
    | (refine step_append_buf _ rfl _ _ rfl base v l rfl w.heap.size (HB.out _ (by (repeat' (first | (with_reducible exact Below.refl _ _) | (with_reducible assumption) | (with_reducible refine Below.alloc ?_ ?_ _) | (with_reducible refine Below.drew ?_) | (with_reducible refine Below.setCell ?_ ?_ _) | (with_reducible refine Below.trans ?_ (Below.mono (by assumption) ?_)) | go_size)))) _ [2] 0 _ rfl (by first | exact rdB_drew (rdB_at (w.alloc (.cells #[.int .i64 1, .int .i64 n, .string s] 24)) (w.heap.size + 1) (by simp) 2 (2 : UInt8) rfl) | exact rdB_at (w.alloc (.cells #[.int .i64 1, .int .i64 n, .string s] 24)).drew (w.heap.size + 1) (by simp) 2 (2 : UInt8) rfl) (by simp) HLK.out (HZ.out _ (by (repeat' (first | (with_reducible exact Below.refl _ _) | (with_reducible assumption) | (with_reducible refine Below.alloc ?_ ?_ _) | (with_reducible refine Below.drew ?_) | (with_reducible refine Below.setCell ?_ ?_ _) | (with_reducible refine Below.trans ?_ (Below.mono (by assumption) ?_)) | go_size)))) ?_; intro v2 w2 ho2 hb2 hfar2 hly2; have hcl2 := (hfar2 ⟨w.heap.size, 1, none⟩ (Nat.le_refl _) (by first | (simp; done) | (simp; omega))).trans (HC0.out _)))
  all_goals (try go_wp2_with fail)
  all_goals go_ret
  all_goals (first | rw [HE.out] | rw [HRR.out, HE.out])
  all_goals exact ⟨_, rfl, ho3, (Below.trans (by repeat' (first | exact Below.refl _ _ | refine Below.drew ?_ | refine Below.alloc ?_ ?_ _ | go_size)) hb2).trans hb3⟩
end Go.Proofs.YtclpemmpckjemaaDoor
