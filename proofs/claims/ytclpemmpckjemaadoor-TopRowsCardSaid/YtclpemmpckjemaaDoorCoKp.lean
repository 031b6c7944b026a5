/-
  The program's appendKey at truth values and null, Key at any valid values: what each answers. Conditions: lengths.
-/
import Derived.Test.YtclpemmpckjemaaDoorCoR
import Derived.Test.YtclpemmpckjemaaDoorCoK
import Derived.WalkKit
import Derived.WalkSpells
import Derived.WalkLawsBesides
import Derived.Deep.QuietTactic
import Derived.BigQuiet
import Derived.Handy
import Derived.Lib.Hide
namespace Go.Proofs.YtclpemmpckjemaaDoor
open Go.RowKit

set_option maxRecDepth 100000 in
set_option maxHeartbeats 3200000 in
theorem appendKey_b0 (v : Value) (l : List UInt8) (w : World) (base : Nat) (hO : w.ownsRow base 5 1 v l.length (bytV l)) (hz : base ≤ w.heap.size) (hl : l.length ≤ 140737488355200) :
    Calls Tryd.prog 15 #[v, valV (3, 0, ⟨#[]⟩)] w (RetB base w (l ++ [4, 0])) := by
  unfold valV
  dsimp only
  have hB : Buf w base v l := .inl hO
  have HL := Lib.hid (show l.length + ([4, 0] : List UInt8).length ≤ 140737488355328 by simp; omega)
  have bW := bel_mark w (.cells #[.int .i64 3, .int .i64 0, .string ⟨#[]⟩] 24)
  have oW := Own.new w 24 #[.int .i64 3, .int .i64 0, .string ⟨#[]⟩]
  have d0 := oW.cell 0; have d1 := oW.cell 1; have d2 := oW.cell 2
  (try simp only [List.getElem?_toArray, List.getElem?_cons_zero, List.getElem?_cons_succ] at d0 d1 d2)
  have hlt := oW.lt
  have HB := Lib.hid (hB.step bW hz)
  have hzW := Nat.le_trans hz bW.size
  have f0 := fun p : After (w.alloc (.cells #[.int .i64 3, .int .i64 0, .string ⟨#[]⟩] 24)) => after_cell hlt d0 p
  have f1 := fun p : After (w.alloc (.cells #[.int .i64 3, .int .i64 0, .string ⟨#[]⟩] 24)) => after_cell hlt d1 p
  have f2 := fun p : After (w.alloc (.cells #[.int .i64 3, .int .i64 0, .string ⟨#[]⟩] 24)) => after_cell hlt d2 p
  have q1 := fun W => eql_lit 0 1 W
  have hT : ∀ W, Calls Tryd.prog 32 #[.bool true] W fun e w' => e = .returned (.agg #[.int .i64 3, .int .i64 1, .string ⟨#[]⟩]) ∧ Below W.heap.size W w' := fun W => pBool_any true W
  clear hB oW hO
  go_enter Tryd.func15, Tryd.ntmps15
  go_wp2_with fail
  generalize w.alloc (.cells #[.int .i64 3, .int .i64 0, .string ⟨#[]⟩] 24) = W at *
  (refine wp_region_after (by kernel_rfl) (by kernel_rfl) ?_; (repeat (go_big_quiet_step ((go_at_call 32; exact calls_after (hT _))))); refine wpQuiet_nil ?_; intro wq hw0; obtain ⟨⟨wq0, hbq⟩, hw1⟩ := hw0; subst hw1; (try dsimp only))
  clear f0 f1 f2 hT
  have b2 := bel_mark wq (.cells #[.int .u8 4, .int .u8 0] 5)
  have HAL := Lib.hid ((HB.out.step hbq hzW).step b2 (Nat.le_trans hzW hbq.size))
  have HRB := Lib.hid (rdB_bytes wq #[.int .u8 4, .int .u8 0] [4, 0] rfl 2 rfl (by simp))
  have hzb := Nat.le_trans (Nat.le_trans hzW hbq.size) b2.size
  have BW := (bW.mono hz).trans ((hbq.mono hzW).trans (b2.mono (Nat.le_trans hzW hbq.size)))
  clear b2 hbq q1
  go_wp2_with (at_builtin; refine append_buf _ rfl _ _ rfl base _ l rfl HAL.out _ [4, 0] _ _ rfl HRB.out (by simp) HL.out hzb ?_; intro v2 w2 ho2 hb2)
  go_ret
  exact ⟨_, rfl, ho2, BW.trans hb2⟩
set_option maxRecDepth 100000 in
set_option maxHeartbeats 3200000 in
theorem appendKey_b1 (v : Value) (l : List UInt8) (w : World) (base : Nat) (hO : w.ownsRow base 5 1 v l.length (bytV l)) (hz : base ≤ w.heap.size) (hl : l.length ≤ 140737488355200) :
    Calls Tryd.prog 15 #[v, valV (3, 1, ⟨#[]⟩)] w (RetB base w (l ++ [4, 1])) := by
  unfold valV
  dsimp only
  have hB : Buf w base v l := .inl hO
  have HL := Lib.hid (show l.length + ([4, 1] : List UInt8).length ≤ 140737488355328 by simp; omega)
  have bW := bel_mark w (.cells #[.int .i64 3, .int .i64 1, .string ⟨#[]⟩] 24)
  have oW := Own.new w 24 #[.int .i64 3, .int .i64 1, .string ⟨#[]⟩]
  have d0 := oW.cell 0; have d1 := oW.cell 1; have d2 := oW.cell 2
  (try simp only [List.getElem?_toArray, List.getElem?_cons_zero, List.getElem?_cons_succ] at d0 d1 d2)
  have hlt := oW.lt
  have HB := Lib.hid (hB.step bW hz)
  have hzW := Nat.le_trans hz bW.size
  have f0 := fun p : After (w.alloc (.cells #[.int .i64 3, .int .i64 1, .string ⟨#[]⟩] 24)) => after_cell hlt d0 p
  have f1 := fun p : After (w.alloc (.cells #[.int .i64 3, .int .i64 1, .string ⟨#[]⟩] 24)) => after_cell hlt d1 p
  have f2 := fun p : After (w.alloc (.cells #[.int .i64 3, .int .i64 1, .string ⟨#[]⟩] 24)) => after_cell hlt d2 p
  have q1 := fun W => eql_lit 1 1 W
  have hT : ∀ W, Calls Tryd.prog 32 #[.bool true] W fun e w' => e = .returned (.agg #[.int .i64 3, .int .i64 1, .string ⟨#[]⟩]) ∧ Below W.heap.size W w' := fun W => pBool_any true W
  clear hB oW hO
  go_enter Tryd.func15, Tryd.ntmps15
  go_wp2_with fail
  generalize w.alloc (.cells #[.int .i64 3, .int .i64 1, .string ⟨#[]⟩] 24) = W at *
  (refine wp_region_after (by kernel_rfl) (by kernel_rfl) ?_; (repeat (go_big_quiet_step ((go_at_call 32; exact calls_after (hT _))))); refine wpQuiet_nil ?_; intro wq hw0; obtain ⟨⟨wq0, hbq⟩, hw1⟩ := hw0; subst hw1; (try dsimp only))
  clear f0 f1 f2 hT
  have b2 := bel_mark wq (.cells #[.int .u8 4, .int .u8 1] 5)
  have HAL := Lib.hid ((HB.out.step hbq hzW).step b2 (Nat.le_trans hzW hbq.size))
  have HRB := Lib.hid (rdB_bytes wq #[.int .u8 4, .int .u8 1] [4, 1] rfl 2 rfl (by simp))
  have hzb := Nat.le_trans (Nat.le_trans hzW hbq.size) b2.size
  have BW := (bW.mono hz).trans ((hbq.mono hzW).trans (b2.mono (Nat.le_trans hzW hbq.size)))
  clear b2 hbq q1
  go_wp2_with (at_builtin; refine append_buf _ rfl _ _ rfl base _ l rfl HAL.out _ [4, 1] _ _ rfl HRB.out (by simp) HL.out hzb ?_; intro v2 w2 ho2 hb2)
  go_ret
  exact ⟨_, rfl, ho2, BW.trans hb2⟩
set_option maxRecDepth 100000 in
set_option maxHeartbeats 3200000 in
theorem appendKey_null (v : Value) (l : List UInt8) (w : World) (base : Nat) (hO : w.ownsRow base 5 1 v l.length (bytV l)) (hz : base ≤ w.heap.size) (hl : l.length ≤ 140737488355200) :
    Calls Tryd.prog 15 #[v, valV (0, 0, ⟨#[]⟩)] w (RetB base w (l ++ [1])) := by
  unfold valV
  dsimp only
  have hB : Buf w base v l := .inl hO
  have HL := Lib.hid (show l.length + ([1] : List UInt8).length ≤ 140737488355328 by simp; omega)
  have b1 := bel_mark w (.cells #[.int .i64 0, .int .i64 0, .string ⟨#[]⟩] 24)
  have b2 := bel_mark (w.alloc (.cells #[.int .i64 0, .int .i64 0, .string ⟨#[]⟩] 24)) (.cells #[.int .u8 1] 5)
  have hz1 := Nat.le_trans hz b1.size
  have HAL := Lib.hid ((hB.step b1 hz).step b2 hz1)
  have HRB := Lib.hid (rdB_at (w.alloc (.cells #[.int .i64 0, .int .i64 0, .string ⟨#[]⟩] 24)) (w.heap.size + 1) (by simp) 1 (1 : UInt8) rfl)
  have hzb := Nat.le_trans hz1 b2.size
  have HBW := Lib.hid ((b1.mono hz).trans (b2.mono hz1))
  clear b1 b2 hB hO
  go_enter Tryd.func15, Tryd.ntmps15
  go_wp2_with (at_builtin; refine append_buf _ rfl _ _ rfl base _ l rfl HAL.out _ [1] _ _ rfl HRB.out (by simp) HL.out hzb ?_; intro v2 w2 ho2 hb2)
  go_ret
  exact ⟨_, rfl, ho2, HBW.out.trans hb2⟩
theorem appendKey_any (v : Value) (l : List UInt8) (p : Vl) (hok : okP p = true) (w : World) (base : Nat) (hO : w.ownsRow base 5 1 v l.length (bytV l)) (hz : base ≤ w.heap.size) (hl : l.length + p.2.2.size ≤ 140737488355200) :
    Calls Tryd.prog 15 #[v, valV p] w (RetB base w (l ++ keyV p)) := by
  rcases okP_cases hok with rfl | ⟨n, rfl, h1, h2⟩ | ⟨s, rfl, h1, h2⟩ | rfl | rfl
  · exact appendKey_null v l w base hO hz (by omega)
  · exact appendKey_1 v l n ⟨#[]⟩ ⟨by omega, by omega⟩ w base hO hz hl
  · exact appendKey_2 v l 0 s w base hO hz hl
  · exact appendKey_b0 v l w base hO hz (by omega)
  · exact appendKey_b1 v l w base hO hz (by omega)
theorem keyV_len (p : Vl) (h : okP p = true) : (keyV p).length ≤ 11 + p.2.2.size := by
  rcases okP_cases h with rfl | ⟨n, rfl, h1, h2⟩ | ⟨s, rfl, h1, h2⟩ | rfl | rfl
  · decide
  · show ([2] ++ ordB (shf n)).length ≤ 11 + _
    simp [ordB]
    omega
  · show ([3] ++ s.data.toList ++ [0]).length ≤ 11 + s.size
    simp only [List.length_append, size_list, List.length_cons, List.length_nil]
    omega
  · decide
  · decide
theorem keyL_len : ∀ (ps : List Vl), okL ps = true → (keyL ps).length ≤ szL ps := by
  intro ps
  induction ps with
  | nil => intro _; simp [keyL, szL]
  | cons p ps ih =>
    intro h
    unfold okL at h ih
    simp only [List.all_cons, Bool.and_eq_true] at h
    have h1 := keyV_len p h.1
    have h2 := ih h.2
    unfold keyL szL at h2 ⊢
    simp only [List.map_cons, List.flatten_cons, List.length_append, List.sum_cons]
    omega
theorem pKey_any (v : Value) (ps : List Vl) (hok : okL ps = true) (w : World) (L : Nat) (hv : RdV w L w.heap.size v ps) (hl : szL ps ≤ 140737488355200) :
    Calls Tryd.prog 5 #[v] w (RetB w.heap.size w (keyL ps)) :=
  Key_any v ps w L hv fun k p u W hk ho hz => by
    have hp := okL_at hok hk
    have h1 := keyL_len _ (okL_take hok k)
    have h2 := szL_take ps k p hk
    obtain ⟨hk1, hk2⟩ := List.getElem?_eq_some_iff.1 hk
    rw [keyL_succ ps k hk1, hk2]
    exact appendKey_any u _ p hp W w.heap.size ho hz (by omega)
end Go.Proofs.YtclpemmpckjemaaDoor
