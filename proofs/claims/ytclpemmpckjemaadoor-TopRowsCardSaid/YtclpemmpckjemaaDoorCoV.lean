/-
  appendValue and PutValue of the program, PutValue of the reference, at any valid value: what each answers. Conditions: lengths.
-/
import Derived.Test.YtclpemmpckjemaaDoorCo9
import Derived.Test.YtclpemmpckjemaaDoorCoTb
import Derived.Deep.RegionWith
import Derived.Deep.RegionHeld3
import Derived.Laws.StructEq
import Derived.WalkKit
import Derived.WalkSpells
import Derived.WalkLawsBesides
import Derived.Deep.QuietTactic
import Derived.BigQuiet
import Derived.Handy
import Derived.Lib.Hide
namespace Go.Proofs.YtclpemmpckjemaaDoor
open Go.RowKit

/-- Whether a text is printable: all bytes from 32 to 126. -/
def prnB (l : List UInt8) : Bool := l.all fun b => decide (32 ≤ b.toNat) && decide (b.toNat ≤ 126)
/-- Whether p is a value. -/
def okP (p : Vl) : Bool :=
  if p.1 = 0 then decide (p.2.1 = 0) && (p.2.2.toList == [])
  else if p.1 = 1 then decide (-1125899906842624 ≤ p.2.1) && decide (p.2.1 ≤ 1125899906842624) && (p.2.2.toList == [])
  else if p.1 = 2 then decide (p.2.1 = 0) && decide (p.2.2.size ≤ 200) && prnB p.2.2.data.toList
  else if p.1 = 3 then (decide (p.2.1 = 0) || decide (p.2.1 = 1)) && (p.2.2.toList == [])
  else false
/-- The bytes of a value. -/
def encV (p : Vl) : List UInt8 := if p.1 = 1 then [1] ++ vint (zig p.2.1) else if p.1 = 2 then [2] ++ textB p.2.2 else if p.1 = 3 then [if p.2.1 = 1 then 4 else 3] else [0]
theorem emp_eq {s : ByteArray} (h : (s.toList == []) = true) : s = ⟨#[]⟩ := by
  have h1 : s.toList = [] := by simpa using h
  have h2 : s.data.toList = [] := by rw [← Lib.toList_data]; exact h1
  cases s with
  | mk d =>
    have h3 : d = #[] := by simpa using h2
    rw [h3]
/-- The values, kind by kind. -/
theorem okP_cases {p : Vl} (h : okP p = true) : p = (0, 0, ⟨#[]⟩) ∨ (∃ n, p = (1, n, ⟨#[]⟩) ∧ -1125899906842624 ≤ n ∧ n ≤ 1125899906842624) ∨ (∃ s, p = (2, 0, s) ∧ s.size ≤ 200 ∧ prnB s.data.toList = true) ∨ p = (3, 0, ⟨#[]⟩) ∨ p = (3, 1, ⟨#[]⟩) := by
  obtain ⟨k, n, s⟩ := p
  unfold okP at h
  dsimp only at h
  split at h
  · rename_i hk
    simp only [Bool.and_eq_true, decide_eq_true_eq] at h
    obtain ⟨h1, h2⟩ := h
    subst hk h1
    rw [emp_eq h2]; exact .inl rfl
  · split at h
    · rename_i hk
      simp only [Bool.and_eq_true, decide_eq_true_eq] at h
      obtain ⟨⟨h1, h3⟩, h2⟩ := h
      subst hk
      rw [emp_eq h2]; exact .inr (.inl ⟨n, rfl, h1, h3⟩)
    · split at h
      · rename_i hk
        simp only [Bool.and_eq_true, decide_eq_true_eq] at h
        obtain ⟨⟨h1, h3⟩, h2⟩ := h
        subst hk h1
        exact .inr (.inr (.inl ⟨s, rfl, h3, h2⟩))
      · split at h
        · rename_i hk
          simp only [Bool.and_eq_true, Bool.or_eq_true, decide_eq_true_eq] at h
          obtain ⟨h1, h2⟩ := h
          subst hk
          rw [emp_eq h2]
          rcases h1 with rfl | rfl
          · exact .inr (.inr (.inr (.inl rfl)))
          · exact .inr (.inr (.inr (.inr rfl)))
        · cases h
theorem load_val {w : World} {g : Nat} {x y z : Value} (h : Own w g 24 #[x, y, z]) : (loadVar 24 ⟨g, 0, none⟩).run Tryd.prog w = .ok (.agg #[x, y, z]) w :=
  run_loadVar_row w g 24 24 #[x, y, z] (0, 0) _ h Tryd.underlying24 rfl (by kernel_rfl)
theorem results_cell_row1 {fn : Func} {p : Tmp} {ty : TypeId} (h : fn.results = #[.cell p ty]) (tmps : Array Value) (w : World) (g : Nat) (cs : Array Value) (hp : tmps.getD p undef = .pointer (some ⟨g, 0, none⟩))
    (hl : (loadVar ty ⟨g, 0, none⟩).run Tryd.prog w = .ok (.agg cs) w) : (results fn tmps).run Tryd.prog w = .ok (.agg cs) w := by
  have hp' : tmps[p]?.getD undef = .pointer (some ⟨g, 0, none⟩) := by simpa using hp
  simp [results, h, hp', asAddr, hl]
set_option maxHeartbeats 400000 in
theorem pNull_any (w : World) : Calls Tryd.prog 38 #[] w fun e w' => e = .returned (valV (0, 0, ⟨#[]⟩)) ∧ Below w.heap.size w w' := by
  go_enter Tryd.func38, Tryd.ntmps38
  go_wp2
  (try simp only [Exit.inBlock, Exit.then]); refine bodyPost_ret_by (results_cell_row1 (by rfl) _ _ (w.heap.size) _ (by rfl) (load_val (Own.new _ _ _))) ?_ ?_; (focus rfl); refine ⟨rfl, ?_⟩
  (repeat' (first | (with_reducible exact Below.refl _ _) | (with_reducible assumption) | (with_reducible refine Below.alloc ?_ ?_ _) | (with_reducible refine Below.drew ?_) | (with_reducible refine Below.setCell ?_ ?_ _) | (with_reducible refine Below.trans ?_ (Below.mono (by assumption) ?_)) | go_size))
set_option maxHeartbeats 400000 in
theorem pBool_any (b : Bool) (w : World) : Calls Tryd.prog 32 #[.bool b] w fun e w' => e = .returned (.agg #[.int .i64 3, .int .i64 (if b then 1 else 0), .string ⟨#[]⟩]) ∧ Below w.heap.size w w' := by
  cases b
  all_goals
    go_enter Tryd.func32, Tryd.ntmps32
    go_wp2
    (try simp only [Exit.inBlock, Exit.then]); refine bodyPost_ret_by (results_cell_row1 (by rfl) _ _ (w.heap.size) _ (by rfl) (load_val (Own.new _ _ _))) ?_ ?_; (focus rfl); refine ⟨rfl, ?_⟩
    (repeat' (first | (with_reducible exact Below.refl _ _) | (with_reducible assumption) | (with_reducible refine Below.alloc ?_ ?_ _) | (with_reducible refine Below.drew ?_) | (with_reducible refine Below.setCell ?_ ?_ _) | (with_reducible refine Below.trans ?_ (Below.mono (by assumption) ?_)) | go_size))
theorem eql_lit (n n2 : Int) (w : World) : (binOp .eql 24 (.agg #[.int .i64 3, .int .i64 n, .string ⟨#[]⟩]) (.agg #[.int .i64 3, .int .i64 n2, .string ⟨#[]⟩])).run Tryd.prog w = .ok (.bool (decide (n = n2))) w := by
  rw [run_eql_struct, run_equalIn_struct w 9999 24 _ _ (by kernel_rfl) (by kernel_rfl)]
  simp [Program.fieldsOf, Op.eqFields, Tryd.underlying24, Tryd.underlying3, Tryd.underlying9, part, isAgg, go_sem]
  by_cases h : n = n2 <;> simp [h]
set_option maxRecDepth 100000 in
set_option maxHeartbeats 3200000 in
theorem appendValue_num (v : Value) (l : List UInt8) (n : Int) (s : ByteArray) (hn : I64 n) (w : World) (base : Nat) (hB : Buf w base v l) (hz : base ≤ w.heap.size) (hl : l.length + s.size ≤ 140737488355200) :
    Calls Tryd.prog 23 #[v, valV (1, n, s)] w (RetB base w (l ++ ([1] ++ vint (zig n)))) := by
  unfold valV
  dsimp only
  have HB := Lib.hid (fun X (h : Below w.heap.size w X) => (hB.to_n).step h hz)
  have HZ := Lib.hid (fun X (h : Below w.heap.size w X) => Nat.le_trans hz h.size)
  have HLK := Lib.hid (show l.length + ([1] : List UInt8).length ≤ 140737488355328 by simp; omega)
  have HE := Lib.hid (show l ++ ([1] ++ vint (zig n)) = (l ++ [1]) ++ vint (zig n) by rw [List.append_assoc])
  have HL2 := Lib.hid (show (l ++ [1]).length ≤ 140737488355300 by simp; omega)
  have HT := Lib.hid (fun v2 w2 ho2 hz2 => appendInt_any v2 (l ++ [1]) n hn w2 base (.inl ho2) hz2 HL2.out)
  have hc0 := fun o => box_cell w (.int .i64 1) (.int .i64 n) (.string s) 24 o 1 (.int .i64 n) rfl
  have HC0 := Lib.hid hc0
  clear hc0
  generalize hRR : l ++ ([1] ++ vint (zig n)) = R at *
  have HRR := Lib.hid hRR
  clear hRR
  go_enter Tryd.func23, Tryd.ntmps23
  go_wp2_with fail
  go_region_law (first
    | (go_simp; go_at_call 21; refine (HT.out v2 w2 ho2 (Nat.le_trans (HZ.out _ (by (repeat' (first | (with_reducible exact Below.refl _ _) | (with_reducible assumption) | (with_reducible refine Below.alloc ?_ ?_ _) | (with_reducible refine Below.drew ?_) | (with_reducible refine Below.setCell ?_ ?_ _) | (with_reducible refine Below.trans ?_ (Below.mono (by assumption) ?_)) | go_size)))) hb2.size)).mono ?_; rintro e w3 ⟨v3, rfl, ho3, hb3⟩)
    | (refine step_append_buf _ rfl _ _ rfl base v l rfl w.heap.size (HB.out _ (by (repeat' (first | (with_reducible exact Below.refl _ _) | (with_reducible assumption) | (with_reducible refine Below.alloc ?_ ?_ _) | (with_reducible refine Below.drew ?_) | (with_reducible refine Below.setCell ?_ ?_ _) | (with_reducible refine Below.trans ?_ (Below.mono (by assumption) ?_)) | go_size)))) _ [1] 0 _ rfl (by first | exact rdB_drew (rdB_at (w.alloc (.cells #[.int .i64 1, .int .i64 n, .string s] 24)) (w.heap.size + 1) (by simp) 1 (1 : UInt8) rfl) | exact rdB_at (w.alloc (.cells #[.int .i64 1, .int .i64 n, .string s] 24)).drew (w.heap.size + 1) (by simp) 1 (1 : UInt8) rfl) (by simp) HLK.out (HZ.out _ (by (repeat' (first | (with_reducible exact Below.refl _ _) | (with_reducible assumption) | (with_reducible refine Below.alloc ?_ ?_ _) | (with_reducible refine Below.drew ?_) | (with_reducible refine Below.setCell ?_ ?_ _) | (with_reducible refine Below.trans ?_ (Below.mono (by assumption) ?_)) | go_size)))) ?_; intro v2 w2 ho2 hb2 hfar2 hly2; have hcl2 := (hfar2 ⟨w.heap.size, 1, none⟩ (Nat.le_refl _) (by first | (simp; done) | (simp; omega))).trans (HC0.out _)))
  all_goals (try go_wp2_with fail)
  all_goals go_ret
  all_goals (first | rw [HE.out] | rw [HRR.out, HE.out])
  all_goals exact ⟨_, rfl, ho3, (Below.trans (by repeat' (first | exact Below.refl _ _ | refine Below.drew ?_ | refine Below.alloc ?_ ?_ _ | go_size)) hb2).trans hb3⟩
set_option maxRecDepth 100000 in
set_option maxHeartbeats 3200000 in
theorem appendValue_b0 (v : Value) (l : List UInt8) (w : World) (base : Nat) (hB : Buf w base v l) (hz : base ≤ w.heap.size) (hl : l.length ≤ 140737488355200) :
    Calls Tryd.prog 23 #[v, valV (3, 0, ⟨#[]⟩)] w (RetB base w (l ++ [3])) := by
  unfold valV
  dsimp only
  have HL := Lib.hid (show l.length + ([3] : List UInt8).length ≤ 140737488355328 by simp; omega)
  have bW := bel_mark w (.cells #[.int .i64 3, .int .i64 0, .string ⟨#[]⟩] 24)
  have oW := Own.new w 24 #[.int .i64 3, .int .i64 0, .string ⟨#[]⟩]
  have d0 := oW.cell 0; have d1 := oW.cell 1; have d2 := oW.cell 2
  (try simp only [List.getElem?_toArray, List.getElem?_cons_zero, List.getElem?_cons_succ] at d0 d1 d2)
  have hlt := oW.lt
  have HB := Lib.hid (hB.step bW hz)
  have hzW := Nat.le_trans hz bW.size
  have f0 := fun p : After (w.alloc (.cells #[.int .i64 3, .int .i64 0, .string ⟨#[]⟩] 24)) => after_cell hlt d0 p
  have f1 := fun p : After (w.alloc (.cells #[.int .i64 3, .int .i64 0, .string ⟨#[]⟩] 24)) => after_cell hlt d1 p
  have f2 := fun p : After (w.alloc (.cells #[.int .i64 3, .int .i64 0, .string ⟨#[]⟩] 24)) => after_cell hlt d2 p
  have q1 := fun W => eql_lit 0 1 W
  have hT : ∀ W, Calls Tryd.prog 32 #[.bool true] W fun e w' => e = .returned (.agg #[.int .i64 3, .int .i64 1, .string ⟨#[]⟩]) ∧ Below W.heap.size W w' := fun W => pBool_any true W
  clear hB oW
  go_enter Tryd.func23, Tryd.ntmps23
  go_wp2_with fail
  generalize w.alloc (.cells #[.int .i64 3, .int .i64 0, .string ⟨#[]⟩] 24) = W at *
  (refine wp_region_after (by kernel_rfl) (by kernel_rfl) ?_; (repeat (go_big_quiet_step ((go_at_call 32; exact calls_after (hT _))))); refine wpQuiet_nil ?_; intro wq hw0; obtain ⟨⟨wq0, hbq⟩, hw1⟩ := hw0; subst hw1; (try dsimp only))
  clear f0 f1 f2 hT
  have b2 := bel_mark wq (.cells #[.int .u8 3] 5)
  have HAL := Lib.hid ((HB.out.step hbq hzW).step b2 (Nat.le_trans hzW hbq.size))
  have HRB := Lib.hid (rdB_byte wq 3 (3 : UInt8) rfl)
  have hzb := Nat.le_trans (Nat.le_trans hzW hbq.size) b2.size
  have BW := (bW.mono hz).trans ((hbq.mono hzW).trans (b2.mono (Nat.le_trans hzW hbq.size)))
  clear b2 hbq q1
  go_wp2_with (at_builtin; refine append_buf _ rfl _ _ rfl base _ l rfl HAL.out _ [3] _ _ rfl HRB.out (by simp) HL.out hzb ?_; intro v2 w2 ho2 hb2)
  go_ret
  exact ⟨_, rfl, ho2, BW.trans hb2⟩
set_option maxRecDepth 100000 in
set_option maxHeartbeats 3200000 in
theorem appendValue_b1 (v : Value) (l : List UInt8) (w : World) (base : Nat) (hB : Buf w base v l) (hz : base ≤ w.heap.size) (hl : l.length ≤ 140737488355200) :
    Calls Tryd.prog 23 #[v, valV (3, 1, ⟨#[]⟩)] w (RetB base w (l ++ [4])) := by
  unfold valV
  dsimp only
  have HL := Lib.hid (show l.length + ([4] : List UInt8).length ≤ 140737488355328 by simp; omega)
  have bW := bel_mark w (.cells #[.int .i64 3, .int .i64 1, .string ⟨#[]⟩] 24)
  have oW := Own.new w 24 #[.int .i64 3, .int .i64 1, .string ⟨#[]⟩]
  have d0 := oW.cell 0; have d1 := oW.cell 1; have d2 := oW.cell 2
  (try simp only [List.getElem?_toArray, List.getElem?_cons_zero, List.getElem?_cons_succ] at d0 d1 d2)
  have hlt := oW.lt
  have HB := Lib.hid (hB.step bW hz)
  have hzW := Nat.le_trans hz bW.size
  have f0 := fun p : After (w.alloc (.cells #[.int .i64 3, .int .i64 1, .string ⟨#[]⟩] 24)) => after_cell hlt d0 p
  have f1 := fun p : After (w.alloc (.cells #[.int .i64 3, .int .i64 1, .string ⟨#[]⟩] 24)) => after_cell hlt d1 p
  have f2 := fun p : After (w.alloc (.cells #[.int .i64 3, .int .i64 1, .string ⟨#[]⟩] 24)) => after_cell hlt d2 p
  have q1 := fun W => eql_lit 1 1 W
  have hT : ∀ W, Calls Tryd.prog 32 #[.bool true] W fun e w' => e = .returned (.agg #[.int .i64 3, .int .i64 1, .string ⟨#[]⟩]) ∧ Below W.heap.size W w' := fun W => pBool_any true W
  clear hB oW
  go_enter Tryd.func23, Tryd.ntmps23
  go_wp2_with fail
  generalize w.alloc (.cells #[.int .i64 3, .int .i64 1, .string ⟨#[]⟩] 24) = W at *
  (refine wp_region_after (by kernel_rfl) (by kernel_rfl) ?_; (repeat (go_big_quiet_step ((go_at_call 32; exact calls_after (hT _))))); refine wpQuiet_nil ?_; intro wq hw0; obtain ⟨⟨wq0, hbq⟩, hw1⟩ := hw0; subst hw1; (try dsimp only))
  clear f0 f1 f2 hT
  have b2 := bel_mark wq (.cells #[.int .u8 4] 5)
  have HAL := Lib.hid ((HB.out.step hbq hzW).step b2 (Nat.le_trans hzW hbq.size))
  have HRB := Lib.hid (rdB_byte wq 4 (4 : UInt8) rfl)
  have hzb := Nat.le_trans (Nat.le_trans hzW hbq.size) b2.size
  have BW := (bW.mono hz).trans ((hbq.mono hzW).trans (b2.mono (Nat.le_trans hzW hbq.size)))
  clear b2 hbq q1
  go_wp2_with (at_builtin; refine append_buf _ rfl _ _ rfl base _ l rfl HAL.out _ [4] _ _ rfl HRB.out (by simp) HL.out hzb ?_; intro v2 w2 ho2 hb2)
  go_ret
  exact ⟨_, rfl, ho2, BW.trans hb2⟩
set_option maxRecDepth 100000 in
set_option maxHeartbeats 3200000 in
theorem appendValue_null (v : Value) (l : List UInt8) (w : World) (base : Nat) (hB : Buf w base v l) (hz : base ≤ w.heap.size) (hl : l.length ≤ 140737488355200) :
    Calls Tryd.prog 23 #[v, valV (0, 0, ⟨#[]⟩)] w (RetB base w (l ++ [0])) := by
  unfold valV
  dsimp only
  have HL := Lib.hid (show l.length + ([0] : List UInt8).length ≤ 140737488355328 by simp; omega)
  have b1 := bel_mark w (.cells #[.int .i64 0, .int .i64 0, .string ⟨#[]⟩] 24)
  have b2 := bel_mark (w.alloc (.cells #[.int .i64 0, .int .i64 0, .string ⟨#[]⟩] 24)) (.cells #[.int .u8 0] 5)
  have hz1 := Nat.le_trans hz b1.size
  have HAL := Lib.hid ((hB.step b1 hz).step b2 hz1)
  have HRB := Lib.hid (rdB_at (w.alloc (.cells #[.int .i64 0, .int .i64 0, .string ⟨#[]⟩] 24)) (w.heap.size + 1) (by simp) 0 (0 : UInt8) rfl)
  have hzb := Nat.le_trans hz1 b2.size
  have HBW := Lib.hid ((b1.mono hz).trans (b2.mono hz1))
  clear b1 b2 hB
  go_enter Tryd.func23, Tryd.ntmps23
  go_wp2_with (at_builtin; refine append_buf _ rfl _ _ rfl base _ l rfl HAL.out _ [0] _ _ rfl HRB.out (by simp) HL.out hzb ?_; intro v2 w2 ho2 hb2)
  go_ret
  exact ⟨_, rfl, ho2, HBW.out.trans hb2⟩
theorem appendValue_any (v : Value) (l : List UInt8) (p : Vl) (hok : okP p = true) (w : World) (base : Nat) (hB : Buf w base v l) (hz : base ≤ w.heap.size) (hl : l.length + p.2.2.size ≤ 140737488355200) :
    Calls Tryd.prog 23 #[v, valV p] w (RetB base w (l ++ encV p)) := by
  rcases okP_cases hok with rfl | ⟨n, rfl, h1, h2⟩ | ⟨s, rfl, h1, h2⟩ | rfl | rfl
  · exact appendValue_null v l w base hB hz (by omega)
  · exact appendValue_num v l n ⟨#[]⟩ ⟨by omega, by omega⟩ w base hB hz hl
  · exact appendValue_text v l 0 s w base hB hz hl
  · exact appendValue_b0 v l w base hB hz (by omega)
  · exact appendValue_b1 v l w base hB hz (by omega)
end Go.Proofs.YtclpemmpckjemaaDoor
