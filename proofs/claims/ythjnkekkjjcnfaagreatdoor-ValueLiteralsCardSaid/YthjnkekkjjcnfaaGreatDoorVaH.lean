/-
  Values: reading numbers: what the program answers. Conditions: the tables lie as the rows say.
-/
import Derived.Test.YthjnkekkjjcnfaaGreatDoorVaG
import Derived.WalkKit
import Derived.WalkSpells
import Derived.WalkLawsBesides
import Derived.Deep.QuietTactic
import Derived.BigQuiet
import Derived.Handy
import Derived.Lib.Hide
namespace Go.Proofs.YthjnkekkjjcnfaaGreatDoor
open Go.RowKit
theorem vld_int {n : Int} (h : -1125899906842624 ≤ n ∧ n ≤ 1125899906842624) : nrm 1 n ⟨#[]⟩ = vV 1 n ⟨#[]⟩ := by
  have hv : vldV 1 n ⟨#[]⟩ = true := by
    unfold vldV emp
    rw [if_neg (by decide), if_pos rfl, decide_eq_true h.1, decide_eq_true h.2]
    simp
  unfold nrm
  rw [hv]; rfl
theorem vld_int_not {n : Int} (h : ¬ (-1125899906842624 ≤ n ∧ n ≤ 1125899906842624)) : nrm 1 n ⟨#[]⟩ = vV 0 0 ⟨#[]⟩ := by
  have hv : vldV 1 n ⟨#[]⟩ = false := by
    unfold vldV emp
    rw [if_neg (by decide), if_pos rfl]
    by_cases h1 : -1125899906842624 ≤ n
    · rw [decide_eq_false (p := n ≤ 1125899906842624) (by omega), Bool.and_false]; rfl
    · rw [decide_eq_false h1]; rfl
  unfold nrm
  rw [hv]; rfl
set_option maxRecDepth 100000 in
set_option maxHeartbeats 1600000 in
theorem pNumber_no (s : ByteArray) (w : World) (h : Env w) (hs : s.size ≤ 281474976710656) (hg : numG s.data.toList = false) :
    Calls Tryz.prog 54 #[.string s] w fun e w' => e = .returned (.tuple #[vV 0 0 ⟨#[]⟩, .int .i64 1]) ∧ Below w.heap.size w w' := by
  have hI := fun W => isNumber_any s W (by omega)
  have hN := fun W => pNull_any W
  have hM := fun n W => pInt_any n W
  have oB : Own (w.alloc (.cells #[.int .i64 0, .int .i64 0, .string ⟨#[]⟩] 23)) w.heap.size 23 #[.int .i64 0, .int .i64 0, .string ⟨#[]⟩] := Own.new _ _ _
  have bW := (Below.refl w.heap.size w).alloc (Nat.le_refl _) (.cells #[.int .i64 0, .int .i64 0, .string ⟨#[]⟩] 23)
  have hE := h.step bW
  have sW : (w.alloc (.cells #[.int .i64 0, .int .i64 0, .string ⟨#[]⟩] 23)).heap.size = w.heap.size + 1 := by simp
  rw [hg] at hI
  unfold vV
  go_enter Tryz.func54, Tryz.ntmps54
  go_wp2_with fail
  generalize w.alloc (.cells #[.int .i64 0, .int .i64 0, .string ⟨#[]⟩] 23) = W at *
  refine (hI _).mono ?_
  rintro e w1 ⟨rfl, hb1⟩
  have z1 := hb1.size
  have o1 := oB.below hb1 (by omega)
  have d0 := o1.cell 0; have e0 := o1.free 0; have d1 := o1.cell 1; have e1 := o1.free 1; have d2 := o1.cell 2; have e2 := o1.free 2; (try simp only [List.getElem?_toArray, List.getElem?_cons_zero, List.getElem?_cons_succ] at d0 d1 d2)
  go_wp2
  (try simp only [Exit.inBlock, Exit.then]); refine bodyPost_ret_by (results_cell_row2 (by rfl) _ _ (w.heap.size) _ (by rfl) (load_val (((o1.store 0 _).store 1 _).store 2 _))) ?_ ?_; (focus rfl); refine ⟨rfl, ?_⟩
  have b1 := bW.trans (hb1.mono (by omega))
  (repeat' (first | (with_reducible exact Below.refl _ _) | (with_reducible assumption) | (with_reducible refine Below.alloc ?_ ?_ _) | (with_reducible refine Below.drew ?_) | (with_reducible refine Below.setCell ?_ ?_ _) | (with_reducible refine Below.trans ?_ (Below.mono (by assumption) ?_)) | go_size))
set_option maxRecDepth 100000 in
set_option maxHeartbeats 1600000 in
theorem pNumber_ok (s : ByteArray) (w : World) (h : Env w) (hs : s.size ≤ 281474976710656) (z : Int) (hg : numG s.data.toList = true) (hz : sgnV s.data.toList = z) (hr : -1125899906842624 ≤ z ∧ z ≤ 1125899906842624) :
    Calls Tryz.prog 54 #[.string s] w fun e w' => e = .returned (.tuple #[vV 1 z ⟨#[]⟩, .int .i64 0]) ∧ Below w.heap.size w w' := by
  have hI := fun W => isNumber_any s W (by omega)
  have hN := fun W => pNull_any W
  have hM := fun n W => pInt_any n W
  have oB : Own (w.alloc (.cells #[.int .i64 0, .int .i64 0, .string ⟨#[]⟩] 23)) w.heap.size 23 #[.int .i64 0, .int .i64 0, .string ⟨#[]⟩] := Own.new _ _ _
  have bW := (Below.refl w.heap.size w).alloc (Nat.le_refl _) (.cells #[.int .i64 0, .int .i64 0, .string ⟨#[]⟩] 23)
  have hE := h.step bW
  have sW : (w.alloc (.cells #[.int .i64 0, .int .i64 0, .string ⟨#[]⟩] 23)).heap.size = w.heap.size + 1 := by simp
  rw [hg] at hI
  have hA := fun W (hE : Env W) => atoi_any s W hE hs hg
  clear hg
  have hz2 : ∀ v, atoV s.data.toList v → (-9223372036854775808 ≤ z ∧ z ≤ 9223372036854775807 ∧ v = .tuple #[.int .i64 z, .nilIface]) ∨ ((z < -9223372036854775808 ∨ 9223372036854775807 < z) ∧ ∃ (n : Int) (t : TypeId) (p : Value), v = .tuple #[.int .i64 n, .iface t p]) := by
    intro v hv; unfold atoV at hv; rw [hz] at hv; exact hv
  clear hz
  unfold vV at hN
  unfold vV
  go_enter Tryz.func54, Tryz.ntmps54
  go_wp2_with fail
  generalize w.alloc (.cells #[.int .i64 0, .int .i64 0, .string ⟨#[]⟩] 23) = W at *
  refine (hI _).mono ?_
  rintro e w1 ⟨rfl, hb1⟩
  have z1 := hb1.size
  have o1 := oB.below hb1 (by omega)
  have E1 := hE.step hb1
  have b1 := bW.trans (hb1.mono (by omega))
  go_wp2_with fail
  refine (hA _ E1).mono ?_
  rintro e w2 ⟨⟨v, hv, rfl⟩, hb2⟩
  have z2 := hb2.size
  have o2 := o1.below hb2 (by omega)
  have b2 := b1.trans (hb2.mono (by omega))
  rcases hz2 v hv with ⟨k1, k2, rfl⟩ | ⟨k1, n, t, p, rfl⟩
  · skip
    have hM2 : ∀ W, Calls Tryz.prog 14 #[.int .i64 z] W fun e w' => e = .returned (.agg #[.int .i64 1, .int .i64 z, .string ⟨#[]⟩]) ∧ Below W.heap.size W w' := fun W => by
      have := hM z W
      rw [vld_int hr] at this
      exact this
    clear hv hz2 hA E1 hI hr
    go_wp2_with fail
    refine (hM2 _).mono ?_
    rintro e w3 ⟨rfl, hb3⟩
    have z3 := hb3.size
    have o3 := o2.below hb3 (by omega)
    have b3 := b2.trans (hb3.mono (by omega))
    have bV := b3.alloc (by omega) (.cells #[.int .i64 1, .int .i64 z, .string ⟨#[]⟩] 23)
    have oV := Own.new w3 23 #[.int .i64 1, .int .i64 z, .string ⟨#[]⟩]
    have o4 := o3.alloc (.cells #[.int .i64 1, .int .i64 z, .string ⟨#[]⟩] 23)
    have sV : (w3.alloc (.cells #[.int .i64 1, .int .i64 z, .string ⟨#[]⟩] 23)).heap.size = w3.heap.size + 1 := by simp
    have q1 := fun W => neq_val 1 z ⟨#[]⟩ 0 0 ⟨#[]⟩ W
    rw [show eqV 1 z ⟨#[]⟩ 0 0 ⟨#[]⟩ = false by simp [eqV]] at q1
    go_wp2_with fail
    generalize w3.alloc (.cells #[.int .i64 1, .int .i64 z, .string ⟨#[]⟩] 23) = V at *
    have sv : w3.heap.size < V.heap.size := by omega
    obtain ⟨f0, f1, f2⟩ := val_cells sv oV
    (refine wp_region_after (by kernel_rfl) (by kernel_rfl) ?_; (repeat (go_big_quiet_step ((go_at_call 12; exact calls_after (hN _))))); refine wpQuiet_nil ?_; intro wq hw0; obtain ⟨⟨wq0, hbq⟩, hw1⟩ := hw0; subst hw1; (try dsimp only))
    have sQ := hbq.size
    have oQ := oV.below hbq sv
    have o5 := o4.below hbq (by omega)
    have bQ := bV.trans (hbq.mono (by omega))
    clear f0 f1 f2
    have d0 := o5.cell 0; have e0 := o5.free 0; have d1 := o5.cell 1; have e1 := o5.free 1; have d2 := o5.cell 2; have e2 := o5.free 2; (try simp only [List.getElem?_toArray, List.getElem?_cons_zero, List.getElem?_cons_succ] at d0 d1 d2)
    have d0v := oQ.cell 0; have e0v := oQ.free 0; have d1v := oQ.cell 1; have e1v := oQ.free 1; have d2v := oQ.cell 2; have e2v := oQ.free 2; (try simp only [List.getElem?_toArray, List.getElem?_cons_zero, List.getElem?_cons_succ] at d0v d1v d2v)
    go_wp2
    (try simp only [Exit.inBlock, Exit.then]); refine bodyPost_ret_by (results_cell_row2 (by rfl) _ _ (w.heap.size) _ (by rfl) (load_val (((o5.store 0 _).store 1 _).store 2 _))) ?_ ?_; (focus rfl); refine ⟨rfl, ?_⟩
    (repeat' (first | (with_reducible exact Below.refl _ _) | (with_reducible assumption) | (with_reducible refine Below.alloc ?_ ?_ _) | (with_reducible refine Below.drew ?_) | (with_reducible refine Below.setCell ?_ ?_ _) | (with_reducible refine Below.trans ?_ (Below.mono (by assumption) ?_)) | go_size))
  · exfalso
    omega
set_option maxRecDepth 100000 in
set_option maxHeartbeats 1600000 in
theorem pNumber_range (s : ByteArray) (w : World) (h : Env w) (hs : s.size ≤ 281474976710656) (z : Int) (hg : numG s.data.toList = true) (hz : sgnV s.data.toList = z) (hr : ¬ (-1125899906842624 ≤ z ∧ z ≤ 1125899906842624)) :
    Calls Tryz.prog 54 #[.string s] w fun e w' => e = .returned (.tuple #[vV 0 0 ⟨#[]⟩, .int .i64 6]) ∧ Below w.heap.size w w' := by
  have hI := fun W => isNumber_any s W (by omega)
  have hN := fun W => pNull_any W
  have hM := fun n W => pInt_any n W
  have oB : Own (w.alloc (.cells #[.int .i64 0, .int .i64 0, .string ⟨#[]⟩] 23)) w.heap.size 23 #[.int .i64 0, .int .i64 0, .string ⟨#[]⟩] := Own.new _ _ _
  have bW := (Below.refl w.heap.size w).alloc (Nat.le_refl _) (.cells #[.int .i64 0, .int .i64 0, .string ⟨#[]⟩] 23)
  have hE := h.step bW
  have sW : (w.alloc (.cells #[.int .i64 0, .int .i64 0, .string ⟨#[]⟩] 23)).heap.size = w.heap.size + 1 := by simp
  rw [hg] at hI
  have hA := fun W (hE : Env W) => atoi_any s W hE hs hg
  clear hg
  have hz2 : ∀ v, atoV s.data.toList v → (-9223372036854775808 ≤ z ∧ z ≤ 9223372036854775807 ∧ v = .tuple #[.int .i64 z, .nilIface]) ∨ ((z < -9223372036854775808 ∨ 9223372036854775807 < z) ∧ ∃ (n : Int) (t : TypeId) (p : Value), v = .tuple #[.int .i64 n, .iface t p]) := by
    intro v hv; unfold atoV at hv; rw [hz] at hv; exact hv
  clear hz
  unfold vV at hN
  unfold vV
  go_enter Tryz.func54, Tryz.ntmps54
  go_wp2_with fail
  generalize w.alloc (.cells #[.int .i64 0, .int .i64 0, .string ⟨#[]⟩] 23) = W at *
  refine (hI _).mono ?_
  rintro e w1 ⟨rfl, hb1⟩
  have z1 := hb1.size
  have o1 := oB.below hb1 (by omega)
  have E1 := hE.step hb1
  have b1 := bW.trans (hb1.mono (by omega))
  go_wp2_with fail
  refine (hA _ E1).mono ?_
  rintro e w2 ⟨⟨v, hv, rfl⟩, hb2⟩
  have z2 := hb2.size
  have o2 := o1.below hb2 (by omega)
  have b2 := b1.trans (hb2.mono (by omega))
  rcases hz2 v hv with ⟨k1, k2, rfl⟩ | ⟨k1, n, t, p, rfl⟩
  · skip
    have hM2 : ∀ W, Calls Tryz.prog 14 #[.int .i64 z] W fun e w' => e = .returned (.agg #[.int .i64 0, .int .i64 0, .string ⟨#[]⟩]) ∧ Below W.heap.size W w' := fun W => by
      have := hM z W
      rw [vld_int_not hr] at this
      exact this
    clear hv hz2 hA E1 hI hr
    go_wp2_with fail
    refine (hM2 _).mono ?_
    rintro e w3 ⟨rfl, hb3⟩
    have z3 := hb3.size
    have o3 := o2.below hb3 (by omega)
    have b3 := b2.trans (hb3.mono (by omega))
    have bV := b3.alloc (by omega) (.cells #[.int .i64 0, .int .i64 0, .string ⟨#[]⟩] 23)
    have oV := Own.new w3 23 #[.int .i64 0, .int .i64 0, .string ⟨#[]⟩]
    have o4 := o3.alloc (.cells #[.int .i64 0, .int .i64 0, .string ⟨#[]⟩] 23)
    have sV : (w3.alloc (.cells #[.int .i64 0, .int .i64 0, .string ⟨#[]⟩] 23)).heap.size = w3.heap.size + 1 := by simp
    have q1 := fun W => neq_val 0 0 ⟨#[]⟩ 0 0 ⟨#[]⟩ W
    rw [show eqV 0 0 ⟨#[]⟩ 0 0 ⟨#[]⟩ = true by simp [eqV]] at q1
    go_wp2_with fail
    generalize w3.alloc (.cells #[.int .i64 0, .int .i64 0, .string ⟨#[]⟩] 23) = V at *
    have sv : w3.heap.size < V.heap.size := by omega
    obtain ⟨f0, f1, f2⟩ := val_cells sv oV
    (refine wp_region_after (by kernel_rfl) (by kernel_rfl) ?_; (repeat (go_big_quiet_step ((go_at_call 12; exact calls_after (hN _))))); refine wpQuiet_nil ?_; intro wq hw0; obtain ⟨⟨wq0, hbq⟩, hw1⟩ := hw0; subst hw1; (try dsimp only))
    have sQ := hbq.size
    have oQ := oV.below hbq sv
    have o5 := o4.below hbq (by omega)
    have bQ := bV.trans (hbq.mono (by omega))
    clear f0 f1 f2
    have d0 := o5.cell 0; have e0 := o5.free 0; have d1 := o5.cell 1; have e1 := o5.free 1; have d2 := o5.cell 2; have e2 := o5.free 2; (try simp only [List.getElem?_toArray, List.getElem?_cons_zero, List.getElem?_cons_succ] at d0 d1 d2)
    have d0v := oQ.cell 0; have e0v := oQ.free 0; have d1v := oQ.cell 1; have e1v := oQ.free 1; have d2v := oQ.cell 2; have e2v := oQ.free 2; (try simp only [List.getElem?_toArray, List.getElem?_cons_zero, List.getElem?_cons_succ] at d0v d1v d2v)
    go_wp2
    (try simp only [Exit.inBlock, Exit.then]); refine bodyPost_ret_by (results_cell_row2 (by rfl) _ _ (w.heap.size) _ (by rfl) (load_val (((o5.store 0 _).store 1 _).store 2 _))) ?_ ?_; (focus rfl); refine ⟨rfl, ?_⟩
    (repeat' (first | (with_reducible exact Below.refl _ _) | (with_reducible assumption) | (with_reducible refine Below.alloc ?_ ?_ _) | (with_reducible refine Below.drew ?_) | (with_reducible refine Below.setCell ?_ ?_ _) | (with_reducible refine Below.trans ?_ (Below.mono (by assumption) ?_)) | go_size))
  · have hM2 : ∀ W, ∃ a b : Int, Calls Tryz.prog 14 #[.int .i64 n] W fun e w' => e = .returned (.agg #[.int .i64 a, .int .i64 b, .string ⟨#[]⟩]) ∧ Below W.heap.size W w' := fun W => by
      by_cases hn : -1125899906842624 ≤ n ∧ n ≤ 1125899906842624
      · exact ⟨1, n, by have := hM n W; rw [vld_int hn] at this; exact this⟩
      · exact ⟨0, 0, by have := hM n W; rw [vld_int_not hn] at this; exact this⟩
    clear hv hz2 hA E1 hI hr
    obtain ⟨a, b, hM3⟩ := hM2 w2
    go_wp2_with fail
    refine hM3.mono ?_
    rintro e w3 ⟨rfl, hb3⟩
    have z3 := hb3.size
    have o3 := o2.below hb3 (by omega)
    have b3 := b2.trans (hb3.mono (by omega))
    have bV := b3.alloc (by omega) (.cells #[.int .i64 a, .int .i64 b, .string ⟨#[]⟩] 23)
    have oV := Own.new w3 23 #[.int .i64 a, .int .i64 b, .string ⟨#[]⟩]
    have o4 := o3.alloc (.cells #[.int .i64 a, .int .i64 b, .string ⟨#[]⟩] 23)
    have sV : (w3.alloc (.cells #[.int .i64 a, .int .i64 b, .string ⟨#[]⟩] 23)).heap.size = w3.heap.size + 1 := by simp
    go_wp2_with fail
    generalize w3.alloc (.cells #[.int .i64 a, .int .i64 b, .string ⟨#[]⟩] 23) = V at *
    have sv : w3.heap.size < V.heap.size := by omega
    obtain ⟨f0, f1, f2⟩ := val_cells sv oV
    (refine wp_region_after (by kernel_rfl) (by kernel_rfl) ?_; (repeat (go_big_quiet_step ((go_at_call 12; exact calls_after (hN _))))); refine wpQuiet_nil ?_; intro wq hw0; obtain ⟨⟨wq0, hbq⟩, hw1⟩ := hw0; subst hw1; (try dsimp only))
    have o5 := o4.below hbq (by omega)
    have bQ := bV.trans (hbq.mono (by omega))
    clear f0 f1 f2
    have d0 := o5.cell 0; have e0 := o5.free 0; have d1 := o5.cell 1; have e1 := o5.free 1; have d2 := o5.cell 2; have e2 := o5.free 2; (try simp only [List.getElem?_toArray, List.getElem?_cons_zero, List.getElem?_cons_succ] at d0 d1 d2)
    go_wp2
    (try simp only [Exit.inBlock, Exit.then]); refine bodyPost_ret_by (results_cell_row2 (by rfl) _ _ (w.heap.size) _ (by rfl) (load_val (((o5.store 0 _).store 1 _).store 2 _))) ?_ ?_; (focus rfl); refine ⟨rfl, ?_⟩
    (repeat' (first | (with_reducible exact Below.refl _ _) | (with_reducible assumption) | (with_reducible refine Below.alloc ?_ ?_ _) | (with_reducible refine Below.drew ?_) | (with_reducible refine Below.setCell ?_ ?_ _) | (with_reducible refine Below.trans ?_ (Below.mono (by assumption) ?_)) | go_size))
end Go.Proofs.YthjnkekkjjcnfaaGreatDoor
