/-
  Values: writing literals: what the program answers. Conditions: the tables lie as the rows say.
-/
import Derived.Test.YthjnkekkjjcnfaaGreatDoorVaI
import Derived.WalkKit
import Derived.WalkSpells
import Derived.WalkLawsBesides
import Derived.Deep.QuietTactic
import Derived.BigQuiet
import Derived.Handy
import Derived.Lib.Hide
namespace Go.Proofs.YthjnkekkjjcnfaaGreatDoor
open Go.RowKit

set_option maxRecDepth 100000 in
set_option maxHeartbeats 1600000 in
theorem pLiteral_any (k n : Int) (s : ByteArray) (w : World) (h : Env w) :
    Calls Tryz.prog 39 #[vV k n s] w fun e w' => e = .returned (.string ⟨(litV k n s).toArray⟩) ∧ Below w.heap.size w w' := by
  have hV := fun W => pValid_any k n s W
  have hN := fun W => pNull_any W
  have hB := fun b W => pBool_any b W
  have hT : ∀ W, Calls Tryz.prog 18 #[.bool true] W fun e w' => e = .returned (.agg #[.int .i64 3, .int .i64 1, .string ⟨#[]⟩]) ∧ Below W.heap.size W w' := fun W => hB true W
  have hF : ∀ W, Calls Tryz.prog 18 #[.bool false] W fun e w' => e = .returned (.agg #[.int .i64 3, .int .i64 0, .string ⟨#[]⟩]) ∧ Below W.heap.size W w' := fun W => hB false W
  clear hB
  have q0 := fun W => eql_val k n s 0 0 ⟨#[]⟩ W
  have q1 := fun W => eql_val k n s 3 1 ⟨#[]⟩ W
  have q2 := fun W => eql_val k n s 3 0 ⟨#[]⟩ W
  unfold litV
  cases hv : vldV k n s
  · rw [if_neg (by simp)]
    rw [hv] at hV
    clear q0 q1 q2 hN hT hF
    unfold vV at *
    go_enter Tryz.func39, Tryz.ntmps39
    go_wp2_with fail
    refine (hV _).mono ?_
    rintro e w1 ⟨rfl, hb1⟩
    go_wp2
    go_ret
    refine ⟨rfl, ?_⟩
    (repeat' (first | (with_reducible exact Below.refl _ _) | (with_reducible assumption) | (with_reducible refine Below.alloc ?_ ?_ _) | (with_reducible refine Below.drew ?_) | (with_reducible refine Below.setCell ?_ ?_ _) | (with_reducible refine Below.trans ?_ (Below.mono (by assumption) ?_)) | go_size))
  rw [if_pos rfl]
  rw [hv] at hV
  have hK := vld_kind hv
  clear hv
  have bW := (Below.refl w.heap.size w).alloc (Nat.le_refl _) (.cells #[.int .i64 k, .int .i64 n, .string s] 23)
  have oW := Own.new w 23 #[.int .i64 k, .int .i64 n, .string s]
  have sW : (w.alloc (.cells #[.int .i64 k, .int .i64 n, .string s] 23)).heap.size = w.heap.size + 1 := by simp
  have hE := h.step bW
  rcases hK with ⟨rfl, rfl, h3⟩ | ⟨rfl, h1, h2, h3⟩ | ⟨rfl, rfl, h1, h2⟩ | ⟨rfl, h1, h3⟩
  · obtain rfl := nil_of_toList h3
    rw [show eqV 0 0 ⟨#[]⟩ 0 0 ⟨#[]⟩ = true by simp [eqV]] at q0
    rw [show eqV 0 0 ⟨#[]⟩ 3 1 ⟨#[]⟩ = false by simp [eqV]] at q1
    rw [show eqV 0 0 ⟨#[]⟩ 3 0 ⟨#[]⟩ = false by simp [eqV]] at q2
    rw [if_pos rfl]
    unfold vV at *
    go_enter Tryz.func39, Tryz.ntmps39
    go_wp2_with fail
    generalize w.alloc (.cells #[.int .i64 0, .int .i64 0, .string ⟨#[]⟩] 23) = W at *
    refine (hV _).mono ?_
    rintro e w1 ⟨rfl, hb1⟩
    have z1 := hb1.size
    have o1 := oW.below hb1 (by omega)
    have b1 := bW.trans (hb1.mono (by omega))
    have E1 := hE.step hb1
    clear hV hE
    have s1 : w.heap.size < w1.heap.size := by omega
    obtain ⟨f0, f1, f2⟩ := val_cells s1 o1
    go_wp2_with fail
    (refine wp_region_after (by kernel_rfl) (by kernel_rfl) ?_; (repeat (go_big_quiet_step ((go_at_call 12; exact calls_after (hN _))))); refine wpQuiet_nil ?_; intro w2 hw0; obtain ⟨⟨wq0, hb2⟩, hw1⟩ := hw0; subst hw1; (try dsimp only))
    have z2 := hb2.size
    have o2 := o1.below hb2 (by omega)
    have b2 := b1.trans (hb2.mono (by omega))
    have E2 := E1.step hb2
    clear f0 f1 f2 E1
    go_wp2
    go_ret
    refine ⟨rfl, ?_⟩
    (repeat' (first | (with_reducible exact Below.refl _ _) | (with_reducible assumption) | (with_reducible refine Below.alloc ?_ ?_ _) | (with_reducible refine Below.drew ?_) | (with_reducible refine Below.setCell ?_ ?_ _) | (with_reducible refine Below.trans ?_ (Below.mono (by assumption) ?_)) | go_size))
  · obtain rfl := nil_of_toList h3
    rw [show eqV 1 n ⟨#[]⟩ 0 0 ⟨#[]⟩ = false by simp [eqV]] at q0
    rw [show eqV 1 n ⟨#[]⟩ 3 1 ⟨#[]⟩ = false by simp [eqV]] at q1
    rw [show eqV 1 n ⟨#[]⟩ 3 0 ⟨#[]⟩ = false by simp [eqV]] at q2
    rw [if_neg (by decide), if_neg (by decide), if_neg (by decide)]
    unfold vV at *
    go_enter Tryz.func39, Tryz.ntmps39
    go_wp2_with fail
    generalize w.alloc (.cells #[.int .i64 1, .int .i64 n, .string ⟨#[]⟩] 23) = W at *
    refine (hV _).mono ?_
    rintro e w1 ⟨rfl, hb1⟩
    have z1 := hb1.size
    have o1 := oW.below hb1 (by omega)
    have b1 := bW.trans (hb1.mono (by omega))
    have E1 := hE.step hb1
    clear hV hE
    have s1 : w.heap.size < w1.heap.size := by omega
    obtain ⟨f0, f1, f2⟩ := val_cells s1 o1
    go_wp2_with fail
    (refine wp_region_after (by kernel_rfl) (by kernel_rfl) ?_; (repeat (go_big_quiet_step ((go_at_call 12; exact calls_after (hN _))))); refine wpQuiet_nil ?_; intro w2 hw0; obtain ⟨⟨wq0, hb2⟩, hw1⟩ := hw0; subst hw1; (try dsimp only))
    have z2 := hb2.size
    have o2 := o1.below hb2 (by omega)
    have b2 := b1.trans (hb2.mono (by omega))
    have E2 := E1.step hb2
    clear f0 f1 f2 E1
    have s2 : w.heap.size < w2.heap.size := by omega
    obtain ⟨f0, f1, f2⟩ := val_cells s2 o2
    go_wp2_with fail
    (refine wp_region_after (by kernel_rfl) (by kernel_rfl) ?_; (repeat (go_big_quiet_step ((go_at_call 18; exact calls_after (hT _))))); refine wpQuiet_nil ?_; intro w3 hw0; obtain ⟨⟨wq0, hb3⟩, hw1⟩ := hw0; subst hw1; (try dsimp only))
    have z3 := hb3.size
    have o3 := o2.below hb3 (by omega)
    have b3 := b2.trans (hb3.mono (by omega))
    have E3 := E2.step hb3
    clear f0 f1 f2 E2
    have s3 : w.heap.size < w3.heap.size := by omega
    obtain ⟨f0, f1, f2⟩ := val_cells s3 o3
    go_wp2_with fail
    (refine wp_region_after (by kernel_rfl) (by kernel_rfl) ?_; (repeat (go_big_quiet_step ((go_at_call 18; exact calls_after (hF _))))); refine wpQuiet_nil ?_; intro w4 hw0; obtain ⟨⟨wq0, hb4⟩, hw1⟩ := hw0; subst hw1; (try dsimp only))
    have z4 := hb4.size
    have o4 := o3.below hb4 (by omega)
    have b4 := b3.trans (hb4.mono (by omega))
    have E4 := E3.step hb4
    clear f0 f1 f2 E3
    have d0 := o4.cell 0; have e0 := o4.free 0; have d1 := o4.cell 1; have e1 := o4.free 1; have d2 := o4.cell 2; have e2 := o4.free 2; (try simp only [List.getElem?_toArray, List.getElem?_cons_zero, List.getElem?_cons_succ] at d0 d1 d2)
    go_wp2_with fail
    refine (itoa_any n _ E4 (by omega) (by omega)).mono ?_
    rintro e w5 ⟨rfl, hb5⟩
    have b5 := b4.trans (hb5.mono (by omega))
    go_wp2
    go_ret
    refine ⟨rfl, ?_⟩
    (repeat' (first | (with_reducible exact Below.refl _ _) | (with_reducible assumption) | (with_reducible refine Below.alloc ?_ ?_ _) | (with_reducible refine Below.drew ?_) | (with_reducible refine Below.setCell ?_ ?_ _) | (with_reducible refine Below.trans ?_ (Below.mono (by assumption) ?_)) | go_size))
  · skip
    rw [show eqV 2 0 s 0 0 ⟨#[]⟩ = false by simp [eqV]] at q0
    rw [show eqV 2 0 s 3 1 ⟨#[]⟩ = false by simp [eqV]] at q1
    rw [show eqV 2 0 s 3 0 ⟨#[]⟩ = false by simp [eqV]] at q2
    rw [if_neg (by decide), if_neg (by decide), if_pos rfl]
    unfold vV at *
    go_enter Tryz.func39, Tryz.ntmps39
    go_wp2_with fail
    generalize w.alloc (.cells #[.int .i64 2, .int .i64 0, .string s] 23) = W at *
    refine (hV _).mono ?_
    rintro e w1 ⟨rfl, hb1⟩
    have z1 := hb1.size
    have o1 := oW.below hb1 (by omega)
    have b1 := bW.trans (hb1.mono (by omega))
    have E1 := hE.step hb1
    clear hV hE
    have s1 : w.heap.size < w1.heap.size := by omega
    obtain ⟨f0, f1, f2⟩ := val_cells s1 o1
    go_wp2_with fail
    (refine wp_region_after (by kernel_rfl) (by kernel_rfl) ?_; (repeat (go_big_quiet_step ((go_at_call 12; exact calls_after (hN _))))); refine wpQuiet_nil ?_; intro w2 hw0; obtain ⟨⟨wq0, hb2⟩, hw1⟩ := hw0; subst hw1; (try dsimp only))
    have z2 := hb2.size
    have o2 := o1.below hb2 (by omega)
    have b2 := b1.trans (hb2.mono (by omega))
    have E2 := E1.step hb2
    clear f0 f1 f2 E1
    have s2 : w.heap.size < w2.heap.size := by omega
    obtain ⟨f0, f1, f2⟩ := val_cells s2 o2
    go_wp2_with fail
    (refine wp_region_after (by kernel_rfl) (by kernel_rfl) ?_; (repeat (go_big_quiet_step ((go_at_call 18; exact calls_after (hT _))))); refine wpQuiet_nil ?_; intro w3 hw0; obtain ⟨⟨wq0, hb3⟩, hw1⟩ := hw0; subst hw1; (try dsimp only))
    have z3 := hb3.size
    have o3 := o2.below hb3 (by omega)
    have b3 := b2.trans (hb3.mono (by omega))
    have E3 := E2.step hb3
    clear f0 f1 f2 E2
    have s3 : w.heap.size < w3.heap.size := by omega
    obtain ⟨f0, f1, f2⟩ := val_cells s3 o3
    go_wp2_with fail
    (refine wp_region_after (by kernel_rfl) (by kernel_rfl) ?_; (repeat (go_big_quiet_step ((go_at_call 18; exact calls_after (hF _))))); refine wpQuiet_nil ?_; intro w4 hw0; obtain ⟨⟨wq0, hb4⟩, hw1⟩ := hw0; subst hw1; (try dsimp only))
    have z4 := hb4.size
    have o4 := o3.below hb4 (by omega)
    have b4 := b3.trans (hb4.mono (by omega))
    have E4 := E3.step hb4
    clear f0 f1 f2 E3
    have d0 := o4.cell 0; have e0 := o4.free 0; have d1 := o4.cell 1; have e1 := o4.free 1; have d2 := o4.cell 2; have e2 := o4.free 2; (try simp only [List.getElem?_toArray, List.getElem?_cons_zero, List.getElem?_cons_succ] at d0 d1 d2)
    go_wp2_with fail
    refine (quoted_any s _ E4 (by omega)).mono ?_
    rintro e w5 ⟨rfl, hb5⟩
    have b5 := b4.trans (hb5.mono (by omega))
    go_wp2
    go_ret
    refine ⟨rfl, ?_⟩
    (repeat' (first | (with_reducible exact Below.refl _ _) | (with_reducible assumption) | (with_reducible refine Below.alloc ?_ ?_ _) | (with_reducible refine Below.drew ?_) | (with_reducible refine Below.setCell ?_ ?_ _) | (with_reducible refine Below.trans ?_ (Below.mono (by assumption) ?_)) | go_size))
  · obtain rfl := nil_of_toList h3
    rcases h1 with rfl | rfl
    · skip
      rw [show eqV 3 0 ⟨#[]⟩ 0 0 ⟨#[]⟩ = false by simp [eqV]] at q0
      rw [show eqV 3 0 ⟨#[]⟩ 3 1 ⟨#[]⟩ = false by simp [eqV]] at q1
      rw [show eqV 3 0 ⟨#[]⟩ 3 0 ⟨#[]⟩ = true by simp [eqV]] at q2
      rw [if_neg (by decide), if_pos rfl, if_neg (by decide)]
      unfold vV at *
      go_enter Tryz.func39, Tryz.ntmps39
      go_wp2_with fail
      generalize w.alloc (.cells #[.int .i64 3, .int .i64 0, .string ⟨#[]⟩] 23) = W at *
      refine (hV _).mono ?_
      rintro e w1 ⟨rfl, hb1⟩
      have z1 := hb1.size
      have o1 := oW.below hb1 (by omega)
      have b1 := bW.trans (hb1.mono (by omega))
      have E1 := hE.step hb1
      clear hV hE
      have s1 : w.heap.size < w1.heap.size := by omega
      obtain ⟨f0, f1, f2⟩ := val_cells s1 o1
      go_wp2_with fail
      (refine wp_region_after (by kernel_rfl) (by kernel_rfl) ?_; (repeat (go_big_quiet_step ((go_at_call 12; exact calls_after (hN _))))); refine wpQuiet_nil ?_; intro w2 hw0; obtain ⟨⟨wq0, hb2⟩, hw1⟩ := hw0; subst hw1; (try dsimp only))
      have z2 := hb2.size
      have o2 := o1.below hb2 (by omega)
      have b2 := b1.trans (hb2.mono (by omega))
      have E2 := E1.step hb2
      clear f0 f1 f2 E1
      have s2 : w.heap.size < w2.heap.size := by omega
      obtain ⟨f0, f1, f2⟩ := val_cells s2 o2
      go_wp2_with fail
      (refine wp_region_after (by kernel_rfl) (by kernel_rfl) ?_; (repeat (go_big_quiet_step ((go_at_call 18; exact calls_after (hT _))))); refine wpQuiet_nil ?_; intro w3 hw0; obtain ⟨⟨wq0, hb3⟩, hw1⟩ := hw0; subst hw1; (try dsimp only))
      have z3 := hb3.size
      have o3 := o2.below hb3 (by omega)
      have b3 := b2.trans (hb3.mono (by omega))
      have E3 := E2.step hb3
      clear f0 f1 f2 E2
      have s3 : w.heap.size < w3.heap.size := by omega
      obtain ⟨f0, f1, f2⟩ := val_cells s3 o3
      go_wp2_with fail
      (refine wp_region_after (by kernel_rfl) (by kernel_rfl) ?_; (repeat (go_big_quiet_step ((go_at_call 18; exact calls_after (hF _))))); refine wpQuiet_nil ?_; intro w4 hw0; obtain ⟨⟨wq0, hb4⟩, hw1⟩ := hw0; subst hw1; (try dsimp only))
      have z4 := hb4.size
      have o4 := o3.below hb4 (by omega)
      have b4 := b3.trans (hb4.mono (by omega))
      have E4 := E3.step hb4
      clear f0 f1 f2 E3
      go_wp2
      go_ret
      refine ⟨rfl, ?_⟩
      (repeat' (first | (with_reducible exact Below.refl _ _) | (with_reducible assumption) | (with_reducible refine Below.alloc ?_ ?_ _) | (with_reducible refine Below.drew ?_) | (with_reducible refine Below.setCell ?_ ?_ _) | (with_reducible refine Below.trans ?_ (Below.mono (by assumption) ?_)) | go_size))
    · skip
      rw [show eqV 3 1 ⟨#[]⟩ 0 0 ⟨#[]⟩ = false by simp [eqV]] at q0
      rw [show eqV 3 1 ⟨#[]⟩ 3 1 ⟨#[]⟩ = true by simp [eqV]] at q1
      rw [show eqV 3 1 ⟨#[]⟩ 3 0 ⟨#[]⟩ = false by simp [eqV]] at q2
      rw [if_neg (by decide), if_pos rfl, if_pos rfl]
      unfold vV at *
      go_enter Tryz.func39, Tryz.ntmps39
      go_wp2_with fail
      generalize w.alloc (.cells #[.int .i64 3, .int .i64 1, .string ⟨#[]⟩] 23) = W at *
      refine (hV _).mono ?_
      rintro e w1 ⟨rfl, hb1⟩
      have z1 := hb1.size
      have o1 := oW.below hb1 (by omega)
      have b1 := bW.trans (hb1.mono (by omega))
      have E1 := hE.step hb1
      clear hV hE
      have s1 : w.heap.size < w1.heap.size := by omega
      obtain ⟨f0, f1, f2⟩ := val_cells s1 o1
      go_wp2_with fail
      (refine wp_region_after (by kernel_rfl) (by kernel_rfl) ?_; (repeat (go_big_quiet_step ((go_at_call 12; exact calls_after (hN _))))); refine wpQuiet_nil ?_; intro w2 hw0; obtain ⟨⟨wq0, hb2⟩, hw1⟩ := hw0; subst hw1; (try dsimp only))
      have z2 := hb2.size
      have o2 := o1.below hb2 (by omega)
      have b2 := b1.trans (hb2.mono (by omega))
      have E2 := E1.step hb2
      clear f0 f1 f2 E1
      have s2 : w.heap.size < w2.heap.size := by omega
      obtain ⟨f0, f1, f2⟩ := val_cells s2 o2
      go_wp2_with fail
      (refine wp_region_after (by kernel_rfl) (by kernel_rfl) ?_; (repeat (go_big_quiet_step ((go_at_call 18; exact calls_after (hT _))))); refine wpQuiet_nil ?_; intro w3 hw0; obtain ⟨⟨wq0, hb3⟩, hw1⟩ := hw0; subst hw1; (try dsimp only))
      have z3 := hb3.size
      have o3 := o2.below hb3 (by omega)
      have b3 := b2.trans (hb3.mono (by omega))
      have E3 := E2.step hb3
      clear f0 f1 f2 E2
      go_wp2
      go_ret
      refine ⟨rfl, ?_⟩
      (repeat' (first | (with_reducible exact Below.refl _ _) | (with_reducible assumption) | (with_reducible refine Below.alloc ?_ ?_ _) | (with_reducible refine Below.drew ?_) | (with_reducible refine Below.setCell ?_ ?_ _) | (with_reducible refine Below.trans ?_ (Below.mono (by assumption) ?_)) | go_size))
end Go.Proofs.YthjnkekkjjcnfaaGreatDoor
