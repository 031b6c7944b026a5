/-
  Values: what the reference writes and reads. Conditions: lengths.
-/
import Derived.Test.YthjnkekkjjcnfaaGreatDoorVaR
import Derived.Test.YthjnkekkjjcnfaaGreatDoorVaS
import Derived.Test.YthjnkekkjjcnfaaGreatDoorVaU
import Derived.WalkKit
import Derived.WalkSpells
import Derived.WalkLawsBesides
import Derived.Deep.QuietTactic
import Derived.BigQuiet
import Derived.Handy
import Derived.Lib.Hide
namespace Go.Proofs.YthjnkekkjjcnfaaGreatDoor
open Go.RowKit

set_option maxRecDepth 100000 in
set_option maxHeartbeats 1600000 in
theorem rLiteral_any (k n : Int) (s : ByteArray) (w : World) :
    Calls Tryz.prog 40 #[vV k n s] w fun e w' => e = .returned (.string ⟨(litV k n s).toArray⟩) ∧ Below w.heap.size w w' := by
  have hV := fun W => rValid_any k n s W
  have hN : ∀ W, Calls Tryz.prog 13 #[] W fun e w' => e = .returned (.agg #[.int .i64 0, .int .i64 0, .string ⟨#[]⟩]) ∧ Below W.heap.size W w' := fun W => rNull_any W
  have hT : ∀ W, Calls Tryz.prog 19 #[.bool true] W fun e w' => e = .returned (.agg #[.int .i64 3, .int .i64 1, .string ⟨#[]⟩]) ∧ Below W.heap.size W w' := fun W => rBool_any true W
  have hF : ∀ W, Calls Tryz.prog 19 #[.bool false] W fun e w' => e = .returned (.agg #[.int .i64 3, .int .i64 0, .string ⟨#[]⟩]) ∧ Below W.heap.size W w' := fun W => rBool_any false W
  have q0 := fun W => eql_val k n s 0 0 ⟨#[]⟩ W
  have q1 := fun W => eql_val k n s 3 1 ⟨#[]⟩ W
  have q2 := fun W => eql_val k n s 3 0 ⟨#[]⟩ W
  unfold litV
  cases hv : vldV k n s
  · rw [if_neg (by simp)]
    rw [hv] at hV
    clear q0 q1 q2 hN hT hF
    unfold vV at *
    go_enter Tryz.func40, Tryz.ntmps40
    go_wp2_with fail
    refine (hV _).mono ?_
    rintro e w1 ⟨rfl, hb1⟩
    go_wp2
    go_ret
    refine ⟨rfl, ?_⟩
    (repeat' (first | (with_reducible exact Below.refl _ _) | (with_reducible assumption) | (with_reducible refine Below.alloc ?_ ?_ _) | (with_reducible refine Below.drew ?_) | (with_reducible refine Below.setCell ?_ ?_ _) | (with_reducible refine Below.trans ?_ (Below.mono (by assumption) ?_)) | go_size))
  rw [if_pos rfl]
  rw [hv] at hV
  have hK := vld_kind hv
  clear hv
  have bW := (Below.refl w.heap.size w).alloc (Nat.le_refl _) (.cells #[.int .i64 k, .int .i64 n, .string s] 23)
  have oW := Own.new w 23 #[.int .i64 k, .int .i64 n, .string s]
  rcases hK with ⟨rfl, rfl, h3⟩ | ⟨rfl, h1, h2, h3⟩ | ⟨rfl, rfl, h1, h2⟩ | ⟨rfl, h1, h3⟩
  · obtain rfl := nil_of_toList h3
    rw [show eqV 0 0 ⟨#[]⟩ 0 0 ⟨#[]⟩ = true by simp [eqV]] at q0
    rw [show eqV 0 0 ⟨#[]⟩ 3 1 ⟨#[]⟩ = false by simp [eqV]] at q1
    rw [show eqV 0 0 ⟨#[]⟩ 3 0 ⟨#[]⟩ = false by simp [eqV]] at q2
    rw [if_pos rfl]
    unfold vV at *
    go_enter Tryz.func40, Tryz.ntmps40
    go_wp2_with fail
    refine (hV _).mono ?_
    rintro e w1 ⟨rfl, hb1⟩
    have b1 := bW.trans (hb1.mono bW.size)
    have o1 := oW.below hb1 oW.lt
    clear hV bW oW
    have d0 := o1.cell 0; have e0 := o1.free 0; have d1 := o1.cell 1; have e1 := o1.free 1; have d2 := o1.cell 2; have e2 := o1.free 2; (try simp only [List.getElem?_toArray, List.getElem?_cons_zero, List.getElem?_cons_succ] at d0 d1 d2)
    go_wp2_with fail
    refine (hN _).mono ?_
    rintro e w2 ⟨rfl, hb2⟩
    have b2 := b1.trans (hb2.mono b1.size)
    have o2 := o1.below hb2 o1.lt
    clear o1 d0 d1 d2 e0 e1 e2
    have d0 := o2.cell 0; have e0 := o2.free 0; have d1 := o2.cell 1; have e1 := o2.free 1; have d2 := o2.cell 2; have e2 := o2.free 2; (try simp only [List.getElem?_toArray, List.getElem?_cons_zero, List.getElem?_cons_succ] at d0 d1 d2)
    go_wp2
    go_ret
    exact ⟨rfl, b2⟩
  · obtain rfl := nil_of_toList h3
    rw [show eqV 1 n ⟨#[]⟩ 0 0 ⟨#[]⟩ = false by simp [eqV]] at q0
    rw [show eqV 1 n ⟨#[]⟩ 3 1 ⟨#[]⟩ = false by simp [eqV]] at q1
    rw [show eqV 1 n ⟨#[]⟩ 3 0 ⟨#[]⟩ = false by simp [eqV]] at q2
    rw [if_neg (by decide), if_neg (by decide), if_neg (by decide)]
    unfold vV at *
    go_enter Tryz.func40, Tryz.ntmps40
    go_wp2_with fail
    refine (hV _).mono ?_
    rintro e w1 ⟨rfl, hb1⟩
    have b1 := bW.trans (hb1.mono bW.size)
    have o1 := oW.below hb1 oW.lt
    clear hV bW oW
    have d0 := o1.cell 0; have e0 := o1.free 0; have d1 := o1.cell 1; have e1 := o1.free 1; have d2 := o1.cell 2; have e2 := o1.free 2; (try simp only [List.getElem?_toArray, List.getElem?_cons_zero, List.getElem?_cons_succ] at d0 d1 d2)
    go_wp2_with fail
    refine (hN _).mono ?_
    rintro e w2 ⟨rfl, hb2⟩
    have b2 := b1.trans (hb2.mono b1.size)
    have o2 := o1.below hb2 o1.lt
    clear o1 d0 d1 d2 e0 e1 e2
    have d0 := o2.cell 0; have e0 := o2.free 0; have d1 := o2.cell 1; have e1 := o2.free 1; have d2 := o2.cell 2; have e2 := o2.free 2; (try simp only [List.getElem?_toArray, List.getElem?_cons_zero, List.getElem?_cons_succ] at d0 d1 d2)
    go_wp2_with fail
    refine (hT _).mono ?_
    rintro e w3 ⟨rfl, hb3⟩
    have b3 := b2.trans (hb3.mono b2.size)
    have o3 := o2.below hb3 o2.lt
    clear o2 d0 d1 d2 e0 e1 e2
    have d0 := o3.cell 0; have e0 := o3.free 0; have d1 := o3.cell 1; have e1 := o3.free 1; have d2 := o3.cell 2; have e2 := o3.free 2; (try simp only [List.getElem?_toArray, List.getElem?_cons_zero, List.getElem?_cons_succ] at d0 d1 d2)
    go_wp2_with fail
    refine (hF _).mono ?_
    rintro e w4 ⟨rfl, hb4⟩
    have b4 := b3.trans (hb4.mono b3.size)
    have o4 := o3.below hb4 o3.lt
    clear o3 d0 d1 d2 e0 e1 e2
    have d0 := o4.cell 0; have e0 := o4.free 0; have d1 := o4.cell 1; have e1 := o4.free 1; have d2 := o4.cell 2; have e2 := o4.free 2; (try simp only [List.getElem?_toArray, List.getElem?_cons_zero, List.getElem?_cons_succ] at d0 d1 d2)
    go_wp2_with fail
    refine (rNumber_any n _ h1 h2).mono ?_
    rintro e w9 ⟨rfl, rfl⟩
    go_wp2
    go_ret
    exact ⟨rfl, b4⟩
  · skip
    rw [show eqV 2 0 s 0 0 ⟨#[]⟩ = false by simp [eqV]] at q0
    rw [show eqV 2 0 s 3 1 ⟨#[]⟩ = false by simp [eqV]] at q1
    rw [show eqV 2 0 s 3 0 ⟨#[]⟩ = false by simp [eqV]] at q2
    rw [if_neg (by decide), if_neg (by decide), if_pos rfl]
    unfold vV at *
    go_enter Tryz.func40, Tryz.ntmps40
    go_wp2_with fail
    refine (hV _).mono ?_
    rintro e w1 ⟨rfl, hb1⟩
    have b1 := bW.trans (hb1.mono bW.size)
    have o1 := oW.below hb1 oW.lt
    clear hV bW oW
    have d0 := o1.cell 0; have e0 := o1.free 0; have d1 := o1.cell 1; have e1 := o1.free 1; have d2 := o1.cell 2; have e2 := o1.free 2; (try simp only [List.getElem?_toArray, List.getElem?_cons_zero, List.getElem?_cons_succ] at d0 d1 d2)
    go_wp2_with fail
    refine (hN _).mono ?_
    rintro e w2 ⟨rfl, hb2⟩
    have b2 := b1.trans (hb2.mono b1.size)
    have o2 := o1.below hb2 o1.lt
    clear o1 d0 d1 d2 e0 e1 e2
    have d0 := o2.cell 0; have e0 := o2.free 0; have d1 := o2.cell 1; have e1 := o2.free 1; have d2 := o2.cell 2; have e2 := o2.free 2; (try simp only [List.getElem?_toArray, List.getElem?_cons_zero, List.getElem?_cons_succ] at d0 d1 d2)
    go_wp2_with fail
    refine (hT _).mono ?_
    rintro e w3 ⟨rfl, hb3⟩
    have b3 := b2.trans (hb3.mono b2.size)
    have o3 := o2.below hb3 o2.lt
    clear o2 d0 d1 d2 e0 e1 e2
    have d0 := o3.cell 0; have e0 := o3.free 0; have d1 := o3.cell 1; have e1 := o3.free 1; have d2 := o3.cell 2; have e2 := o3.free 2; (try simp only [List.getElem?_toArray, List.getElem?_cons_zero, List.getElem?_cons_succ] at d0 d1 d2)
    go_wp2_with fail
    refine (hF _).mono ?_
    rintro e w4 ⟨rfl, hb4⟩
    have b4 := b3.trans (hb4.mono b3.size)
    have o4 := o3.below hb4 o3.lt
    clear o3 d0 d1 d2 e0 e1 e2
    have d0 := o4.cell 0; have e0 := o4.free 0; have d1 := o4.cell 1; have e1 := o4.free 1; have d2 := o4.cell 2; have e2 := o4.free 2; (try simp only [List.getElem?_toArray, List.getElem?_cons_zero, List.getElem?_cons_succ] at d0 d1 d2)
    go_wp2_with fail
    refine (rQuote_any s _ (by omega)).mono ?_
    rintro e w9 ⟨rfl, rfl⟩
    go_wp2
    go_ret
    exact ⟨rfl, b4⟩
  · obtain rfl := nil_of_toList h3
    rcases h1 with rfl | rfl
    · skip
      rw [show eqV 3 0 ⟨#[]⟩ 0 0 ⟨#[]⟩ = false by simp [eqV]] at q0
      rw [show eqV 3 0 ⟨#[]⟩ 3 1 ⟨#[]⟩ = false by simp [eqV]] at q1
      rw [show eqV 3 0 ⟨#[]⟩ 3 0 ⟨#[]⟩ = true by simp [eqV]] at q2
      rw [if_neg (by decide), if_pos rfl, if_neg (by decide)]
      unfold vV at *
      go_enter Tryz.func40, Tryz.ntmps40
      go_wp2_with fail
      refine (hV _).mono ?_
      rintro e w1 ⟨rfl, hb1⟩
      have b1 := bW.trans (hb1.mono bW.size)
      have o1 := oW.below hb1 oW.lt
      clear hV bW oW
      have d0 := o1.cell 0; have e0 := o1.free 0; have d1 := o1.cell 1; have e1 := o1.free 1; have d2 := o1.cell 2; have e2 := o1.free 2; (try simp only [List.getElem?_toArray, List.getElem?_cons_zero, List.getElem?_cons_succ] at d0 d1 d2)
      go_wp2_with fail
      refine (hN _).mono ?_
      rintro e w2 ⟨rfl, hb2⟩
      have b2 := b1.trans (hb2.mono b1.size)
      have o2 := o1.below hb2 o1.lt
      clear o1 d0 d1 d2 e0 e1 e2
      have d0 := o2.cell 0; have e0 := o2.free 0; have d1 := o2.cell 1; have e1 := o2.free 1; have d2 := o2.cell 2; have e2 := o2.free 2; (try simp only [List.getElem?_toArray, List.getElem?_cons_zero, List.getElem?_cons_succ] at d0 d1 d2)
      go_wp2_with fail
      refine (hT _).mono ?_
      rintro e w3 ⟨rfl, hb3⟩
      have b3 := b2.trans (hb3.mono b2.size)
      have o3 := o2.below hb3 o2.lt
      clear o2 d0 d1 d2 e0 e1 e2
      have d0 := o3.cell 0; have e0 := o3.free 0; have d1 := o3.cell 1; have e1 := o3.free 1; have d2 := o3.cell 2; have e2 := o3.free 2; (try simp only [List.getElem?_toArray, List.getElem?_cons_zero, List.getElem?_cons_succ] at d0 d1 d2)
      go_wp2_with fail
      refine (hF _).mono ?_
      rintro e w4 ⟨rfl, hb4⟩
      have b4 := b3.trans (hb4.mono b3.size)
      have o4 := o3.below hb4 o3.lt
      clear o3 d0 d1 d2 e0 e1 e2
      have d0 := o4.cell 0; have e0 := o4.free 0; have d1 := o4.cell 1; have e1 := o4.free 1; have d2 := o4.cell 2; have e2 := o4.free 2; (try simp only [List.getElem?_toArray, List.getElem?_cons_zero, List.getElem?_cons_succ] at d0 d1 d2)
      go_wp2
      go_ret
      exact ⟨rfl, b4⟩
    · skip
      rw [show eqV 3 1 ⟨#[]⟩ 0 0 ⟨#[]⟩ = false by simp [eqV]] at q0
      rw [show eqV 3 1 ⟨#[]⟩ 3 1 ⟨#[]⟩ = true by simp [eqV]] at q1
      rw [show eqV 3 1 ⟨#[]⟩ 3 0 ⟨#[]⟩ = false by simp [eqV]] at q2
      rw [if_neg (by decide), if_pos rfl, if_pos rfl]
      unfold vV at *
      go_enter Tryz.func40, Tryz.ntmps40
      go_wp2_with fail
      refine (hV _).mono ?_
      rintro e w1 ⟨rfl, hb1⟩
      have b1 := bW.trans (hb1.mono bW.size)
      have o1 := oW.below hb1 oW.lt
      clear hV bW oW
      have d0 := o1.cell 0; have e0 := o1.free 0; have d1 := o1.cell 1; have e1 := o1.free 1; have d2 := o1.cell 2; have e2 := o1.free 2; (try simp only [List.getElem?_toArray, List.getElem?_cons_zero, List.getElem?_cons_succ] at d0 d1 d2)
      go_wp2_with fail
      refine (hN _).mono ?_
      rintro e w2 ⟨rfl, hb2⟩
      have b2 := b1.trans (hb2.mono b1.size)
      have o2 := o1.below hb2 o1.lt
      clear o1 d0 d1 d2 e0 e1 e2
      have d0 := o2.cell 0; have e0 := o2.free 0; have d1 := o2.cell 1; have e1 := o2.free 1; have d2 := o2.cell 2; have e2 := o2.free 2; (try simp only [List.getElem?_toArray, List.getElem?_cons_zero, List.getElem?_cons_succ] at d0 d1 d2)
      go_wp2_with fail
      refine (hT _).mono ?_
      rintro e w3 ⟨rfl, hb3⟩
      have b3 := b2.trans (hb3.mono b2.size)
      have o3 := o2.below hb3 o2.lt
      clear o2 d0 d1 d2 e0 e1 e2
      have d0 := o3.cell 0; have e0 := o3.free 0; have d1 := o3.cell 1; have e1 := o3.free 1; have d2 := o3.cell 2; have e2 := o3.free 2; (try simp only [List.getElem?_toArray, List.getElem?_cons_zero, List.getElem?_cons_succ] at d0 d1 d2)
      go_wp2
      go_ret
      exact ⟨rfl, b3⟩
end Go.Proofs.YthjnkekkjjcnfaaGreatDoor
