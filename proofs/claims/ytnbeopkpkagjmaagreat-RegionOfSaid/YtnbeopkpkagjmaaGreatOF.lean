import Derived.Test.YtnbeopkpkagjmaaGreatSwP
import Derived.Test.YtnbeopkpkagjmaaGreatJN
import Derived.Test.YtnbeopkpkagjmaaGreatRTw
import Derived.WalkKit
import Derived.WalkSpells
import Derived.WalkLawsBesides
import Derived.Deep.QuietTactic
import Derived.BigQuiet
import Derived.Handy
import Derived.Lib.Hide
/-
  Contracts of the program's functions on spans: Of, Union, Intersect, Subtract, Complement, Covers, Length, Slices, Contains, Next. Conditions: the lists hold at most 50000 periods.
-/
namespace Go.Proofs.YtnbeopkpkagjmaaGreat
set_option maxRecDepth 100000
set_option linter.unusedVariables false
set_option linter.unusedSimpArgs false
open Go.RowKit

theorem asks_Of : Asks 52 fA := fun x y W => by
  cases x <;> cases y
  all_goals
    go_enter Tryz.func52, Tryz.ntmps52
    go_wp2
    go_ret
    exact ⟨rfl, Below.refl _ _⟩
theorem enters_Of : ∀ args w, (callFunc 52 args).run Tryz.prog w = .ok (.enter 52 args) w := enters_of Tryz.func52 (by kernel_rfl) rfl
theorem asks_Intersect : Asks 61 fAnd := fun x y W => by
  cases x <;> cases y
  all_goals
    go_enter Tryz.func61, Tryz.ntmps61
    go_wp2
    go_ret
    exact ⟨rfl, Below.refl _ _⟩
theorem enters_Intersect : ∀ args w, (callFunc 61 args).run Tryz.prog w = .ok (.enter 61 args) w := enters_of Tryz.func61 (by kernel_rfl) rfl
theorem asks_Subtract : Asks 62 fSub := fun x y W => by
  cases x <;> cases y
  all_goals
    go_enter Tryz.func62, Tryz.ntmps62
    go_wp2
    go_ret
    exact ⟨rfl, Below.refl _ _⟩
theorem enters_Subtract : ∀ args w, (callFunc 62 args).run Tryz.prog w = .ok (.enter 62 args) w := enters_of Tryz.func62 (by kernel_rfl) rfl
theorem elem_le (g : Int → Bool) (a b : List (Int × Int)) : (elem g (pts (a ++ b))).length ≤ 2 * (a.length + b.length) := by
  have h1 := elem_len g (pts (a ++ b)); have h2 := pts_len (a ++ b); rw [List.length_append] at h2; omega

set_option maxHeartbeats 800000 in
theorem sOf_any (u : Value) (a : List (Int × Int)) (w : World) (L : Nat) (hu : RdP w L w.heap.size u a) (ha : a.length ≤ 50000) :
    Calls Tryz.prog 33 #[u] w (RetPers w (ofL a)) := by
  have h := sweep_any 52 fA asks_Of enters_Of u (.slice none 0 0) a [] w L 0 hu (nilP _ _ _) (by omega) (by simp)
  have hl := elem_le (gOf fA a []) a []
  rw [List.length_nil] at hl
  clear hu
  go_enter Tryz.func33, Tryz.ntmps33
  go_wp2_with fail
  refine h.mono ?_
  rintro e w1 ⟨v1, rfl, hr, hb1⟩
  have z1 := hb1.size
  go_wp2_with fail
  refine (joined_any v1 _ w1 w.heap.size hr (by omega)).mono ?_
  rintro e w2 ⟨v2, rfl, hr2, hb2⟩
  go_wp2
  go_ret
  exact ⟨_, rfl, hr2.more (Nat.le_refl _) z1, hb1.trans (hb2.mono z1)⟩

set_option maxHeartbeats 800000 in
theorem sIntersect_any (u v : Value) (a b : List (Int × Int)) (w : World) (L L2 : Nat) (hu : RdP w L w.heap.size u a) (hv : RdP w L2 w.heap.size v b) (ha : a.length ≤ 50000) (hb : b.length ≤ 50000) :
    Calls Tryz.prog 40 #[u, v] w (RetPers w (comb fAnd a b)) := by
  have h := sweep_any 61 fAnd asks_Intersect enters_Intersect u v a b w L L2 hu hv (by omega) (by omega)
  have hl := elem_le (gOf fAnd a b) a b
  
  clear hu hv
  go_enter Tryz.func40, Tryz.ntmps40
  go_wp2_with fail
  refine h.mono ?_
  rintro e w1 ⟨v1, rfl, hr, hb1⟩
  have z1 := hb1.size
  go_wp2_with fail
  refine (joined_any v1 _ w1 w.heap.size hr (by omega)).mono ?_
  rintro e w2 ⟨v2, rfl, hr2, hb2⟩
  go_wp2
  go_ret
  exact ⟨_, rfl, hr2.more (Nat.le_refl _) z1, hb1.trans (hb2.mono z1)⟩

set_option maxHeartbeats 800000 in
theorem sSubtract_any (u v : Value) (a b : List (Int × Int)) (w : World) (L L2 : Nat) (hu : RdP w L w.heap.size u a) (hv : RdP w L2 w.heap.size v b) (ha : a.length ≤ 50000) (hb : b.length ≤ 50000) :
    Calls Tryz.prog 42 #[u, v] w (RetPers w (comb fSub a b)) := by
  have h := sweep_any 62 fSub asks_Subtract enters_Subtract u v a b w L L2 hu hv (by omega) (by omega)
  have hl := elem_le (gOf fSub a b) a b
  
  clear hu hv
  go_enter Tryz.func42, Tryz.ntmps42
  go_wp2_with fail
  refine h.mono ?_
  rintro e w1 ⟨v1, rfl, hr, hb1⟩
  have z1 := hb1.size
  go_wp2_with fail
  refine (joined_any v1 _ w1 w.heap.size hr (by omega)).mono ?_
  rintro e w2 ⟨v2, rfl, hr2, hb2⟩
  go_wp2
  go_ret
  exact ⟨_, rfl, hr2.more (Nat.le_refl _) z1, hb1.trans (hb2.mono z1)⟩

end Go.Proofs.YtnbeopkpkagjmaaGreat
