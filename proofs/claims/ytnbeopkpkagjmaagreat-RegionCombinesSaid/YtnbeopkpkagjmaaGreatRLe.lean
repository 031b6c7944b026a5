import Derived.Test.YtnbeopkpkagjmaaGreatRV
import Derived.WalkKit
import Derived.WalkSpells
import Derived.WalkLawsBesides
import Derived.Deep.QuietTactic
import Derived.BigQuiet
import Derived.Handy
import Derived.Lib.Hide
/-
  The laws of regions that the statements ask; lengths. Conditions: none.
-/
namespace Go.Proofs.YtnbeopkpkagjmaaGreat
set_option maxRecDepth 100000
set_option linter.unusedVariables false
set_option linter.unusedSimpArgs false
open Go.RowKit

theorem cmb12 (f : Bool → Bool → Bool) {a b : List Rc} (ha : a.length ≤ 12) (hb : b.length ≤ 12) : (cmbR f a b).length ≤ 2256 :=
  Nat.le_trans (cmb_len f a b) (Nat.le_trans (Nat.mul_le_mul (show _ ≤ 47 by omega) (show _ ≤ 48 by omega)) (by decide))
theorem slc_len (l : List Rc) (s : Int) : (slcR l s).length ≤ 2 * l.length := by
  have := comb_len fA (atS l s) []
  have := atS_len l s
  show (comb fA (atS l s) []).length ≤ _
  simp at *; omega
theorem sec_len (l : List Rc) (v : Int) : (secR l v).length ≤ 2 * l.length := by
  have h1 := comb_len fA (atV l v) []
  have h2 : (atV l v).length ≤ l.length := by unfold atV; rw [List.length_map]; exact List.length_filter_le _ _
  show (comb fA (atV l v) []).length ≤ _
  simp at *; omega
theorem or_comm_R (a b : List Rc) : cmbR fOr b a = cmbR fOr a b := cmb_ext rfl rfl fun v s => Bool.or_comm _ _
theorem and_comm_R (a b : List Rc) : cmbR fAnd b a = cmbR fAnd a b := cmb_ext rfl rfl fun v s => Bool.and_comm _ _
theorem parts_R (a b : List Rc) : cmbR fOr (cmbR fSub a b) (cmbR fAnd a b) = ofR a := cmb_ext rfl rfl fun v s => by
  rw [cmb_mem rfl, cmb_mem rfl, memR_nil]
  cases memR a v s <;> cases memR b v s <;> rfl
theorem or_assoc_R (a b c : List Rc) : cmbR fOr a (cmbR fOr b c) = cmbR fOr (cmbR fOr a b) c := cmb_ext rfl rfl fun v s => by
  rw [cmb_mem rfl, cmb_mem rfl]
  cases memR a v s <;> cases memR b v s <;> cases memR c v s <;> rfl
theorem and_or_R (a b c : List Rc) : cmbR fOr (cmbR fAnd a c) (cmbR fAnd b c) = cmbR fAnd (cmbR fOr a b) c := cmb_ext rfl rfl fun v s => by
  rw [cmb_mem rfl, cmb_mem rfl, cmb_mem rfl]
  cases memR a v s <;> cases memR b v s <;> cases memR c v s <;> rfl
end Go.Proofs.YtnbeopkpkagjmaaGreat
