/-
  The program's Sum, Len and Append: what each function answers. Conditions: lengths; the table lies as the rows say.
-/
import Derived.Test.YtkhdfjneibnlmaaDoorFrD
import Derived.Deep.RegionWith
import Derived.WalkKit
import Derived.WalkSpells
import Derived.WalkLawsBesides
import Derived.Deep.QuietTactic
import Derived.BigQuiet
import Derived.Handy
import Derived.Lib.Hide
namespace Go.Proofs.YtkhdfjneibnlmaaDoor
open Go.RowKit

theorem cell_add0 (w : World) (g k : Nat) : w.cell? ((⟨g, 0, none⟩ : Addr).add k) = w.cell? ⟨g, k, none⟩ := by
  have ha : (⟨g, 0, none⟩ : Addr).add k = ⟨g, k, none⟩ := by unfold Addr.add; split <;> simp_all
  rw [ha]
theorem parts_one (w : World) (v : Value) (l : List UInt8) (L B c : Nat) (hB : B ≤ w.heap.size) (hv : RdB w L B v l) :
    RdS (w.alloc (.cells #[v] 22)) L B (.slice (some ⟨w.heap.size, 0, none⟩) 1 c) [l] := by
  have o := Own.new w 22 #[v]
  refine ⟨_, c, rfl, by simp, fun k p hk => ?_⟩
  have h0 : k = 0 := by have := (List.getElem?_eq_some_iff.1 hk).1; simp at this; exact this
  subst h0
  have hp : l = p := by simpa using hk
  subst hp
  exact ⟨_, v, rfl, by rw [cell_add0, o.cell 0]; rfl, hv.below ((Below.refl _ _).alloc hB _)⟩
theorem parts_two (w : World) (v u : Value) (l m : List UInt8) (L B c : Nat) (hB : B ≤ w.heap.size) (hv : RdB w L B v l) (hu : RdB w L B u m) :
    RdS (w.alloc (.cells #[v, u] 22)) L B (.slice (some ⟨w.heap.size, 0, none⟩) 2 c) [l, m] := by
  have o := Own.new w 22 #[v, u]
  refine ⟨_, c, rfl, by simp, fun k p hk => ?_⟩
  have h0 : k = 0 ∨ k = 1 := by have := (List.getElem?_eq_some_iff.1 hk).1; simp at this; omega
  rcases h0 with rfl | rfl
  · have hp : l = p := by simpa using hk
    subst hp
    exact ⟨_, v, rfl, by rw [cell_add0, o.cell 0]; rfl, hv.below ((Below.refl _ _).alloc hB _)⟩
  · have hp : m = p := by simpa using hk
    subst hp
    exact ⟨_, u, rfl, by rw [cell_add0, o.cell 1]; rfl, hu.below ((Below.refl _ _).alloc hB _)⟩
set_option maxHeartbeats 400000 in
theorem pSum_any (v : Value) (l : List UInt8) (w : World) (L : Nat) (henv : Env w) (hv : RdB w L w.heap.size v l) :
    Calls Tryd.prog 9 #[v] w fun e w' => e = .returned (.int .u32 (crc l : Nat)) ∧ Below w.heap.size w w' := by
  have hb := (Below.refl w.heap.size w).alloc (Nat.le_refl _) (.cells #[v] 22)
  have hC := fun c => check_any _ [l] _ L w.heap.size (henv.step hb) (parts_one w v l L w.heap.size c (Nat.le_refl _) hv)
  rw [show ([l] : List (List UInt8)).flatten = l by simp] at hC
  have HC := Lib.hid hC
  obtain ⟨A, c, rfl, _⟩ := hv
  clear hC
  go_enter Tryd.func9, Tryd.ntmps9
  go_wp2_with fail
  refine (HC.out _).mono ?_
  rintro e w1 ⟨rfl, rfl⟩
  go_wp2
  go_ret
  refine ⟨rfl, ?_⟩
  (repeat' (first | (with_reducible exact Below.refl _ _) | (with_reducible assumption) | (with_reducible refine Below.alloc ?_ ?_ _) | (with_reducible refine Below.drew ?_) | (with_reducible refine Below.setCell ?_ ?_ _) | (with_reducible refine Below.trans ?_ (Below.mono (by assumption) ?_)) | go_size))
def lenF (n : Int) : Int := if n < 0 ∨ n > 1048576 then 0 else 8 + n
set_option maxHeartbeats 400000 in
theorem pLen_any (n : Int) (w : World) : Calls Tryd.prog 15 #[.int .i64 n] w fun e w' => e = .returned (.int .i64 (lenF n)) ∧ w' = w := by
  unfold lenF
  by_cases h1 : n < 0
  · rw [if_pos (.inl h1)]
    go_enter Tryd.func15, Tryd.ntmps15
    go_wp2
    go_ret
    exact ⟨rfl, rfl⟩
  · by_cases h2 : n > 1048576
    · rw [if_pos (.inr h2)]
      go_enter Tryd.func15, Tryd.ntmps15
      go_wp2
      go_ret
      exact ⟨rfl, rfl⟩
    · rw [if_neg (by omega)]
      go_enter Tryd.func15, Tryd.ntmps15
      go_wp2
      go_ret
      exact ⟨rfl, rfl⟩
theorem add_add (ad : Addr) (i k : Nat) : (ad.add i).add k = ad.add (i + k) := by
  unfold Addr.add
  by_cases hi : i = 0
  · subst hi; simp
  · by_cases hk : k = 0
    · subst hk; simp [hi]
    · simp [hi, hk, Nat.add_assoc]
theorem rdB_sub {w : World} {L B : Nat} {ad : Addr} {n cap : Nat} {l : List UInt8} (h : RdB w L B (.slice (some ad) n cap) l) (i j c : Nat) (hij : i + j ≤ l.length) (hc : j ≤ c) : RdB w L B (.slice (some (ad.add i)) j c) ((l.drop i).take j) := by
  have hl : ((l.drop i).take j).length = j := by rw [List.length_take, List.length_drop]; omega
  have h63 : l.length ≤ 9223372036854775807 := by obtain ⟨_, _, _, h1, _⟩ := h; exact h1
  refine ⟨some (ad.add i), c, by rw [hl], by omega, by omega, fun k b hk => ?_⟩
  have hkj : k < j := by have := (List.getElem?_eq_some_iff.1 hk).1; omega
  rw [List.getElem?_take, if_pos hkj, List.getElem?_drop] at hk
  obtain ⟨ad2, h1, h2, h3, h4⟩ := h.at hk
  injection h1 with h1
  subst h1
  exact ⟨_, rfl, by rw [add_block]; exact h2, by rw [add_block]; exact h3, by rw [add_add]; exact h4⟩
theorem rdB_tail {w : World} {L B g n cap c : Nat} {l p : List UInt8} (h : RdB w L B (.slice (some ⟨g, 0, none⟩) n cap) (l ++ p)) (hc : p.length ≤ c) : RdB w L B (.slice (some ⟨g, l.length, none⟩) p.length c) p := by
  have := rdB_sub h l.length p.length c (by rw [List.length_append]; omega) hc
  rw [List.drop_left, List.take_of_length_le (Nat.le_refl _)] at this
  have ha : (⟨g, 0, none⟩ : Addr).add l.length = ⟨g, l.length, none⟩ := by unfold Addr.add; split <;> simp_all
  rw [ha] at this
  exact this
/-- A frame behind bytes. -/
def frmL (l m : List UInt8) : List UInt8 := l ++ be4 m.length ++ be4 (crc (be4 m.length ++ m)) ++ m
end Go.Proofs.YtkhdfjneibnlmaaDoor
