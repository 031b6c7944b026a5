/-
  The program's Sum, Len and Append: what each function answers. Conditions: lengths; the table lies as the rows say.
-/
import Derived.Test.YtclpemmpckjemaaDoorTopFrD
import Derived.Deep.RegionWith
import Derived.WalkKit
import Derived.WalkSpells
import Derived.WalkLawsBesides
import Derived.Deep.QuietTactic
import Derived.BigQuiet
import Derived.Handy
import Derived.Lib.Hide
namespace Go.Proofs.YtclpemmpckjemaaDoor.Fr
open Go.RowKit

theorem cell_add0 (w : World) (g k : Nat) : w.cell? ((⟨g, 0, none⟩ : Addr).add k) = w.cell? ⟨g, k, none⟩ := by
  have ha : (⟨g, 0, none⟩ : Addr).add k = ⟨g, k, none⟩ := by unfold Addr.add; split <;> simp_all
  rw [ha]
theorem parts_one (w : World) (v : Value) (l : List UInt8) (L B c : Nat) (hB : B ≤ w.heap.size) (hv : RdB w L B v l) :
    RdS (w.alloc (.cells #[v] 26)) L B (.slice (some ⟨w.heap.size, 0, none⟩) 1 c) [l] := by
  have o := Own.new w 26 #[v]
  refine ⟨_, c, rfl, by simp, fun k p hk => ?_⟩
  have h0 : k = 0 := by have := (List.getElem?_eq_some_iff.1 hk).1; simp at this; exact this
  subst h0
  have hp : l = p := by simpa using hk
  subst hp
  exact ⟨_, v, rfl, by rw [cell_add0, o.cell 0]; rfl, hv.below ((Below.refl _ _).alloc hB _)⟩
theorem parts_two (w : World) (v u : Value) (l m : List UInt8) (L B c : Nat) (hB : B ≤ w.heap.size) (hv : RdB w L B v l) (hu : RdB w L B u m) :
    RdS (w.alloc (.cells #[v, u] 26)) L B (.slice (some ⟨w.heap.size, 0, none⟩) 2 c) [l, m] := by
  have o := Own.new w 26 #[v, u]
  refine ⟨_, c, rfl, by simp, fun k p hk => ?_⟩
  have h0 : k = 0 ∨ k = 1 := by have := (List.getElem?_eq_some_iff.1 hk).1; simp at this; omega
  rcases h0 with rfl | rfl
  · have hp : l = p := by simpa using hk
    subst hp
    exact ⟨_, v, rfl, by rw [cell_add0, o.cell 0]; rfl, hv.below ((Below.refl _ _).alloc hB _)⟩
  · have hp : m = p := by simpa using hk
    subst hp
    exact ⟨_, u, rfl, by rw [cell_add0, o.cell 1]; rfl, hu.below ((Below.refl _ _).alloc hB _)⟩
def lenF (n : Int) : Int := if n < 0 ∨ n > 1048576 then 0 else 8 + n
set_option maxHeartbeats 400000 in
theorem pLen_any (n : Int) (w : World) : Calls Tryd.prog 18 #[.int .i64 n] w fun e w' => e = .returned (.int .i64 (lenF n)) ∧ w' = w := by
  unfold lenF
  by_cases h1 : n < 0
  · rw [if_pos (.inl h1)]
    go_enter Tryd.func18, Tryd.ntmps18
    go_wp2
    go_ret
    exact ⟨rfl, rfl⟩
  · by_cases h2 : n > 1048576
    · rw [if_pos (.inr h2)]
      go_enter Tryd.func18, Tryd.ntmps18
      go_wp2
      go_ret
      exact ⟨rfl, rfl⟩
    · rw [if_neg (by omega)]
      go_enter Tryd.func18, Tryd.ntmps18
      go_wp2
      go_ret
      exact ⟨rfl, rfl⟩
theorem add_add (ad : Addr) (i k : Nat) : (ad.add i).add k = ad.add (i + k) := by
  unfold Addr.add
  by_cases hi : i = 0
  · subst hi; simp
  · by_cases hk : k = 0
    · subst hk; simp [hi]
    · simp [hi, hk, Nat.add_assoc]
theorem rdB_sub {w : World} {L B : Nat} {ad : Addr} {n cap : Nat} {l : List UInt8} (h : RdB w L B (.slice (some ad) n cap) l) (i j c : Nat) (hij : i + j ≤ l.length) (hc : j ≤ c) : RdB w L B (.slice (some (ad.add i)) j c) ((l.drop i).take j) := by
  have hl : ((l.drop i).take j).length = j := by rw [List.length_take, List.length_drop]; omega
  have h63 : l.length ≤ 9223372036854775807 := by obtain ⟨_, _, _, h1, _⟩ := h; exact h1
  refine ⟨some (ad.add i), c, by rw [hl], by omega, by omega, fun k b hk => ?_⟩
  have hkj : k < j := by have := (List.getElem?_eq_some_iff.1 hk).1; omega
  rw [List.getElem?_take, if_pos hkj, List.getElem?_drop] at hk
  obtain ⟨ad2, h1, h2, h3, h4⟩ := h.at hk
  injection h1 with h1
  subst h1
  exact ⟨_, rfl, by rw [add_block]; exact h2, by rw [add_block]; exact h3, by rw [add_add]; exact h4⟩
theorem rdB_tail {w : World} {L B g n cap c : Nat} {l p : List UInt8} (h : RdB w L B (.slice (some ⟨g, 0, none⟩) n cap) (l ++ p)) (hc : p.length ≤ c) : RdB w L B (.slice (some ⟨g, l.length, none⟩) p.length c) p := by
  have := rdB_sub h l.length p.length c (by rw [List.length_append]; omega) hc
  rw [List.drop_left, List.take_of_length_le (Nat.le_refl _)] at this
  have ha : (⟨g, 0, none⟩ : Addr).add l.length = ⟨g, l.length, none⟩ := by unfold Addr.add; split <;> simp_all
  rw [ha] at this
  exact this
/-- A frame behind bytes. -/
def frmL (l m : List UInt8) : List UInt8 := l ++ be4 m.length ++ be4 (crc (be4 m.length ++ m)) ++ m
end Go.Proofs.YtclpemmpckjemaaDoor.Fr
