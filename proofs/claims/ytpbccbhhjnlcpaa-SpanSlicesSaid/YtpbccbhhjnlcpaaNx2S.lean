/-
  Contract of the program's Next; the program's and the reference's answers are the least instant. Conditions: none.
-/
import Derived.Test.YtpbccbhhjnlcpaaNxS
import Derived.Test.YtpbccbhhjnlcpaaRef2S
import Derived.WalkKit
import Derived.WalkSpells
import Derived.WalkLawsBesides
import Derived.Deep.QuietTactic
import Derived.BigQuiet
import Derived.Handy
import Derived.Lib.Hide
namespace Go.Proofs.Ytpbccbhhjnlcpaa
open Go.RowKit

theorem nxt_least (t : Int) : ∀ {z : Int} {S : List (Int × Int)}, spB z S = true → Least S t (nxt t S)
  | _, [], _ => ⟨fun h => (by cases h), fun _ => ⟨rfl, fun _ _ => rfl⟩⟩
  | z, p :: S, h => by
    have h' := h
    simp only [spB, Bool.and_eq_true, decide_eq_true_eq] at h
    have hp := vld_iff.1 h.1.2
    have hb : ∀ m, memL S m = true → p.2 ≤ m := fun m hm => by
      rcases ltge m p.2 with h1 | h1
      · rw [asc_before (spB_asc _ _ h.2) h1] at hm; cases hm
      · exact h1
    unfold nxt
    by_cases ht : t < p.2
    · rw [if_pos ht]
      refine ⟨fun _ => ⟨?_, by show t ≤ max t p.1; omega, fun m hm hmem => ?_⟩, fun hf => by cases hf⟩
      · rw [memL_cons, show cnt p.1 p.2 (max t p.1) = true from cnt_iff.2 ⟨hp.1, hp.2.1, hp.2.2, by omega, by omega⟩]; rfl
      · rw [memL_cons, Bool.or_eq_true] at hmem
        show max t p.1 ≤ m
        rcases hmem with hmem | hmem
        · have := cnt_iff.1 hmem; omega
        · have := hb m hmem; omega
    · rw [if_neg ht]
      have ih := nxt_least t h.2
      have hno : ∀ m, t ≤ m → memL (p :: S) m = memL S m := fun m hm => by
        rw [memL_cons, show cnt p.1 p.2 m = false by rw [Bool.eq_false_iff]; intro hc; have := cnt_iff.1 hc; omega, Bool.false_or]
      refine ⟨fun hs => ?_, fun hs => ?_⟩
      · obtain ⟨a1, a2, a3⟩ := ih.1 hs
        exact ⟨by rw [hno _ a2]; exact a1, a2, fun m hm hmem => a3 m hm (by rwa [hno m hm] at hmem)⟩
      · obtain ⟨a1, a2⟩ := ih.2 hs
        exact ⟨a1, fun m hm => by rw [hno m hm]; exact a2 m hm⟩
theorem next_same (t : Int) (l : List (Int × Int)) : pnx t l = nextL l t := by
  refine least_unique (pnx_least t l) ?_
  have h := nxt_least t (comb_sp (f := fA) rfl l [])
  have hm : ∀ x, memL (ofL l) x = memL l x := fun x => by unfold ofL; rw [comb_mem rfl]; rfl
  unfold nextL ofL at *
  refine ⟨fun hs => ?_, fun hs => ?_⟩
  · obtain ⟨a1, a2, a3⟩ := h.1 hs
    exact ⟨by rw [hm] at a1; exact a1, a2, fun m hmt hmem => a3 m hmt (by rw [hm]; exact hmem)⟩
  · obtain ⟨a1, a2⟩ := h.2 hs
    exact ⟨a1, fun m hmt => by have := a2 m hmt; rwa [hm] at this⟩
theorem pn_no {t : Int} {l : List (Int × Int)} {k : Nat} {n a b : Int} {f : Bool} (hk : l[k]? = some (a, b)) (hs : pnx t (l.take k) = (n, f)) (h : (vld a b && decide (t < b) && (!f || decide (max a t < n))) = false) : pnx t (l.take (k + 1)) = (n, f) := by
  rw [pnx_step hk, hs, pnF, if_neg (by rw [h]; decide)]
theorem pn_yes {t : Int} {l : List (Int × Int)} {k : Nat} {n a b : Int} {f : Bool} (hk : l[k]? = some (a, b)) (hs : pnx t (l.take k) = (n, f)) (h : (vld a b && decide (t < b) && (!f || decide (max a t < n))) = true) : pnx t (l.take (k + 1)) = (max a t, true) := by
  rw [pnx_step hk, hs, pnF, if_pos h]

set_option maxRecDepth 100000 in
set_option maxHeartbeats 3200000 in
theorem sNext_any (v : Value) (l : List (Int × Int)) (t : Int) (w : World) (L : Nat) (hv : RdP w L w.heap.size v l) :
    Calls Try.prog 11 #[v, .int .i64 t] w (RetPair w (nextL l t)) := by
  rw [← next_same]
  have hv0 := hv
  obtain ⟨A, c, rfl, hlen, _⟩ := hv
  go_enter Try.func11, Try.ntmps11
  go_wp2
  go_loopw [6, 7, 13] (fun o f i wr => ∃ (k : Nat) (n : Int) (b : Bool), k ≤ l.length ∧ i = .int .i64 k ∧ o = .int .i64 n ∧ f = .bool b ∧ Hid (pnx t (l.take k) = (n, b)) ∧ Below w.heap.size w wr) (fun _ _ i _ => l.length - (intOf i).toNat)
  case atStart => exact ⟨0, 0, false, by omega, rfl, rfl, rfl, Lib.hid rfl, Below.refl _ _⟩
  case round =>
    obtain ⟨k, n, fb, hk, rfl, rfl, rfl, hs, hbr⟩ := hrel
    have hbz := hbr.size
    by_cases hlt : k < l.length
    · have hke := List.getElem?_eq_getElem hlt
      generalize l[k] = p at hke
      obtain ⟨a, b⟩ := p
      obtain ⟨ad, rfl, hal, hab, h0, h1⟩ := (hv0.below hbr).at hke
      dsimp only at h0 h1
      have bX0 : Below wr.heap.size wr (wr.alloc (.cells #[.int .i64 a, .int .i64 b] 39)) := (Below.refl _ _).alloc (Nat.le_refl _) _
      have oX0 := Own.new wr 39 #[.int .i64 a, .int .i64 b]
      have NO := fun h => Lib.hid (pn_no hke hs.out h)
      have YES := fun h => Lib.hid (pn_yes hke hs.out h)
      clear hke hs
      cases hV : vld a b
      · have hP := NO (by rw [hV]; rfl)
        clear NO YES
        go_wp2_with (go_at_call 41; refine (valid_any _ _ _).mono ?_; rw [hV]; rintro e w2 ⟨rfl, hb2⟩; have B2 := bX0.trans (hb2.mono bX0.size); have z2 := B2.size; have o2 := Own.below oX0 hb2 (by simp); have d0 : w2.cell? ⟨wr.heap.size, 0, none⟩ = some (.int .i64 a) := o2.cell 0; have d1 : w2.cell? ⟨wr.heap.size, 1, none⟩ = some (.int .i64 b) := o2.cell 1; clear hb2 o2)
        go_roundw
        case rel => exact ⟨k + 1, n, fb, by omega, by go_num, rfl, rfl, hP, hbr.trans (B2.mono hbz)⟩
        case measure => simp [intOf]; omega
      by_cases hbt : b ≤ t
      · have hP := NO (by rw [decide_eq_false (p := t < b) (by omega), Bool.and_false]; rfl)
        clear NO YES
        go_wp2_with (go_at_call 41; refine (valid_any _ _ _).mono ?_; rw [hV]; rintro e w2 ⟨rfl, hb2⟩; have B2 := bX0.trans (hb2.mono bX0.size); have z2 := B2.size; have o2 := Own.below oX0 hb2 (by simp); have d0 : w2.cell? ⟨wr.heap.size, 0, none⟩ = some (.int .i64 a) := o2.cell 0; have d1 : w2.cell? ⟨wr.heap.size, 1, none⟩ = some (.int .i64 b) := o2.cell 1; clear hb2 o2)
        go_roundw
        case rel => exact ⟨k + 1, n, fb, by omega, by go_num, rfl, rfl, hP, hbr.trans (B2.mono hbz)⟩
        case measure => simp [intOf]; omega
      have htb : decide (t < b) = true := by simp; omega
      have hbt2 : decide (b ≤ t) = false := by simp; omega
      rw [hV, htb] at NO YES
      cases fb
      · have hP := YES rfl
        clear NO YES htb
        go_wp2_with (go_at_call 41; refine (valid_any _ _ _).mono ?_; rw [hV]; rintro e w2 ⟨rfl, hb2⟩; have B2 := bX0.trans (hb2.mono bX0.size); have z2 := B2.size; have o2 := Own.below oX0 hb2 (by simp); have d0 : w2.cell? ⟨wr.heap.size, 0, none⟩ = some (.int .i64 a) := o2.cell 0; have d1 : w2.cell? ⟨wr.heap.size, 1, none⟩ = some (.int .i64 b) := o2.cell 1; clear hb2 o2)
        go_roundw
        case rel => exact ⟨k + 1, max a t, true, by omega, by go_num, rfl, rfl, hP, hbr.trans (B2.mono hbz)⟩
        case measure => simp [intOf]; omega
      by_cases hn : max a t < n
      · have hP := YES (by rw [decide_eq_true hn]; rfl)
        clear NO YES htb
        go_wp2_with (go_at_call 41; refine (valid_any _ _ _).mono ?_; rw [hV]; rintro e w2 ⟨rfl, hb2⟩; have B2 := bX0.trans (hb2.mono bX0.size); have z2 := B2.size; have o2 := Own.below oX0 hb2 (by simp); have d0 : w2.cell? ⟨wr.heap.size, 0, none⟩ = some (.int .i64 a) := o2.cell 0; have d1 : w2.cell? ⟨wr.heap.size, 1, none⟩ = some (.int .i64 b) := o2.cell 1; clear hb2 o2)
        go_roundw
        case rel => exact ⟨k + 1, max a t, true, by omega, by go_num, rfl, rfl, hP, hbr.trans (B2.mono hbz)⟩
        case measure => simp [intOf]; omega
      · have hP := NO (by rw [decide_eq_false hn]; rfl)
        clear NO YES htb
        go_wp2_with (go_at_call 41; refine (valid_any _ _ _).mono ?_; rw [hV]; rintro e w2 ⟨rfl, hb2⟩; have B2 := bX0.trans (hb2.mono bX0.size); have z2 := B2.size; have o2 := Own.below oX0 hb2 (by simp); have d0 : w2.cell? ⟨wr.heap.size, 0, none⟩ = some (.int .i64 a) := o2.cell 0; have d1 : w2.cell? ⟨wr.heap.size, 1, none⟩ = some (.int .i64 b) := o2.cell 1; clear hb2 o2)
        go_roundw
        case rel => exact ⟨k + 1, n, true, by omega, by go_num, rfl, rfl, hP, hbr.trans (B2.mono hbz)⟩
        case measure => simp [intOf]; omega
    · have hE : Hid (pnx t l = (n, fb)) := Lib.hid (by have h := hs.out; rwa [List.take_of_length_le (by omega)] at h)
      have hd : ¬ (k : Int) < l.length := by omega
      clear hs
      go_wp2
      go_ret2
      exact ⟨by rw [hE.out]; rfl, hbr⟩
end Go.Proofs.Ytpbccbhhjnlcpaa
