/-
  Mathematics of the encoding of values, rows and periods: what is put is read again, and what is read has just the bytes that are put for it. Conditions: none.
-/
import Derived.Test.YtclpemmpckjemaaDoorCoM
import Derived.Test.YtclpemmpckjemaaDoorCoPp
import Derived.WalkKit
import Derived.WalkSpells
import Derived.WalkLawsBesides
import Derived.Deep.QuietTactic
import Derived.BigQuiet
import Derived.Handy
import Derived.Lib.Hide
namespace Go.Proofs.YtclpemmpckjemaaDoor
open Go.RowKit

theorem get_mid (l m : List UInt8) (b : UInt8) (h : l.length < (l ++ (b :: m)).length) : (l ++ (b :: m))[l.length]'h = b := by
  rw [List.getElem_append_right (Nat.le_refl _)]
  simp
theorem valF_put (l r : List UInt8) (p : Vl) (hok : okP p = true) : valF (l ++ (encV p ++ r)) l.length = (0, p, l.length + (encV p).length) := by
  rcases okP_cases hok with rfl | ⟨n, rfl, h1, h2⟩ | ⟨s, rfl, h1, h2⟩ | rfl | rfl
  · have hlt : l.length < (l ++ (0 :: r) : List UInt8).length := by simp
    show valF (l ++ (0 :: r)) l.length = _
    rw [valF_in hlt 0 (by rw [get_mid]; rfl), if_pos rfl]
    rfl
  · have hlt : l.length < (l ++ (1 :: (vint (zig n) ++ r)) : List UInt8).length := by simp
    show valF (l ++ (1 :: (vint (zig n) ++ r))) l.length = _
    rw [valF_in hlt 1 (by rw [get_mid]; rfl), if_neg (by decide), if_pos rfl]
    have he : (l ++ (1 :: (vint (zig n) ++ r)) : List UInt8) = (l ++ [1]) ++ (vint (zig n) ++ r) := by simp
    have hl : ((l.length : Nat) : Int) + 1 = (((l ++ [1] : List UInt8).length : Nat) : Int) := by simp
    rw [he, hl, intF_put _ r n ⟨by omega, by omega⟩]
    dsimp only
    rw [if_pos rfl, if_pos hok]
    have hz : (encV (1, n, ⟨#[]⟩)).length = 1 + (vint (zig n)).length := by
      show ([1] ++ vint (zig n)).length = _
      rw [List.length_append]
      rfl
    rw [hz, List.length_append, Nat.add_assoc]
    rfl
  · have hlt : l.length < (l ++ (2 :: (textB s ++ r)) : List UInt8).length := by simp
    show valF (l ++ (2 :: (textB s ++ r))) l.length = _
    rw [valF_in hlt 2 (by rw [get_mid]; rfl), if_neg (by decide), if_neg (by decide), if_pos rfl]
    have he : (l ++ (2 :: (textB s ++ r)) : List UInt8) = (l ++ [2]) ++ (textB s ++ r) := by simp
    have hl : ((l.length : Nat) : Int) + 1 = (((l ++ [2] : List UInt8).length : Nat) : Int) := by simp
    rw [he, hl, txtF_put _ r s 200 (by omega) (by omega)]
    dsimp only
    rw [if_pos rfl, if_pos hok]
    have hz : (encV (2, 0, s)).length = 1 + (textB s).length := by
      show ([2] ++ textB s).length = _
      rw [List.length_append]
      rfl
    rw [hz, List.length_append, Nat.add_assoc]
    rfl
  · have hlt : l.length < (l ++ (3 :: r) : List UInt8).length := by simp
    show valF (l ++ (3 :: r)) l.length = _
    rw [valF_in hlt 3 (by rw [get_mid]; rfl), if_neg (by decide), if_neg (by decide), if_neg (by decide), if_pos rfl]
    rfl
  · have hlt : l.length < (l ++ (4 :: r) : List UInt8).length := by simp
    show valF (l ++ (4 :: r)) l.length = _
    rw [valF_in hlt 4 (by rw [get_mid]; rfl), if_neg (by decide), if_neg (by decide), if_neg (by decide), if_neg (by decide), if_pos rfl]
    rfl
theorem take_one (l : List UInt8) (P : Nat) (h : P < l.length) (b : Nat) (hb : (l[P]'h).toNat = b) : l.take (P + 1) = l.take P ++ [UInt8.ofNat b] := by
  rw [List.take_succ_eq_append_getElem h]
  have : UInt8.ofNat b = l[P] := by rw [← hb]; simp
  rw [this]
theorem valF_back {l : List UInt8} {i : Int} (h : (valF l i).1 = 0) : 0 ≤ i ∧ i ≤ l.length ∧ okP (valF l i).2.1 = true ∧ i.toNat ≤ (valF l i).2.2 ∧ (valF l i).2.2 ≤ l.length ∧ l.take (valF l i).2.2 = l.take i.toNat ++ encV (valF l i).2.1 := by
  by_cases h0 : i < 0 ∨ i > l.length
  · unfold valF at h
    rw [if_pos h0] at h
    simp at h
  by_cases h1 : i = l.length
  · unfold valF at h
    rw [if_neg h0, if_pos h1] at h
    simp at h
  obtain ⟨P, rfl⟩ := Int.eq_ofNat_of_zero_le (show 0 ≤ i by omega)
  have hP : P < l.length := by omega
  have hF := fun b hb => valF_in hP b hb
  have hT := fun b hb => take_one l P hP b hb
  generalize (l[P]'hP).toNat = b at *
  have hF := hF b rfl
  have hT := hT b rfl
  rw [Int.toNat_natCast]
  refine ⟨by omega, by omega, ?_⟩
  by_cases k0 : b = 0
  · subst k0
    rw [if_pos rfl] at hF
    rw [hF]
    exact ⟨show okP (0, 0, ⟨#[]⟩) = true by decide +kernel, by dsimp only; omega, by dsimp only; omega, hT⟩
  by_cases k1 : b = 1
  · subst k1
    rw [if_neg (by decide), if_pos rfl] at hF
    rw [hF] at h ⊢
    by_cases he : (intF l ((P : Int) + 1)).1 = 0
    · rw [if_pos he] at h ⊢
      by_cases ho : okP (1, (intF l ((P : Int) + 1)).2.1, ⟨#[]⟩) = true
      · rw [if_pos ho]
        obtain ⟨b1, b2, b3, b4⟩ := intF_back he
        have hend := intF_end he
        refine ⟨ho, by dsimp only; omega, hend, ?_⟩
        dsimp only
        rw [b4, show ((P : Int) + 1).toNat = P + 1 by omega, hT, List.append_assoc]
        rfl
      · rw [if_neg ho] at h; simp at h
    · rw [if_neg he] at h; exact absurd h he
  by_cases k2 : b = 2
  · subst k2
    rw [if_neg (by decide), if_neg (by decide), if_pos rfl] at hF
    rw [hF] at h ⊢
    by_cases he : (txtF l ((P : Int) + 1) 200).1 = 0
    · rw [if_pos he] at h ⊢
      by_cases ho : okP (2, 0, (txtF l ((P : Int) + 1) 200).2.1) = true
      · rw [if_pos ho]
        obtain ⟨b1, b2, b3, hend, b4⟩ := txtF_back he
        refine ⟨ho, by dsimp only; omega, hend, ?_⟩
        dsimp only
        rw [b4, show ((P : Int) + 1).toNat = P + 1 by omega, hT, List.append_assoc]
        rfl
      · rw [if_neg ho] at h; simp at h
    · rw [if_neg he] at h; exact absurd h he
  by_cases k3 : b = 3
  · subst k3
    rw [if_neg (by decide), if_neg (by decide), if_neg (by decide), if_pos rfl] at hF
    rw [hF]
    exact ⟨show okP (3, 0, ⟨#[]⟩) = true by decide +kernel, by dsimp only; omega, by dsimp only; omega, hT⟩
  by_cases k4 : b = 4
  · subst k4
    rw [if_neg (by decide), if_neg (by decide), if_neg (by decide), if_neg (by decide), if_pos rfl] at hF
    rw [hF]
    exact ⟨show okP (3, 1, ⟨#[]⟩) = true by decide +kernel, by dsimp only; omega, by dsimp only; omega, hT⟩
  rw [if_neg k0, if_neg k1, if_neg k2, if_neg k3, if_neg k4] at hF
  rw [hF] at h
  simp at h
/-! ### rows -/
theorem okL_cons {p : Vl} {ps : List Vl} : okL (p :: ps) = (okP p && okL ps) := rfl
theorem encs_cons (p : Vl) (ps : List Vl) : encs (p :: ps) = encV p ++ encs ps := rfl
theorem readR_put : ∀ (ps : List Vl) (l r : List UInt8), okL ps = true → readR (l ++ (encs ps ++ r)) l.length ps.length = (0, ps, l.length + (encs ps).length) := by
  intro ps
  induction ps with
  | nil => intro l r _; rfl
  | cons p ps ih =>
    intro l r h
    rw [okL_cons, Bool.and_eq_true] at h
    have e1 : l ++ (encs (p :: ps) ++ r) = l ++ (encV p ++ (encs ps ++ r)) := by rw [encs_cons, List.append_assoc]
    have e2 : l ++ (encV p ++ (encs ps ++ r)) = (l ++ encV p) ++ (encs ps ++ r) := by rw [List.append_assoc]
    have hv := valF_put l (encs ps ++ r) p h.1
    have hr := ih (l ++ encV p) r h.2
    rw [List.length_append] at hr
    rw [e1, List.length_cons, readR, hv]
    dsimp only
    rw [e2, hr]
    dsimp only
    rw [if_pos rfl, if_pos rfl, encs_cons, List.length_append]
    congr 2
    omega
theorem rowF_put (l r : List UInt8) (ps : List Vl) (h : okL ps = true) (h12 : ps.length ≤ 12) : rowF (l ++ (encR ps ++ r)) l.length = (0, ps, l.length + (encR ps).length) := by
  have hn : I64 (ps.length : Int) := ⟨by omega, by omega⟩
  have e1 : l ++ (encR ps ++ r) = l ++ (vint (zig ps.length) ++ (encs ps ++ r)) := by unfold encR; rw [List.append_assoc]
  have e2 : l ++ (vint (zig ps.length) ++ (encs ps ++ r)) = (l ++ vint (zig ps.length)) ++ (encs ps ++ r) := by rw [List.append_assoc]
  have hr := readR_put ps (l ++ vint (zig ps.length)) r h
  rw [List.length_append] at hr
  unfold rowF
  rw [e1, intF_put l _ _ hn]
  dsimp only
  rw [if_pos rfl, if_neg (by omega), if_neg (by omega), Int.toNat_natCast, e2, hr]
  unfold encR
  rw [List.length_append]
  congr 2
  omega
theorem readR_back : ∀ (n k : Nat) (l : List UInt8), k ≤ l.length → (readR l k n).1 = 0 → okL (readR l k n).2.1 = true ∧ (readR l k n).2.1.length = n ∧ k ≤ (readR l k n).2.2 ∧ (readR l k n).2.2 ≤ l.length ∧ l.take (readR l k n).2.2 = l.take k ++ encs (readR l k n).2.1 := by
  intro n
  induction n with
  | zero => intro k l hk _; exact ⟨rfl, rfl, Nat.le_refl _, hk, by show l.take k = l.take k ++ []; rw [List.append_nil]⟩
  | succ n ih =>
    intro k l hk h
    rw [readR] at h ⊢
    split at h
    · rename_i h1
      rw [if_pos h1]
      split at h
      · rename_i h2
        rw [if_pos h2]
        obtain ⟨_, _, b3, b4, b5, b6⟩ := valF_back h1
        obtain ⟨c1, c2, c3, c4, c5⟩ := ih _ l b5 h2
        rw [Int.toNat_natCast] at b4 b6
        refine ⟨by rw [okL_cons, b3, c1]; rfl, by simp [c2], by dsimp only; omega, c4, ?_⟩
        dsimp only
        rw [c5, b6, encs_cons, List.append_assoc]
      · exact absurd h (by assumption)
    · exact absurd h (by assumption)
theorem rowF_back {l : List UInt8} {i : Int} (h : (rowF l i).1 = 0) : 0 ≤ i ∧ i ≤ l.length ∧ okL (rowF l i).2.1 = true ∧ (rowF l i).2.1.length ≤ 12 ∧ i.toNat ≤ (rowF l i).2.2 ∧ (rowF l i).2.2 ≤ l.length ∧ l.take (rowF l i).2.2 = l.take i.toNat ++ encR (rowF l i).2.1 := by
  unfold rowF at h ⊢
  split at h
  · rename_i h1
    rw [if_pos h1]
    split at h
    · simp at h
    · rename_i h2
      rw [if_neg h2]
      split at h
      · simp at h
      · rename_i h3
        rw [if_neg h3]
        obtain ⟨b1, b2, b3, b4⟩ := intF_back h1
        have hend := intF_end h1
        obtain ⟨c1, c2, c3, c4, c5⟩ := readR_back _ _ l hend h
        refine ⟨b1, b2, c1, by omega, by omega, c4, ?_⟩
        rw [c5, b4]
        unfold encR
        rw [c2, List.append_assoc, show (((intF l i).2.1.toNat : Nat) : Int) = (intF l i).2.1 by omega]
  · exact absurd h (by assumption)
theorem perF_back {l : List UInt8} {i : Int} (h : (perF l i).1 = 0) : 0 ≤ i ∧ i ≤ l.length ∧ i.toNat ≤ (perF l i).2.2.2 ∧ (perF l i).2.2.2 ≤ l.length ∧ I64 (perF l i).2.1 ∧ I64 (perF l i).2.2.1 ∧ l.take (perF l i).2.2.2 = l.take i.toNat ++ perB (perF l i).2.1 (perF l i).2.2.1 := by
  unfold perF at h ⊢
  split at h
  · rename_i h1
    rw [if_pos h1]
    split at h
    · rename_i h2
      rw [if_pos h2]
      split at h
      · rename_i h3
        rw [if_pos h3]
        obtain ⟨b1, b2, b3, b4⟩ := intF_back h1
        obtain ⟨c1, c2, c3, c4⟩ := intF_back h2
        have hend := intF_end h2
        rw [Int.toNat_natCast] at c3 c4
        refine ⟨b1, b2, by dsimp only; omega, hend, intF_num _ _, intF_num _ _, ?_⟩
        dsimp only
        rw [c4, b4]
        unfold perB
        rw [List.append_assoc]
      · simp at h
    · exact absurd h (by assumption)
  · exact absurd h (by assumption)
end Go.Proofs.YtclpemmpckjemaaDoor
