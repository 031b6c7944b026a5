/-
  Mathematics of frames one behind the other: what a scan finds in them, also if their end is torn off. Conditions: lengths of bodies.
-/
import Derived.Test.YtkhdfjneibnlmaaDoorFrDm
import Derived.Test.YtkhdfjneibnlmaaDoorFrP
namespace Go.Proofs.YtkhdfjneibnlmaaDoor
open Go.RowKit

/-- A frame. -/
def enc (m : List UInt8) : List UInt8 := be4 m.length ++ (be4 (crc (be4 m.length ++ m)) ++ m)
theorem enc_len (m : List UInt8) : (enc m).length = 8 + m.length := by unfold enc; simp [be4]; omega
theorem frmL_enc (l m : List UInt8) : frmL l m = l ++ enc m := by unfold frmL enc; rw [List.append_assoc, List.append_assoc]
/-- Frames one behind the other. -/
def encs (ms : List (List UInt8)) : List UInt8 := (ms.map enc).flatten
theorem encs_nil : encs [] = [] := rfl
theorem encs_cons (m : List UInt8) (ms : List (List UInt8)) : encs (m :: ms) = enc m ++ encs ms := rfl
theorem encs_app (a b : List (List UInt8)) : encs (a ++ b) = encs a ++ encs b := by unfold encs; rw [List.map_append, List.flatten_append]
theorem encs_succ (ms : List (List UInt8)) (k : Nat) (h : k < ms.length) : encs (ms.take (k + 1)) = encs (ms.take k) ++ enc ms[k] := by
  rw [List.take_succ_eq_append_getElem h, encs_app, encs_cons, encs_nil, List.append_nil]
theorem encs_split (ms : List (List UInt8)) (k : Nat) (h : k < ms.length) : encs ms = encs (ms.take k) ++ (enc ms[k] ++ encs (ms.drop (k + 1))) := by
  conv => lhs; rw [← List.take_append_drop k ms]
  rw [encs_app, List.drop_eq_getElem_cons h, encs_cons]
theorem encs_mono (ms : List (List UInt8)) (i j : Nat) (h : i ≤ j) : (encs (ms.take i)).length ≤ (encs (ms.take j)).length := by
  have e : ms.take i = (ms.take j).take i := by rw [List.take_take, Nat.min_eq_left h]
  have e2 : encs (ms.take j) = encs ((ms.take j).take i) ++ encs ((ms.take j).drop i) := by rw [← encs_app, List.take_append_drop]
  rw [e2, e, List.length_append]
  omega
theorem nextL_enc (m rest : List UInt8) (P : Nat) (hm : m.length ≤ 1048576) : nextL (enc m ++ rest) P = (0, m, P + 8 + m.length) := by
  have hC := crc_lt (be4 m.length ++ m)
  have hn := num4_be4 m.length (by omega)
  unfold enc
  generalize hK : crc (be4 m.length ++ m) = C at *
  have hc := num4_be4 C hC
  have e : (be4 m.length ++ (be4 C ++ m)) ++ rest = UInt8.ofNat (m.length / 16777216) :: UInt8.ofNat (m.length / 65536) :: UInt8.ofNat (m.length / 256) :: UInt8.ofNat m.length :: UInt8.ofNat (C / 16777216) :: UInt8.ofNat (C / 65536) :: UInt8.ofNat (C / 256) :: UInt8.ofNat C :: (m ++ rest) := by
    unfold be4; rfl
  rw [e]
  have h0 : nxE (UInt8.ofNat (m.length / 16777216)) (UInt8.ofNat (m.length / 65536)) (UInt8.ofNat (m.length / 256)) (UInt8.ofNat m.length) (UInt8.ofNat (C / 16777216)) (UInt8.ofNat (C / 65536)) (UInt8.ofNat (C / 256)) (UInt8.ofNat C) (m ++ rest) = 0 := by
    unfold nxE
    rw [hn, hc, if_neg (by omega), if_neg (by rw [List.length_append]; omega), List.take_left]
    exact if_pos hK
  show (if nxE (UInt8.ofNat (m.length / 16777216)) (UInt8.ofNat (m.length / 65536)) (UInt8.ofNat (m.length / 256)) (UInt8.ofNat m.length) (UInt8.ofNat (C / 16777216)) (UInt8.ofNat (C / 65536)) (UInt8.ofNat (C / 256)) (UInt8.ofNat C) (m ++ rest) = 0 then (0, (m ++ rest).take (num4 (UInt8.ofNat (m.length / 16777216)) (UInt8.ofNat (m.length / 65536)) (UInt8.ofNat (m.length / 256)) (UInt8.ofNat m.length)), P + 8 + num4 (UInt8.ofNat (m.length / 16777216)) (UInt8.ofNat (m.length / 65536)) (UInt8.ofNat (m.length / 256)) (UInt8.ofNat m.length)) else _) = _
  rw [if_pos h0, hn, List.take_left]
theorem nextL_torn (m rest : List UInt8) (P j : Nat) (hm : m.length ≤ 1048576) (hj : j < 8 + m.length) : (nextL ((enc m ++ rest).take j) P).1 ≠ 0 := by
  by_cases h8 : j < 8
  · rw [nextL_short _ _ (by rw [List.length_take]; omega)]
    decide
  · have hn := num4_be4 m.length (by omega)
    have e : (enc m ++ rest).take j = UInt8.ofNat (m.length / 16777216) :: UInt8.ofNat (m.length / 65536) :: UInt8.ofNat (m.length / 256) :: UInt8.ofNat m.length :: UInt8.ofNat (crc (be4 m.length ++ m) / 16777216) :: UInt8.ofNat (crc (be4 m.length ++ m) / 65536) :: UInt8.ofNat (crc (be4 m.length ++ m) / 256) :: UInt8.ofNat (crc (be4 m.length ++ m)) :: (m ++ rest).take (j - 8) := by
      obtain ⟨i, rfl⟩ : ∃ i, j = i + 8 := ⟨j - 8, by omega⟩
      rw [Nat.add_sub_cancel]
      unfold enc be4
      rfl
    rw [e]
    generalize UInt8.ofNat (crc (be4 m.length ++ m) / 16777216) = c0
    generalize UInt8.ofNat (crc (be4 m.length ++ m) / 65536) = c1
    generalize UInt8.ofNat (crc (be4 m.length ++ m) / 256) = c2
    generalize UInt8.ofNat (crc (be4 m.length ++ m)) = c3
    have h0 : nxE (UInt8.ofNat (m.length / 16777216)) (UInt8.ofNat (m.length / 65536)) (UInt8.ofNat (m.length / 256)) (UInt8.ofNat m.length) c0 c1 c2 c3 ((m ++ rest).take (j - 8)) = 2 := by
      unfold nxE
      rw [hn, if_neg (by omega), if_pos (by rw [List.length_take]; omega)]
    show (if nxE (UInt8.ofNat (m.length / 16777216)) (UInt8.ofNat (m.length / 65536)) (UInt8.ofNat (m.length / 256)) (UInt8.ofNat m.length) c0 c1 c2 c3 ((m ++ rest).take (j - 8)) = 0 then _ else (nxE (UInt8.ofNat (m.length / 16777216)) (UInt8.ofNat (m.length / 65536)) (UInt8.ofNat (m.length / 256)) (UInt8.ofNat m.length) c0 c1 c2 c3 ((m ++ rest).take (j - 8)), ([] : List UInt8), 0)).1 ≠ 0
    rw [h0, if_neg (by decide)]
    decide
theorem nextF_at (l : List UInt8) (P : Nat) (hP : P ≤ l.length) : nextF l P = nextL (l.drop P) P := by
  unfold nextF
  rw [if_neg (by omega), Int.toNat_natCast]
theorem sc_encs (ms : List (List UInt8)) (hm : ∀ m ∈ ms, m.length ≤ 1048576) (K : Nat) (hK : K ≤ (encs ms).length) : ∀ k, k ≤ ms.length → (encs (ms.take k)).length ≤ K → Sc ((encs ms).take K) k (ms.take k) (encs (ms.take k)).length := by
  intro k
  induction k with
  | zero => intro _ _; exact sc_zero _
  | succ k ih =>
    intro hk hle
    have hk' : k < ms.length := hk
    have h1 := encs_mono ms k (k + 1) (by omega)
    have hs := ih (by omega) (by omega)
    have hlen : (encs (ms.take (k + 1))).length = (encs (ms.take k)).length + (8 + ms[k].length) := by rw [encs_succ ms k hk', List.length_append, enc_len]
    have hLK : ((encs ms).take K).length = K := by rw [List.length_take]; omega
    have hnx : nextF ((encs ms).take K) ((encs (ms.take k)).length : Int) = (0, ms[k], (encs (ms.take k)).length + 8 + ms[k].length) := by
      rw [nextF_at _ _ (by omega), List.drop_take, encs_split ms k hk', List.drop_left]
      have : (enc ms[k] ++ encs (ms.drop (k + 1))).take (K - (encs (ms.take k)).length) = enc ms[k] ++ (encs (ms.drop (k + 1))).take (K - (encs (ms.take k)).length - (enc ms[k]).length) := by
        rw [List.take_append, List.take_of_length_le (by rw [enc_len]; omega)]
      rw [this]
      exact nextL_enc _ _ _ (hm _ (List.getElem_mem hk'))
    have h2 := sc_succ hs (by rw [hnx])
    rw [hnx] at h2
    rw [List.take_succ_eq_append_getElem hk', ← List.take_succ_eq_append_getElem hk', hlen]
    rw [List.take_succ_eq_append_getElem hk', show (encs (ms.take k)).length + (8 + ms[k].length) = (encs (ms.take k)).length + 8 + ms[k].length by omega]
    exact h2
theorem scan_cut (ms : List (List UInt8)) (hm : ∀ m ∈ ms, m.length ≤ 1048576) (K c : Nat) (hK : K ≤ (encs ms).length) (hc : c ≤ ms.length) (hle : (encs (ms.take c)).length ≤ K) (hend : c = ms.length ∨ K < (encs (ms.take (c + 1))).length) :
    scanF ((encs ms).take K) = (ms.take c, (encs (ms.take c)).length) := by
  have hs := sc_encs ms hm K hK c hc hle
  refine sc_end hs ?_
  have hLK : ((encs ms).take K).length = K := by rw [List.length_take]; omega
  rw [nextF_at _ _ (by omega), List.drop_take]
  by_cases h : c = ms.length
  · subst h
    rw [List.take_of_length_le (Nat.le_refl _), List.drop_of_length_le (Nat.le_refl _), List.take_nil, nextL_short _ _ (by simp)]
    decide
  · have hc' : c < ms.length := by omega
    rw [encs_split ms c hc', List.drop_left]
    have hlen : (encs (ms.take (c + 1))).length = (encs (ms.take c)).length + (8 + ms[c].length) := by rw [encs_succ ms c hc', List.length_append, enc_len]
    exact nextL_torn _ _ _ _ (hm _ (List.getElem_mem hc')) (by rcases hend with h2 | h2 <;> omega)
theorem scan_all (ms : List (List UInt8)) (hm : ∀ m ∈ ms, m.length ≤ 1048576) : scanF (encs ms) = (ms, (encs ms).length) := by
  have h := scan_cut ms hm (encs ms).length ms.length (Nat.le_refl _) (Nat.le_refl _) (by rw [List.take_of_length_le (Nat.le_refl _)]; exact Nat.le_refl _) (.inl rfl)
  rw [List.take_of_length_le (Nat.le_refl _), List.take_of_length_le (Nat.le_refl _)] at h
  exact h
end Go.Proofs.YtkhdfjneibnlmaaDoor
