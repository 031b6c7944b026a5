/-
  A frame behind nothing is read back; rows of at most 12 values are short. Conditions: lengths.
-/
import Derived.Test.YtclpemmpckjemaaDoorTopFrI
import Derived.Test.YtclpemmpckjemaaDoorTopFrG
import Derived.Test.YtclpemmpckjemaaDoorCoN
import Derived.Test.YtclpemmpckjemaaDoorCoRl
import Derived.Test.YtclpemmpckjemaaDoorCoKp
import Derived.Test.YtclpemmpckjemaaDoorToC
import Derived.Test.YtclpemmpckjemaaDoorToS
import Derived.WalkKit
import Derived.WalkSpells
import Derived.WalkLawsBesides
import Derived.Deep.QuietTactic
import Derived.BigQuiet
import Derived.Handy
import Derived.Lib.Hide
namespace Go.Proofs.YtclpemmpckjemaaDoor.Fr
open Go.RowKit

theorem num4_be4 (n : Nat) (h : n < 4294967296) : num4 (UInt8.ofNat (n / 16777216)) (UInt8.ofNat (n / 65536)) (UInt8.ofNat (n / 256)) (UInt8.ofNat n) = n := be4_sum n h
theorem num4_inj {a b c d a' b' c' d' : UInt8} (h : num4 a b c d = num4 a' b' c' d') : a = a' ∧ b = b' ∧ c = c' ∧ d = d' := by
  have h1 := a.toNat_lt; have h2 := b.toNat_lt; have h3 := c.toNat_lt; have h4 := d.toNat_lt
  have h5 := a'.toNat_lt; have h6 := b'.toNat_lt; have h7 := c'.toNat_lt; have h8 := d'.toNat_lt
  unfold num4 at h
  refine ⟨UInt8.toNat_inj.1 (by omega), UInt8.toNat_inj.1 (by omega), UInt8.toNat_inj.1 (by omega), UInt8.toNat_inj.1 (by omega)⟩
/-- A frame. -/
def enc (m : List UInt8) : List UInt8 := be4 m.length ++ (be4 (crc (be4 m.length ++ m)) ++ m)
theorem enc_len (m : List UInt8) : (enc m).length = 8 + m.length := by unfold enc; simp [be4]; omega
theorem frmL_enc (l m : List UInt8) : frmL l m = l ++ enc m := by unfold frmL enc; rw [List.append_assoc, List.append_assoc]
theorem nextL_enc (m rest : List UInt8) (P : Nat) (hm : m.length ≤ 1048576) : nextL (enc m ++ rest) P = (0, m, P + 8 + m.length) := by
  have hC := crc_lt (be4 m.length ++ m)
  have hn := num4_be4 m.length (by omega)
  unfold enc
  generalize hK : crc (be4 m.length ++ m) = C at *
  have hc := num4_be4 C hC
  have e : (be4 m.length ++ (be4 C ++ m)) ++ rest = UInt8.ofNat (m.length / 16777216) :: UInt8.ofNat (m.length / 65536) :: UInt8.ofNat (m.length / 256) :: UInt8.ofNat m.length :: UInt8.ofNat (C / 16777216) :: UInt8.ofNat (C / 65536) :: UInt8.ofNat (C / 256) :: UInt8.ofNat C :: (m ++ rest) := by
    unfold be4; rfl
  rw [e]
  have h0 : nxE (UInt8.ofNat (m.length / 16777216)) (UInt8.ofNat (m.length / 65536)) (UInt8.ofNat (m.length / 256)) (UInt8.ofNat m.length) (UInt8.ofNat (C / 16777216)) (UInt8.ofNat (C / 65536)) (UInt8.ofNat (C / 256)) (UInt8.ofNat C) (m ++ rest) = 0 := by
    unfold nxE
    rw [hn, hc, if_neg (by omega), if_neg (by rw [List.length_append]; omega), List.take_left]
    exact if_pos hK
  show (if nxE (UInt8.ofNat (m.length / 16777216)) (UInt8.ofNat (m.length / 65536)) (UInt8.ofNat (m.length / 256)) (UInt8.ofNat m.length) (UInt8.ofNat (C / 16777216)) (UInt8.ofNat (C / 65536)) (UInt8.ofNat (C / 256)) (UInt8.ofNat C) (m ++ rest) = 0 then (0, (m ++ rest).take (num4 (UInt8.ofNat (m.length / 16777216)) (UInt8.ofNat (m.length / 65536)) (UInt8.ofNat (m.length / 256)) (UInt8.ofNat m.length)), P + 8 + num4 (UInt8.ofNat (m.length / 16777216)) (UInt8.ofNat (m.length / 65536)) (UInt8.ofNat (m.length / 256)) (UInt8.ofNat m.length)) else _) = _
  rw [if_pos h0, hn, List.take_left]
theorem nextF_frm (m : List UInt8) (hm : m.length ≤ 1048576) : nextF (frmL [] m) 0 = (0, m, (frmL [] m).length) := by
  rw [frmL_enc, List.nil_append]
  unfold nextF
  rw [if_neg (by omega)]
  have h := nextL_enc m [] 0 hm
  rw [List.append_nil] at h
  show nextL (enc m) 0 = _
  rw [h, enc_len, Nat.zero_add]
end Go.Proofs.YtclpemmpckjemaaDoor.Fr
namespace Go.Proofs.YtclpemmpckjemaaDoor
open Go.RowKit
theorem okP_size {p : Vl} (h : okP p = true) : p.2.2.size ≤ 200 := by
  rcases okP_cases h with rfl | ⟨n, rfl, _⟩ | ⟨s, rfl, hs, _⟩ | rfl | rfl
  · show (0 : Nat) ≤ 200; omega
  · show (0 : Nat) ≤ 200; omega
  · exact hs
  · show (0 : Nat) ≤ 200; omega
  · show (0 : Nat) ≤ 200; omega
theorem szL_short : ∀ ps : List Vl, okL ps = true → szL ps ≤ 211 * ps.length
  | [], _ => by simp [szL]
  | p :: t, h => by
    unfold okL at h
    simp only [List.all_cons, Bool.and_eq_true] at h
    have h1 := okP_size h.1
    have h2 := szL_short t h.2
    unfold szL at h2 ⊢
    simp only [List.map_cons, List.sum_cons, List.length_cons]
    omega
theorem cmpR_self : ∀ ps : List Vl, cmpR ps ps = 0
  | [] => rfl
  | p :: t => by
    show (if lessP p p = true then -1 else if p = p then cmpR t t else 1) = 0
    rw [lessP_irr, if_neg (by decide), if_pos rfl]; exact cmpR_self t
/-- The row of the example. -/
def oneL : List Vl := [(1, 1, ⟨#[]⟩)]
theorem oneL_ok : okL oneL = true := by decide +kernel
theorem oneL_cmp : cmpR [] oneL = -1 := rfl
theorem oneL_len : (keyL oneL).length = 9 := by decide +kernel
theorem oneL_sz : szL oneL = 11 := by decide +kernel
end Go.Proofs.YtclpemmpckjemaaDoor
