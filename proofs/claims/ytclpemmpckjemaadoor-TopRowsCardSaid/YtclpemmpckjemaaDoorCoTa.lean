/-
  Text of the program and of the reference: what is read from any bytes at any offset with any limit. Conditions: lengths.
-/
import Derived.Test.YtclpemmpckjemaaDoorCo5
import Derived.Test.YtclpemmpckjemaaDoorCo6
import Derived.Outline
import Derived.WalkKit
import Derived.WalkSpells
import Derived.WalkLawsBesides
import Derived.Deep.QuietTactic
import Derived.BigQuiet
import Derived.Handy
import Derived.Lib.Hide
namespace Go.Proofs.YtclpemmpckjemaaDoor
open Go.RowKit

theorem decI_len : ∀ (l : List UInt8) (i z : Nat), (decI i z l).1 = 0 → i + 1 ≤ (decI i z l).2.2 ∧ (decI i z l).2.2 ≤ i + l.length := by
  intro l
  induction l with
  | nil => intro i z h; simp [decI] at h
  | cons c t ih =>
    intro i z h
    unfold decI at h ⊢
    split at h
    · simp at h
    · split at h
      · rename_i h1 h2
        rw [if_neg h1, if_pos h2]
        simp only [List.length_cons]
        omega
      · rename_i h1 h2
        rw [if_neg h1, if_neg h2]
        have := ih _ _ h
        simp only [List.length_cons]
        omega
/-- Where the number ends lies within the bytes. -/
theorem intF_end {l : List UInt8} {i : Int} (h : (intF l i).1 = 0) : (intF l i).2.2 ≤ l.length := by
  unfold intF at h ⊢
  split at h
  · simp at h
  · rename_i h1
    rw [if_neg h1]
    split at h
    · rename_i h2
      rw [if_pos h2]
      have h3 := (decI_len _ _ _ h2).2
      rw [List.length_drop] at h3
      dsimp only
      omega
    · exact absurd h (by assumption)
theorem decI_num : ∀ (l : List UInt8) (i z : Nat), i ≤ 9 → z < 128 ^ i → (decI i z l).2.1 < 18446744073709551616 := by
  intro l
  induction l with
  | nil => intro i z _ _; simp [decI]
  | cons c t ih =>
    intro i z hi hz
    unfold decI
    split
    · simp
    · rename_i h1
      split
      · dsimp only
        exact (or_shift z c.toNat i hz hi (by omega)).2
      · have hi9 : i ≠ 9 := fun e => h1 (.inl ⟨e, by omega⟩)
        refine ih _ _ (by omega) ?_
        have h2 : c.toNat % 128 * 128 ^ i ≤ 127 * 128 ^ i := Nat.mul_le_mul_right _ (by omega)
        rw [Nat.pow_succ]
        omega
theorem intF_num (l : List UInt8) (i : Int) : I64 (intF l i).2.1 := by
  unfold intF
  split
  · exact ⟨show (-9223372036854775808 : Int) ≤ 0 by decide, show (0 : Int) ≤ 9223372036854775807 by decide⟩
  · split
    · exact unzig_i64 (decI_num _ _ _ (by omega) (by simp))
    · exact ⟨show (-9223372036854775808 : Int) ≤ 0 by decide, show (0 : Int) ≤ 9223372036854775807 by decide⟩
theorem run_ft (W : World) (A : Option Addr) (N c i j : Nat) (lo hi : Int) (hlo : lo = (i : Nat)) (hhi : hi = (i + j : Nat)) (hij : i + j ≤ N) (hc : N ≤ c) :
    (Instr.slice 26 (.slice A N c) (some (.int .i64 lo)) (some (.int .i64 hi)) none).run Tryd.prog W = .ok (.slice (if c = i then A else A.map (·.add i)) j (c - i)) W := by
  subst hlo hhi
  have hs := run_slice_lh (P := Tryd.prog) (w := W) 26 A N c Tryd.underlying26 .i64 .i64 (i : Nat) (i + j : Nat) (by omega) (by omega) (by omega)
  rw [hs, show Tryd.prog.elem 26 = 5 by kernel_rfl, Tryd.sizeOf5]
  simp only [sliced, Result.andThen]
  rw [show (i : Int).toNat = i by omega, Nat.mul_one, show ((i + j : Nat) : Int).toNat - i = j by omega]
theorem rdB_ft {w : World} {L B : Nat} {A : Option Addr} {N c : Nat} {l : List UInt8} (h : RdB w L B (.slice A N c) l) (i j : Nat) (hij : i + j ≤ l.length) : RdB w L B (.slice (if c = i then A else A.map (·.add i)) j (c - i)) ((l.drop i).take j) := by
  have h0 := h
  obtain ⟨A', c', e, h63, hc, hx⟩ := h
  injection e with e1 e2 e3
  have h1 := rdB_from h0 i (by omega)
  exact rdB_take h1 j (c - i) (by rw [List.length_drop]; omega) (by omega)
/-- What Text answers. -/
def txtF (l : List UInt8) (i most : Int) : Nat × ByteArray × Nat :=
  if (intF l i).1 = 0 then if (intF l i).2.1 < 0 then (1, ⟨#[]⟩, 0) else if (intF l i).2.1 > max most 0 then (5, ⟨#[]⟩, 0) else if (intF l i).2.1 > (l.length : Int) - (intF l i).2.2 then (2, ⟨#[]⟩, 0)
    else (0, ByteArray.mk ((l.drop (intF l i).2.2).take (intF l i).2.1.toNat).toArray, (intF l i).2.2 + (intF l i).2.1.toNat) else ((intF l i).1, ⟨#[]⟩, 0)
def txtR (x : Nat × ByteArray × Nat) : Value := .tuple #[.string x.2.1, .int .i64 (x.2.2 : Nat), .int .i64 (x.1 : Nat)]
set_option maxRecDepth 100000 in
set_option maxHeartbeats 3200000 in
theorem pText_any (v : Value) (l : List UInt8) (i most : Int) (w : World) (L : Nat) (hv : RdB w L w.heap.size v l) :
    Calls Tryd.prog 40 #[v, .int .i64 i, .int .i64 most] w fun e w' => e = .returned (txtR (txtF l i most)) ∧ Below w.heap.size w w' := by
  have h1 := pInt_any v l i w L hv
  have hend := intF_end (l := l) (i := i)
  have HN := Lib.hid (intF_num l i)
  have HV := Lib.hid hv
  obtain ⟨A, c, rfl, hl63, hlc, _⟩ := hv
  rcases hX : intF l i with ⟨e1, n1, k1⟩
  rw [hX] at h1 hend HN
  dsimp only at h1 hend HN
  by_cases he1 : e1 = 0
  · subst he1
    have hk := hend rfl
    by_cases c1 : n1 < 0
    · have HF := Lib.hid (show txtF l i most = (1, ⟨#[]⟩, 0) by unfold txtF; rw [hX]; dsimp only; rw [if_pos rfl, if_pos c1])
      clear hX
      go_enter Tryd.func40, Tryd.ntmps40
      go_wp2_with fail
      with_reducible refine h1.mono ?_
      rintro e w1 ⟨rfl, hb1⟩
      go_wp2_with fail
      go_ret3
      exact ⟨by rw [HF.out]; rfl, hb1⟩
    · by_cases c2 : n1 > max most 0
      · have HF := Lib.hid (show txtF l i most = (5, ⟨#[]⟩, 0) by unfold txtF; rw [hX]; dsimp only; rw [if_pos rfl, if_neg c1, if_pos c2])
        clear hX
        go_enter Tryd.func40, Tryd.ntmps40
        go_wp2_with fail
        with_reducible refine h1.mono ?_
        rintro e w1 ⟨rfl, hb1⟩
        go_wp2_with fail
        go_ret3
        exact ⟨by rw [HF.out]; rfl, hb1⟩
      · by_cases c3 : n1 > (l.length : Int) - k1
        · have HF := Lib.hid (show txtF l i most = (2, ⟨#[]⟩, 0) by unfold txtF; rw [hX]; dsimp only; rw [if_pos rfl, if_neg c1, if_neg c2, if_pos c3])
          clear hX
          go_enter Tryd.func40, Tryd.ntmps40
          go_wp2_with fail
          with_reducible refine h1.mono ?_
          rintro e w1 ⟨rfl, hb1⟩
          go_wp2_with fail
          go_ret3
          exact ⟨by rw [HF.out]; rfl, hb1⟩
        · have HF := Lib.hid (show txtF l i most = (0, ByteArray.mk ((l.drop k1).take n1.toNat).toArray, k1 + n1.toNat) by unfold txtF; rw [hX]; dsimp only; rw [if_pos rfl, if_neg c1, if_neg c2, if_neg c3])
          obtain ⟨m, rfl⟩ := Int.eq_ofNat_of_zero_le (show 0 ≤ n1 by omega)
          have hle : k1 + m ≤ l.length := by omega
          have hpb : (k1 : Int) + m ≤ (l.length : Int) := by omega
          have HF2 := Lib.hid (show txtF l i most = (0, ByteArray.mk ((l.drop k1).take m).toArray, k1 + m) by rw [HF.out]; rfl)
          have hsl := fun W => run_ft W A l.length c k1 m (k1 : Nat) ((k1 : Int) + m) rfl (by omega) hle hlc
          have HCV := Lib.hid (fun W (h : Below w.heap.size w W) => conv_rdB (rdB_ft (HV.out.step h (Nat.le_refl _)) k1 m hle))
          generalize ByteArray.mk ((l.drop k1).take m).toArray = S at *
          generalize (if c = k1 then A else A.map (·.add k1)) = A2 at *
          have HKM := Lib.hid (show (k1 : Int) + m = ((k1 + m : Nat) : Int) by omega)
          clear hX hend hle HF HV HN
          go_enter Tryd.func40, Tryd.ntmps40
          go_wp2_with fail
          with_reducible refine h1.mono ?_
          rintro e w1 ⟨rfl, hb1⟩
          have hcv := HCV.out w1 hb1
          go_wp2_with fail
          go_ret3
          exact ⟨by rw [HF2.out]; unfold txtR; dsimp only; rw [← HKM.out]; rfl, hb1⟩
  · have HF := Lib.hid (show txtF l i most = (e1, ⟨#[]⟩, 0) by unfold txtF; rw [hX]; dsimp only; rw [if_neg he1])
    have he1i : ¬ (e1 : Int) = 0 := by omega
    clear hend HN HV
    clear hX
    go_enter Tryd.func40, Tryd.ntmps40
    go_wp2_with fail
    with_reducible refine h1.mono ?_
    rintro e w1 ⟨rfl, hb1⟩
    go_wp2_with fail
    go_ret3
    exact ⟨by rw [HF.out]; rfl, hb1⟩
end Go.Proofs.YtclpemmpckjemaaDoor
