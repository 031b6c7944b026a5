import Derived.Test.YtclpemmpckjemaaDoorCoV
import Derived.Deep.RegionHeld3
import Derived.WalkKit
import Derived.WalkSpells
import Derived.WalkLawsBesides
import Derived.Deep.QuietTactic
import Derived.BigQuiet
import Derived.Handy
import Derived.Lib.Hide
import Derived.Test.YtclpemmpckjemaaDoorCoVd
import Derived.Test.YtclpemmpckjemaaDoorCoY
/-
  Rows: PutRow of the program and of the reference at valid values; the reference's ValidRow, the statements' valid: what each answers. Conditions: lengths.
-/
namespace Go.Proofs.YtclpemmpckjemaaDoor
open Go.RowKit

theorem RdV.below {w w' : World} {L B : Nat} {v : Value} {ps : List Vl} (h : RdV w L B v ps) (hb : Below B w w') : RdV w' L B v ps := by
  obtain ⟨A, c, hv, hl, hc⟩ := h
  refine ⟨A, c, hv, hl, fun k p hk => ?_⟩
  obtain ⟨ad, h1, h0, h2, c0, c1, c2⟩ := hc k p hk
  exact ⟨ad, h1, h0, h2, (hb.cell (p := ad.add (k * 3)) (by rw [add_block]; exact h2)).trans c0, (hb.cell (p := ⟨(ad.add (k * 3)).block, (ad.add (k * 3)).off + 1, none⟩) (by show (ad.add (k * 3)).block < _; rw [add_block]; exact h2)).trans c1, (hb.cell (p := ⟨(ad.add (k * 3)).block, (ad.add (k * 3)).off + 2, none⟩) (by show (ad.add (k * 3)).block < _; rw [add_block]; exact h2)).trans c2⟩
theorem RdV.more {w : World} {L L' B B' : Nat} {v : Value} {ps : List Vl} (h : RdV w L B v ps) (hB : B ≤ B') (hL : L' ≤ L) : RdV w L' B' v ps := by
  obtain ⟨A, c, hv, hl, hc⟩ := h
  refine ⟨A, c, hv, hl, fun k p hk => ?_⟩
  obtain ⟨ad, h1, h0, h2, hx⟩ := hc k p hk
  exact ⟨ad, h1, by omega, by omega, hx⟩
theorem RdV.step {w w' : World} {L B : Nat} {v : Value} {ps : List Vl} (h : RdV w L B v ps) (hb : Below w.heap.size w w') (hB : B ≤ w.heap.size) : RdV w' L w'.heap.size v ps :=
  (h.below (hb.mono hB)).more (Nat.le_trans hB hb.size) (Nat.le_refl _)
def okL (ps : List Vl) : Bool := ps.all okP
theorem okL_at {ps : List Vl} (h : okL ps = true) {k : Nat} {p : Vl} (hk : ps[k]? = some p) : okP p = true := List.all_eq_true.1 h p (List.mem_of_getElem? hk)
/-- The bytes of some values, one behind the other. -/
def encs (ps : List Vl) : List UInt8 := (ps.map encV).flatten
def encR (ps : List Vl) : List UInt8 := vint (zig ps.length) ++ encs ps
def szL (ps : List Vl) : Nat := (ps.map fun p => 11 + p.2.2.size).sum
theorem encs_succ (ps : List Vl) (k : Nat) (p : Vl) (h : ps[k]? = some p) : encs (ps.take (k + 1)) = encs (ps.take k) ++ encV p := by
  obtain ⟨h1, rfl⟩ := List.getElem?_eq_some_iff.1 h
  unfold encs
  rw [List.take_succ_eq_append_getElem h1, List.map_append, List.flatten_append]
  simp
theorem encV_len (p : Vl) (h : okP p = true) : (encV p).length ≤ 11 + p.2.2.size := by
  rcases okP_cases h with rfl | ⟨n, rfl, h1, h2⟩ | ⟨s, rfl, h1, h2⟩ | rfl | rfl
  · decide
  · have := vint_len10 (zig_lt (show I64 n from ⟨by omega, by omega⟩))
    show ([1] ++ vint (zig n)).length ≤ 11 + _
    rw [List.length_append]
    simp; omega
  · have := vint_len10 (zig_lt (show I64 (s.size : Int) from ⟨by omega, by omega⟩))
    show ([2] ++ textB s).length ≤ 11 + s.size
    unfold textB
    simp only [List.length_append, size_list]
    simp; omega
  · decide
  · decide
theorem szL_take (ps : List Vl) (k : Nat) (p : Vl) (h : ps[k]? = some p) : szL (ps.take k) + 11 + p.2.2.size ≤ szL ps := by
  obtain ⟨h1, rfl⟩ := List.getElem?_eq_some_iff.1 h
  have h2 : ps = ps.take (k + 1) ++ ps.drop (k + 1) := (List.take_append_drop _ _).symm
  have h3 : szL ps = szL (ps.take (k + 1)) + szL (ps.drop (k + 1)) := by
    unfold szL
    rw [← List.sum_append_nat, ← List.map_append, ← h2]
  have h4 : szL (ps.take (k + 1)) = szL (ps.take k) + (11 + (ps[k]'h1).2.2.size) := by
    unfold szL
    rw [List.take_succ_eq_append_getElem h1, List.map_append, List.sum_append_nat]
    simp
  omega
theorem encs_len : ∀ (ps : List Vl), okL ps = true → (encs ps).length ≤ szL ps := by
  intro ps
  induction ps with
  | nil => intro _; simp [encs, szL]
  | cons p ps ih =>
    intro h
    unfold okL at h ih
    simp only [List.all_cons, Bool.and_eq_true] at h
    have h1 := encV_len p h.1
    have h2 := ih h.2
    unfold encs szL at h2 ⊢
    simp only [List.map_cons, List.flatten_cons, List.length_append, List.sum_cons]
    omega
theorem okL_take {ps : List Vl} (h : okL ps = true) (k : Nat) : okL (ps.take k) = true := by
  unfold okL at h ⊢
  rw [List.all_eq_true] at h ⊢
  exact fun p hp => h p (List.mem_of_mem_take hp)
set_option maxRecDepth 100000 in
set_option maxHeartbeats 3200000 in
theorem pPutRow_any (v u : Value) (l : List UInt8) (ps : List Vl) (hok : okL ps = true) (w : World) (L L2 : Nat) (hv : RdB w L w.heap.size v l) (hu : RdV w L2 w.heap.size u ps) (hl : l.length + szL ps ≤ 140737488355100) (hpl : ps.length ≤ 140737488355100) :
    Calls Tryd.prog 9 #[v, u] w (RetB w.heap.size w (l ++ encR ps)) := by
  have hn : I64 (ps.length : Int) := ⟨by omega, by omega⟩
  obtain ⟨A, c, rfl, hl63, hlc, hx⟩ := hv
  have hlm := limited_any A l.length c w hl63 hlc
  have hap := appendInt_any (.slice A l.length l.length) l (ps.length : Int) hn w w.heap.size (.inr ⟨A, rfl, RdB.more (show RdB w L w.heap.size _ l from ⟨A, l.length, rfl, hl63, Nat.le_refl _, hx⟩) (Nat.le_refl _) (Nat.zero_le _)⟩) (Nat.le_refl _) (by omega)
  have hv10 := vint_len10 (zig_lt hn)
  have HLN := Lib.hid hl
  unfold encR
  generalize vint (zig ps.length) = vz at *
  have HV10 := Lib.hid hv10
  have HOK := Lib.hid hok
  obtain ⟨A2, c2, rfl, hl2, hc⟩ := hu
  have HC := Lib.hid hc
  have HLM := Lib.hid hlm
  have HAP := Lib.hid hap
  clear hlm hap hx
  clear hc hl hv10 hok hn
  go_enter Tryd.func9, Tryd.ntmps9
  go_wp2_with (first | (go_at_call 22; refine HLM.out.mono ?_; rintro e w1 ⟨rfl, hw⟩; subst w1) | (go_at_call 21; refine HAP.out.mono ?_; rintro e w1 ⟨v1, rfl, ho1, hb1⟩; have HO1 := Lib.hid ho1; have HB1 := Lib.hid hb1; clear ho1 hb1))
  go_loopw [0, 14] (fun b i wr => ∃ k : Nat, k ≤ ps.length ∧ i = .int .i64 k ∧ Hid (wr.ownsRow w.heap.size 5 1 b (l ++ (vz ++ encs (ps.take k))).length (bytV (l ++ (vz ++ encs (ps.take k))))) ∧ Below w.heap.size w wr) (fun _ i _ => ps.length - (intOf i).toNat)
  case atStart => exact ⟨0, Nat.zero_le _, rfl, Lib.hid (by rw [List.take_zero, show encs [] = [] from rfl, List.append_nil]; exact HO1.out), HB1.out⟩
  case round =>
    obtain ⟨k, hk, rfl, HO, hbr⟩ := hrel
    have hbz := hbr.size
    by_cases hlt : k < ps.length
    · have hki : (k : Int) < ps.length := by omega
      have hkx := List.getElem?_eq_getElem hlt
      obtain ⟨ad, rfl, _, hab, c0, c1, c2⟩ := HC.out k _ hkx
      have d0 := (hbr.cell (p := ad.add (k * 3)) (by rw [add_block]; exact hab)).trans c0
      have d1 := (hbr.cell (p := ⟨(ad.add (k * 3)).block, (ad.add (k * 3)).off + 1, none⟩) (by show (ad.add (k * 3)).block < _; rw [add_block]; exact hab)).trans c1
      have d2 := (hbr.cell (p := ⟨(ad.add (k * 3)).block, (ad.add (k * 3)).off + 2, none⟩) (by show (ad.add (k * 3)).block < _; rw [add_block]; exact hab)).trans c2
      have hop := okL_at HOK.out hkx
      have hsz := szL_take ps k _ hkx
      have hes := encs_succ ps k _ hkx
      have hel := encs_len _ (okL_take HOK.out k)
      generalize ps[k] = p at *
      have hbd : (l ++ (vz ++ encs (ps.take k))).length + p.2.2.size ≤ 140737488355200 := by
        have h1 := HLN.out
        have h2 := HV10.out
        simp only [List.length_append]
        omega
      have hap2 : (l ++ (vz ++ encs (ps.take k))) ++ encV p = l ++ (vz ++ (encs (ps.take k) ++ encV p)) := by simp only [List.append_assoc]
      have HES := Lib.hid hes
      have hkk := fun o => appendValue_any _ (l ++ (vz ++ encs (ps.take k))) p hop (wr.alloc o) w.heap.size (.inl (own_below HO.out (bel_mark wr o))) (Nat.le_trans hbz (bel_mark wr o).size) hbd
      unfold valV at hkk
      obtain ⟨kd, n, s⟩ := p
      dsimp only at d0 d1 d2 hkk
      have HKK := Lib.hid hkk
      clear c0 c1 c2 hkk hkx hes hop hsz hel hbd
      go_wp2_with fail
      with_reducible refine (HKK.out _).mono ?_
      clear HKK
      rintro e w2 ⟨v2, rfl, ho2, hb2⟩
      rw [hap2] at ho2
      go_wp2_with fail
      go_round
      case rel => exact ⟨k + 1, by omega, by go_num, Lib.hid (by rw [HES.out]; exact ho2), (hbr.trans ((bel_mark wr _).mono hbz)).trans hb2⟩
      case measure => simp [intOf]; omega
    · have hki : ¬ (k : Int) < ps.length := by omega
      rw [List.take_of_length_le (by omega)] at HO
      go_wp2
      go_ret
      exact ⟨_, rfl, HO.out, hbr⟩
end Go.Proofs.YtclpemmpckjemaaDoor
