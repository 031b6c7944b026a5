/-
  The program's Next: what it answers, at any bytes and any offset. Conditions: lengths; the table lies as the rows say.
-/
import Derived.Test.YtclpemmpckjemaaDoorTopFrF
import Derived.Deep.RegionWith
import Derived.Laws.CopyRow
import Derived.Deep.WholeRow
import Derived.OwnWalk
import Derived.WalkKit
import Derived.WalkSpells
import Derived.WalkLawsBesides
import Derived.Deep.QuietTactic
import Derived.BigQuiet
import Derived.Handy
import Derived.Lib.Hide
namespace Go.Proofs.YtclpemmpckjemaaDoor.Fr
open Go.RowKit

theorem ownsRow_of_own {w : World} {g base : Nat} {l : List UInt8} (h : Own w g 5 (bytV l).toArray) (hb : base ≤ g) (hl : l.length ≤ maxLen) : w.ownsRow base 5 1 (.slice (some ⟨g, 0, none⟩) l.length l.length) l.length (bytV l) :=
  ⟨by rw [bytV_len]; omega, .inr ⟨g, l.length, _, rfl, hb, h, Nat.le_refl _, hl, by rw [List.size_toArray, bytV_len]; omega, by rw [List.take_of_length_le (by rw [bytV_len]; omega)]⟩⟩
def num4 (a b c d : UInt8) : Nat := a.toNat * 16777216 + b.toNat * 65536 + c.toNat * 256 + d.toNat
theorem num4_lt (a b c d : UInt8) : num4 a b c d < 4294967296 := by
  have := a.toNat_lt; have := b.toNat_lt; have := c.toNat_lt; have := d.toNat_lt
  unfold num4; omega
theorem be4_sum (n : Nat) (h : n < 4294967296) : (UInt8.ofNat (n / 16777216)).toNat * 16777216 + (UInt8.ofNat (n / 65536)).toNat * 65536 + (UInt8.ofNat (n / 256)).toNat * 256 + (UInt8.ofNat n).toNat = n := by
  simp only [UInt8.toNat_ofNat']
  omega
/-- The error, the body and the offset behind the head h (four bytes, four bytes) and the rest r. -/
def nxE (b0 b1 b2 b3 c0 c1 c2 c3 : UInt8) (r : List UInt8) : Nat :=
  if num4 b0 b1 b2 b3 > 1048576 then 5 else if r.length < num4 b0 b1 b2 b3 then 2 else if crc ([b0, b1, b2, b3] ++ r.take (num4 b0 b1 b2 b3)) = num4 c0 c1 c2 c3 then 0 else 4
def nextL (l : List UInt8) (P : Nat) : Nat × List UInt8 × Nat :=
  match l with
  | b0 :: b1 :: b2 :: b3 :: c0 :: c1 :: c2 :: c3 :: r => if nxE b0 b1 b2 b3 c0 c1 c2 c3 r = 0 then (0, r.take (num4 b0 b1 b2 b3), P + 8 + num4 b0 b1 b2 b3) else (nxE b0 b1 b2 b3 c0 c1 c2 c3 r, [], 0)
  | _ => (2, [], 0)
/-- What Next answers. -/
def nextF (l : List UInt8) (at_ : Int) : Nat × List UInt8 × Nat :=
  if at_ < 0 ∨ at_ > l.length then (6, [], 0) else nextL (l.drop at_.toNat) at_.toNat
def RetX (w : World) (x : Nat × List UInt8 × Nat) (e : Ending) (w' : World) : Prop :=
  ∃ v', e = .returned (.tuple #[v', .int .i64 (x.2.2 : Nat), .int .i64 (x.1 : Nat)]) ∧ RdB w' w.heap.size w'.heap.size v' x.2.1 ∧ Below w.heap.size w w'
theorem rdB_nil (w : World) (L B : Nat) : RdB w L B (.slice none 0 0) [] := ⟨none, 0, rfl, by simp, by simp, fun k b h => by simp at h⟩
theorem rdB_none (w : World) (L B : Nat) (A : Option Addr) (c : Nat) : RdB w L B (.slice A 0 c) [] := ⟨A, c, rfl, by simp, by simp, fun k b h => by simp at h⟩
theorem retX_err {w w' : World} {l : Nat × List UInt8 × Nat} {k : Nat} (h : l = (k, [], 0)) (hb : Below w.heap.size w w') : RetX w l (.returned (.tuple #[.slice none 0 0, .int .i64 0, .int .i64 (k : Nat)])) w' := by
  subst h
  exact ⟨_, rfl, rdB_nil _ _ _, hb⟩
theorem add_pos' (ad : Addr) (i : Nat) : ad.add (i + 1) = ⟨ad.block, ad.off + (i + 1), none⟩ := by unfold Addr.add; simp
theorem word_4 (v : Value) (b0 b1 b2 b3 : UInt8) (w : World) (L : Nat) (hv : RdB w L w.heap.size v [b0, b1, b2, b3]) :
    Calls Tryd.prog 24 #[v] w fun e w' => e = .returned (.int .u32 (num4 b0 b1 b2 b3 : Nat)) ∧ Below w.heap.size w w' :=
  word_any v _ w L hv b0 b1 b2 b3 [] rfl
theorem rdB_take {w : World} {L B : Nat} {A : Option Addr} {n cap : Nat} {l : List UInt8} (h : RdB w L B (.slice A n cap) l) (j c : Nat) (hij : j ≤ l.length) (hc : j ≤ c) : RdB w L B (.slice A j c) (l.take j) := by
  have hl : (l.take j).length = j := by rw [List.length_take]; omega
  obtain ⟨A', c', hv, h63, hcc, hx⟩ := h
  injection hv with e1 e2 e3
  subst e1
  refine ⟨A, c, by rw [hl], by omega, by omega, fun k b hk => ?_⟩
  have hkj : k < j := by have := (List.getElem?_eq_some_iff.1 hk).1; omega
  rw [List.getElem?_take, if_pos hkj] at hk
  exact hx k b hk

set_option maxRecDepth 100000 in
set_option maxHeartbeats 12800000 in
theorem pNext_T (v : Value) (p r : List UInt8) (b0 b1 b2 b3 c0 c1 c2 c3 : UInt8) (w : World) (L : Nat) (henv : Env w) (hv : RdB w L w.heap.size v (p ++ ([b0, b1, b2, b3] ++ ([c0, c1, c2, c3] ++ r)))) (hpos : ∃ A n c, v = .slice A n c ∧ p.length + 8 < c) :
    Calls Tryd.prog 10 #[v, .int .i64 p.length] w (RetX w (nextL (b0 :: b1 :: b2 :: b3 :: c0 :: c1 :: c2 :: c3 :: r) p.length)) := by
  generalize hLL : p ++ ([b0, b1, b2, b3] ++ ([c0, c1, c2, c3] ++ r)) = l at *
  have hll : l.length = p.length + 8 + r.length := by rw [← hLL]; simp; omega
  have HL := Lib.hid hLL
  clear hLL
  have hv0 := hv
  obtain ⟨A, c, rfl, hl63, hlc, hcc⟩ := hv
  have s2b : p.length + 8 < c := by
    obtain ⟨A', n', c', e, h⟩ := hpos
    injection e with _ _ e3
    omega
  clear hpos
  obtain ⟨ad, rfl, hB1, hB2, h00⟩ := hv0.at (k := 0) (b := l[0]'(by omega)) (List.getElem?_eq_getElem (by omega))
  clear h00 hcc
  have hc8 : ¬ ((l.length : Int) - p.length < 8) := by omega
  have hat : ¬ ((p.length : Int) > l.length) := by omega
  have s1 : (p.length : Int) + 8 ≤ l.length := by omega
  have p1 : RdB w L w.heap.size (.slice (some (ad.add p.length)) 4 (c - p.length)) [b0, b1, b2, b3] := by
    have := rdB_sub hv0 p.length 4 (c - p.length) (by omega) (by omega)
    rw [← HL.out, List.drop_left] at this
    exact this
  have p2 : RdB w L w.heap.size (.slice (some ⟨ad.block, ad.off + (p.length + 3 + 1), none⟩) 4 (c - (p.length + 4))) [c0, c1, c2, c3] := by
    have := rdB_sub hv0 (p.length + 3 + 1) 4 (c - (p.length + 4)) (by omega) (by omega)
    rw [← HL.out, ← List.append_assoc p, List.drop_left' (by rw [List.length_append]; rfl), add_pos'] at this
    exact this
  have p3 : RdB w L w.heap.size (.slice (some ⟨ad.block, ad.off + (p.length + 7 + 1), none⟩) r.length (c - (p.length + 8))) r := by
    have := rdB_sub hv0 (p.length + 7 + 1) r.length (c - (p.length + 8)) (by omega) (by omega)
    rw [← HL.out, ← List.append_assoc p, ← List.append_assoc (p ++ _), List.drop_left' (by rw [List.length_append, List.length_append]; rfl), List.take_of_length_le (Nat.le_refl _), add_pos'] at this
    exact this
  have s3 : ((l.length - (p.length + 8) : Nat) : Int) = r.length := by omega
  have s4 : r.length ≤ c - (p.length + 8) := by omega
  have s5 : ¬ (p.length : Int) < 0 := by omega
  have hrl : r.length ≤ 9223372036854775807 := by omega
  generalize hN : l.length = N at *
  generalize hP : p.length = P at *
  have HV := Lib.hid hv0
  have HN := Lib.hid hN
  have HLL := Lib.hid hll
  have HP := Lib.hid hP
  have P1 := Lib.hid p1
  have P2 := Lib.hid p2
  have P3 := Lib.hid p3
  have S3 := Lib.hid s3
  have S4 := Lib.hid s4
  have HX := Lib.hid (show nextL (b0 :: b1 :: b2 :: b3 :: c0 :: c1 :: c2 :: c3 :: r) P = (if nxE b0 b1 b2 b3 c0 c1 c2 c3 r = 0 then (0, r.take (num4 b0 b1 b2 b3), P + 8 + num4 b0 b1 b2 b3) else (nxE b0 b1 b2 b3 c0 c1 c2 c3 r, [], 0)) from rfl)
  generalize nextL (b0 :: b1 :: b2 :: b3 :: c0 :: c1 :: c2 :: c3 :: r) P = X at *
  have HE0 := Lib.hid (show nxE b0 b1 b2 b3 c0 c1 c2 c3 r = (if num4 b0 b1 b2 b3 > 1048576 then 5 else if r.length < num4 b0 b1 b2 b3 then 2 else if crc ([b0, b1, b2, b3] ++ r.take (num4 b0 b1 b2 b3)) = num4 c0 c1 c2 c3 then 0 else 4) from rfl)
  clear hv0 hll hN hP p1 p2 p3 s3 s4
  have hm32 := num4_lt b0 b1 b2 b3
  generalize nxE b0 b1 b2 b3 c0 c1 c2 c3 r = E at *
  go_enter Tryd.func10, Tryd.ntmps10
  go_wp2_with fail
  (refine wp_region_after (by kernel_rfl) (by kernel_rfl) ?_; (repeat (go_big_quiet_step (fail))); refine wpQuiet_nil ?_; intro w1 hw0; obtain ⟨⟨wq0, hb1⟩, hw1⟩ := hw0; subst hw1; (try dsimp only))
  have B1 : Below w.heap.size w w1 := hb1
  have hx1 := word_4 _ b0 b1 b2 b3 w1 L (P1.out.step B1 (Nat.le_refl _))
  generalize hM : num4 b0 b1 b2 b3 = M at *
  go_wp2_with fail
  with_reducible refine hx1.mono ?_
  rintro e w2 ⟨rfl, hb2⟩
  have B2 := B1.trans (hb2.mono B1.size)
  clear hx1
  by_cases h5 : M > 1048576
  · have h5i : (M : Int) > 1048576 := by omega
    go_wp2_with fail
    go_ret3
    exact retX_err (k := 5) (by rw [HX.out, HE0.out, if_pos h5]; rfl) B2
  · have hx2 := word_4 _ b0 b1 b2 b3 w2 L (P1.out.step B2 (Nat.le_refl _))
    rw [hM] at hx2
    have s6 : ¬ (M : Int) > 1048576 := by omega
    go_wp2_with fail
    with_reducible refine hx2.mono ?_
    rintro e w3 ⟨rfl, hb3⟩
    have B3 := B2.trans (hb3.mono B2.size)
    clear hx2
    have S3i := S3.out
    have S4i := S4.out
    by_cases h2 : r.length < M
    · have h2i : (M : Int) > ((N - (P + 8) : Nat) : Int) := by omega
      go_wp2_with fail
      go_ret3
      exact retX_err (k := 2) (by rw [HX.out, HE0.out, if_neg h5, if_pos h2]; rfl) B3
    · have h2i : ¬ (M : Int) > ((N - (P + 8) : Nat) : Int) := by omega
      have h2j : M ≤ c - (P + 8) := by omega
      go_wp2_with fail
      have q1 := P1.out.step B3 (Nat.le_refl _)
      have q3 := rdB_take (P3.out.step B3 (Nat.le_refl _)) M (c - (P + 8)) (by omega) h2j
      have b4 := (Below.refl w3.heap.size w3).alloc (Nat.le_refl _) (.cells #[.slice (some (ad.add P)) 4 (c - P), .slice (some ⟨ad.block, ad.off + (P + 7 + 1), none⟩) M (c - (P + 8))] 26)
      have B4 := B3.trans (b4.mono B3.size)
      have hC := check_any _ [[b0, b1, b2, b3], r.take M] _ L w3.heap.size (henv.step B4) (parts_two w3 _ _ [b0, b1, b2, b3] (r.take M) L w3.heap.size 2 (Nat.le_refl _) q1 q3)
      rw [show ([[b0, b1, b2, b3], r.take M] : List (List UInt8)).flatten = [b0, b1, b2, b3] ++ r.take M by simp] at hC
      clear q1 q3
      generalize w3.alloc (.cells #[.slice (some (ad.add P)) 4 (c - P), .slice (some ⟨ad.block, ad.off + (P + 7 + 1), none⟩) M (c - (P + 8))] 26) = w4 at *
      with_reducible refine hC.mono ?_
      rintro e w5 ⟨rfl, rfl⟩
      clear hC
      have hx3 := word_4 _ c0 c1 c2 c3 w5 L (P2.out.step B4 (Nat.le_refl _))
      have hkl := crc_lt ([b0, b1, b2, b3] ++ r.take M)
      generalize hK : crc ([b0, b1, b2, b3] ++ r.take M) = K at *
      have hkl2 := num4_lt c0 c1 c2 c3
      generalize hK2 : num4 c0 c1 c2 c3 = K2 at *
      have HK := Lib.hid hK
      clear hK hK2
      go_wp2_with fail
      with_reducible refine hx3.mono ?_
      rintro e w6 ⟨rfl, hb6⟩
      have B6 := B4.trans (hb6.mono B4.size)
      clear hx3
      by_cases h4 : K = K2
      · subst h4
        have hE0 : E = 0 := by rw [HE0.out, if_neg h5, if_neg h2, if_pos rfl]
        have HX2 := Lib.hid (show X = (0, r.take M, P + 8 + M) by rw [HX.out, if_pos hE0])
        have hrt : (r.take M).length = M := by rw [List.length_take]; omega
        obtain ⟨i0, hi, hz0, hz1, hz2⟩ := info_partsB infoB
        have hmk := run_makeSlice (P := Tryd.prog) (w := w6) 26 5 i0 (.int .u8 0) Tryd.underlying26 hi hz0 .i64 .i64 (M : Int) (M : Int) (by omega) (Int.le_refl _) (by rw [hz1]; simp; omega) (by rw [hz2]; omega) (by omega)
        have hsz : (Tryd.prog.info? 5).map (·.size) = some 1 := by rw [hi]; simp [hz1]
        rw [hz1] at hmk
        simp only [Int.toNat_natCast, Nat.mul_one] at hmk
        have oM := Own.new w6 5 (madeCells #[Value.int .u8 0] M)
        have bM := (Below.refl w6.heap.size w6).alloc (Nat.le_refl _) (.cells (madeCells #[Value.int .u8 0] M) 5)
        have BM := B6.trans (bM.mono B6.size)
        have Q3 := Lib.hid (P3.out.step BM (Nat.le_refl _))
        have hmin : (bytV (r.take M)).length = Nat.min (N - (P + 8)) M := by rw [bytV_len, hrt]; exact (Nat.min_eq_right (by omega)).symm
        have hms : (madeCells #[Value.int .u8 0] M).size = M := by rw [size_madeCells]
        have HM := Lib.hid hmin
        have OM := Lib.hid oM
        have HSZ := Lib.hid hsz
        have HMS := Lib.hid hms
        have HRT := Lib.hid hrt
        have hPM : (P : Int) + (8 + M) = ((P + 8 + M : Nat) : Int) := by omega
        have HPM := Lib.hid hPM
        have hln := pLen_any (M : Int)
        rw [show lenF (M : Int) = 8 + (M : Int) by unfold lenF; rw [if_neg (by omega)]] at hln
        clear hmin oM hsz hi hz0 hz1 hz2 hms hrt hPM hE0 S3i S4i
        have hsrc : ∀ (j : Nat) (v : Value), (bytV (r.take M))[j]? = some v → (w6.alloc (.cells (madeCells #[Value.int .u8 0] M) 5)).cell? ((⟨ad.block, ad.off + (P + 7 + 1), none⟩ : Addr).add j) = some v := fun j v hj => by
          unfold bytV at hj
          rw [List.getElem?_map, Option.map_eq_some_iff] at hj
          obtain ⟨b, hb, rfl⟩ := hj
          rw [List.getElem?_take] at hb
          split at hb
          · obtain ⟨ad2, e1, _, _, h4⟩ := Q3.out.at hb
            injection e1 with e1; subst e1; exact h4
          · cases hb
        have hcp := run_copy_row (P := Tryd.prog) (w6.alloc (.cells (madeCells #[.int .u8 0] M) 5)) 26 26 3 5 w6.heap.size 0 M M ⟨ad.block, ad.off + (P + 7 + 1), none⟩ (N - (P + 8)) (c - (P + 8)) (madeCells #[.int .u8 0] M) 5 (bytV (r.take M)) Tryd.underlying26 HSZ.out OM.out HM.out hsrc (by rw [bytV_len, HRT.out, HMS.out]; omega) (by intro u hu; unfold bytV at hu; rw [List.mem_map] at hu; obtain ⟨b, _, rfl⟩ := hu; rfl)
        rw [bytV_len, HRT.out, World.setRow_alloc_new] at hcp
        have hOW : Own (w6.alloc (.cells (((madeCells #[.int .u8 0] M).toList.take 0 ++ bytV (r.take M) ++ (madeCells #[.int .u8 0] M).toList.drop (0 + M)).toArray) 5)) w6.heap.size 5 (bytV (r.take M)).toArray := by
          have := Own.new w6 5 (((madeCells #[.int .u8 0] M).toList.take 0 ++ bytV (r.take M) ++ (madeCells #[.int .u8 0] M).toList.drop (0 + M)).toArray)
          rw [List.take_zero, List.nil_append, List.drop_of_length_le (by rw [Array.length_toList, HMS.out]; omega), List.append_nil] at this
          rw [List.take_zero, List.nil_append, List.drop_of_length_le (by rw [Array.length_toList, HMS.out]; omega), List.append_nil]
          exact this
        have b7 := (Below.refl w6.heap.size w6).alloc (Nat.le_refl _) (.cells (((madeCells #[.int .u8 0] M).toList.take 0 ++ bytV (r.take M) ++ (madeCells #[.int .u8 0] M).toList.drop (0 + M)).toArray) 5)
        have B7 := B6.trans (b7.mono B6.size)
        generalize hw7 : w6.alloc (.cells (((madeCells #[.int .u8 0] M).toList.take 0 ++ bytV (r.take M) ++ (madeCells #[.int .u8 0] M).toList.drop (0 + M)).toArray) 5) = w7 at *
        have HOW := Lib.hid hOW
        clear hsrc hOW hw7 BM bM OM HM Q3 HSZ b7
        go_wp2_with (go_at_call 18; refine (hln _).mono ?_; rintro e w8 ⟨rfl, rfl⟩)
        go_ret3
        rw [HX2.out]
        refine ⟨_, by rw [← HPM.out]; rfl, ?_, B7⟩
        have hfin := RdB.of_own (ownsRow_of_own HOW.out B6.size (by rw [HRT.out]; unfold maxLen; omega)) (by rw [HRT.out]; omega)
        rw [HRT.out] at hfin
        exact hfin
      · have h4i : ¬ (K : Int) = (K2 : Int) := by omega
        have hE4 : E = 4 := by rw [HE0.out, if_neg h5, if_neg h2, if_neg h4]
        go_wp2_with fail
        go_ret3
        exact retX_err (k := 4) (by rw [HX.out, hE4]; rfl) B6

set_option maxRecDepth 100000 in
set_option maxHeartbeats 12800000 in
theorem pNext_E (v : Value) (p r : List UInt8) (b0 b1 b2 b3 c0 c1 c2 c3 : UInt8) (w : World) (L : Nat) (henv : Env w) (hv : RdB w L w.heap.size v (p ++ ([b0, b1, b2, b3] ++ ([c0, c1, c2, c3] ++ r)))) (hpos : ∃ A n c, v = .slice A n c ∧ p.length + 8 = c) :
    Calls Tryd.prog 10 #[v, .int .i64 p.length] w (RetX w (nextL (b0 :: b1 :: b2 :: b3 :: c0 :: c1 :: c2 :: c3 :: r) p.length)) := by
  generalize hLL : p ++ ([b0, b1, b2, b3] ++ ([c0, c1, c2, c3] ++ r)) = l at *
  have hll : l.length = p.length + 8 + r.length := by rw [← hLL]; simp; omega
  have HL := Lib.hid hLL
  clear hLL
  have hv0 := hv
  obtain ⟨A, c, rfl, hl63, hlc, hcc⟩ := hv
  have s2b : p.length + 8 = c := by
    obtain ⟨A', n', c', e, h⟩ := hpos
    injection e with _ _ e3
    omega
  clear hpos
  obtain ⟨ad, rfl, hB1, hB2, h00⟩ := hv0.at (k := 0) (b := l[0]'(by omega)) (List.getElem?_eq_getElem (by omega))
  clear h00 hcc
  have hc8 : ¬ ((l.length : Int) - p.length < 8) := by omega
  have hat : ¬ ((p.length : Int) > l.length) := by omega
  have s1 : (p.length : Int) + 8 ≤ l.length := by omega
  have p1 : RdB w L w.heap.size (.slice (some (ad.add p.length)) 4 (c - p.length)) [b0, b1, b2, b3] := by
    have := rdB_sub hv0 p.length 4 (c - p.length) (by omega) (by omega)
    rw [← HL.out, List.drop_left] at this
    exact this
  have p2 : RdB w L w.heap.size (.slice (some ⟨ad.block, ad.off + (p.length + 3 + 1), none⟩) 4 (c - (p.length + 4))) [c0, c1, c2, c3] := by
    have := rdB_sub hv0 (p.length + 3 + 1) 4 (c - (p.length + 4)) (by omega) (by omega)
    rw [← HL.out, ← List.append_assoc p, List.drop_left' (by rw [List.length_append]; rfl), add_pos'] at this
    exact this
  have p3 : RdB w L w.heap.size (.slice (some ad) r.length 0) r := by
    have h0 : r = [] := List.eq_nil_of_length_eq_zero (by omega)
    subst h0
    exact rdB_none _ _ _ _ _
  have s3 : ((l.length - (p.length + 8) : Nat) : Int) = r.length := by omega
  have s4 : r.length ≤ 0 := by omega
  have s5 : ¬ (p.length : Int) < 0 := by omega
  have hrl : r.length ≤ 9223372036854775807 := by omega
  generalize hN : l.length = N at *
  generalize hP : p.length = P at *
  have HV := Lib.hid hv0
  have HN := Lib.hid hN
  have HLL := Lib.hid hll
  have HP := Lib.hid hP
  have P1 := Lib.hid p1
  have P2 := Lib.hid p2
  have P3 := Lib.hid p3
  have S3 := Lib.hid s3
  have S4 := Lib.hid s4
  have HX := Lib.hid (show nextL (b0 :: b1 :: b2 :: b3 :: c0 :: c1 :: c2 :: c3 :: r) P = (if nxE b0 b1 b2 b3 c0 c1 c2 c3 r = 0 then (0, r.take (num4 b0 b1 b2 b3), P + 8 + num4 b0 b1 b2 b3) else (nxE b0 b1 b2 b3 c0 c1 c2 c3 r, [], 0)) from rfl)
  generalize nextL (b0 :: b1 :: b2 :: b3 :: c0 :: c1 :: c2 :: c3 :: r) P = X at *
  have HE0 := Lib.hid (show nxE b0 b1 b2 b3 c0 c1 c2 c3 r = (if num4 b0 b1 b2 b3 > 1048576 then 5 else if r.length < num4 b0 b1 b2 b3 then 2 else if crc ([b0, b1, b2, b3] ++ r.take (num4 b0 b1 b2 b3)) = num4 c0 c1 c2 c3 then 0 else 4) from rfl)
  clear hv0 hll hN hP p1 p2 p3 s3 s4
  have hm32 := num4_lt b0 b1 b2 b3
  generalize nxE b0 b1 b2 b3 c0 c1 c2 c3 r = E at *
  go_enter Tryd.func10, Tryd.ntmps10
  go_wp2_with fail
  (refine wp_region_after (by kernel_rfl) (by kernel_rfl) ?_; (repeat (go_big_quiet_step (fail))); refine wpQuiet_nil ?_; intro w1 hw0; obtain ⟨⟨wq0, hb1⟩, hw1⟩ := hw0; subst hw1; (try dsimp only))
  have B1 : Below w.heap.size w w1 := hb1
  have hx1 := word_4 _ b0 b1 b2 b3 w1 L (P1.out.step B1 (Nat.le_refl _))
  generalize hM : num4 b0 b1 b2 b3 = M at *
  go_wp2_with fail
  with_reducible refine hx1.mono ?_
  rintro e w2 ⟨rfl, hb2⟩
  have B2 := B1.trans (hb2.mono B1.size)
  clear hx1
  by_cases h5 : M > 1048576
  · have h5i : (M : Int) > 1048576 := by omega
    go_wp2_with fail
    go_ret3
    exact retX_err (k := 5) (by rw [HX.out, HE0.out, if_pos h5]; rfl) B2
  · have hx2 := word_4 _ b0 b1 b2 b3 w2 L (P1.out.step B2 (Nat.le_refl _))
    rw [hM] at hx2
    have s6 : ¬ (M : Int) > 1048576 := by omega
    go_wp2_with fail
    with_reducible refine hx2.mono ?_
    rintro e w3 ⟨rfl, hb3⟩
    have B3 := B2.trans (hb3.mono B2.size)
    clear hx2
    have S3i := S3.out
    have S4i := S4.out
    by_cases h2 : r.length < M
    · have h2i : (M : Int) > ((N - (P + 8) : Nat) : Int) := by omega
      go_wp2_with fail
      go_ret3
      exact retX_err (k := 2) (by rw [HX.out, HE0.out, if_neg h5, if_pos h2]; rfl) B3
    · have hr0 : r = [] := List.eq_nil_of_length_eq_zero (by have := S4.out; omega)
      subst hr0
      have hM0 : M = 0 := by have : ¬ 0 < M := h2; omega
      subst hM0
      clear h2 s6
      go_wp2_with fail
      have q1 := P1.out.step B3 (Nat.le_refl _)
      have q3 := rdB_none w3 L w3.heap.size (some ad) 0
      have b4 := (Below.refl w3.heap.size w3).alloc (Nat.le_refl _) (.cells #[.slice (some (ad.add P)) 4 (c - P), .slice (some ad) 0 0] 26)
      have B4 := B3.trans (b4.mono B3.size)
      have hC := check_any _ [[b0, b1, b2, b3], []] _ L w3.heap.size (henv.step B4) (parts_two w3 _ _ [b0, b1, b2, b3] [] L w3.heap.size 2 (Nat.le_refl _) q1 q3)
      rw [show ([[b0, b1, b2, b3], []] : List (List UInt8)).flatten = [b0, b1, b2, b3] ++ List.take 0 [] by simp] at hC
      clear q1 q3
      generalize w3.alloc (.cells #[.slice (some (ad.add P)) 4 (c - P), .slice (some ad) 0 0] 26) = w4 at *
      with_reducible refine hC.mono ?_
      rintro e w5 ⟨rfl, rfl⟩
      clear hC
      have hx3 := word_4 (.slice (some ⟨ad.block, ad.off + (P + 3 + 1), none⟩) (c - (P + 4)) (c - (P + 4))) c0 c1 c2 c3 w5 L (by have e4 : c - (P + 4) = 4 := (by omega); have := P2.out.step B4 (Nat.le_refl _); rw [e4] at this ⊢; exact this)
      have HE1 := Lib.hid (show E = if crc ([b0, b1, b2, b3] ++ List.take 0 []) = num4 c0 c1 c2 c3 then 0 else 4 by rw [HE0.out, if_neg h5, if_neg (by simp)])
      have hkl := crc_lt ([b0, b1, b2, b3] ++ List.take 0 [])
      generalize hK : crc ([b0, b1, b2, b3] ++ List.take 0 []) = K at *
      have hkl2 := num4_lt c0 c1 c2 c3
      generalize hK2 : num4 c0 c1 c2 c3 = K2 at *
      have HK := Lib.hid hK
      clear hK hK2
      go_wp2_with fail
      with_reducible refine hx3.mono ?_
      rintro e w6 ⟨rfl, hb6⟩
      have B6 := B4.trans (hb6.mono B4.size)
      clear hx3
      by_cases h4 : K = K2
      · subst h4
        have hE0 : E = 0 := by rw [HE1.out, if_pos rfl]
        have HX2 := Lib.hid (show X = (0, [], P + 8) by rw [HX.out, if_pos hE0]; rfl)
        obtain ⟨i0, hi, hz0, hz1, hz2⟩ := info_partsB infoB
        have hmk := run_makeSlice (P := Tryd.prog) (w := w6) 26 5 i0 (.int .u8 0) Tryd.underlying26 hi hz0 .i64 .i64 (0 : Int) (0 : Int) (by omega) (Int.le_refl _) (by rw [hz1]; simp) (by rw [hz2]; omega) (by omega)
        have HSZ := Lib.hid (show (Tryd.prog.info? 5).map (·.size) = some 1 by rw [hi]; simp [hz1])
        rw [hz1] at hmk
        simp only [Int.toNat_zero, Nat.zero_mul] at hmk
        have B7 := B6.alloc B6.size (.cells (madeCells (Value.int .u8 0).cells 0) 5)
        generalize hw7 : w6.alloc (.cells (madeCells (Value.int .u8 0).cells 0) 5) = w7 at *
        have hcp := run_copy_none (P := Tryd.prog) w7 26 26 3 5 (some ⟨w6.heap.size, 0, none⟩) (some ad) 0 0 0 0 Tryd.underlying26 HSZ.out (Nat.min_zero _)
        have hPM : (P : Int) + 8 = ((P + 8 : Nat) : Int) := by omega
        have HPM := Lib.hid hPM
        have hln := pLen_any (0 : Int)
        rw [show lenF (0 : Int) = 8 by rfl] at hln
        clear hw7 HSZ hi hz0 hz1 hz2 hPM hE0
        go_wp2_with (go_at_call 18; refine (hln _).mono ?_; rintro e w8 ⟨rfl, rfl⟩)
        go_ret3
        rw [HX2.out]
        exact ⟨_, by rw [← HPM.out]; rfl, rdB_none _ _ _ _ _, B7⟩
      · have h4i : ¬ (K : Int) = (K2 : Int) := by omega
        have hE4 : E = 4 := by rw [HE1.out, if_neg h4]
        go_wp2_with fail
        go_ret3
        exact retX_err (k := 4) (by rw [HX.out, hE4]; rfl) B6
end Go.Proofs.YtclpemmpckjemaaDoor.Fr
