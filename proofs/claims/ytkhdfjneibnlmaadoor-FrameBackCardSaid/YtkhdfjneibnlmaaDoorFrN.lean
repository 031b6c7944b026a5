/-
  The reference's Next behind a whole head: what it answers. Conditions: lengths.
-/
import Derived.Test.YtkhdfjneibnlmaaDoorFrS
import Derived.Deep.RegionWith
import Derived.OwnWalk
import Derived.Deep.RegionLaw
import Derived.Outline
import Derived.WalkKit
import Derived.WalkSpells
import Derived.WalkLawsBesides
import Derived.Deep.QuietTactic
import Derived.BigQuiet
import Derived.Handy
import Derived.Lib.Hide
namespace Go.Proofs.YtkhdfjneibnlmaaDoor
open Go.RowKit

theorem run_sl (w : World) (ad : Addr) (N c i j : Nat) (lo hi : Int) (hlo : lo = (i : Nat)) (hhi : hi = (i + j : Nat)) (hij : i + j ≤ c) (hc : i < c) :
    (Instr.slice 22 (.slice (some ad) N c) (some (.int .i64 lo)) (some (.int .i64 hi)) none).run Tryd.prog w = .ok (.slice (some (ad.add i)) j (c - i)) w := by
  subst hlo hhi
  obtain ⟨i0, hi0, hz0, hz1, hz2⟩ := info_partsB infoB
  have hs := run_slice_lh (P := Tryd.prog) (w := w) 22 (some ad) N c Tryd.underlying22 .i64 .i64 (i : Nat) (i + j : Nat) (by omega) (by omega) (by omega)
  rw [hs, show Tryd.prog.elem 22 = 5 by kernel_rfl, Tryd.sizeOf5]
  simp only [sliced, Result.andThen]
  rw [if_neg (by omega), show ((i + j : Nat) : Int).toNat - (i : Int).toNat = j by omega, show (i : Int).toNat = i by omega, Nat.mul_one]
  rfl
theorem run_sl0 (w : World) (ad : Addr) (N c : Nat) (lo hi : Int) (hlo : lo = (c : Nat)) (hhi : hi = (c : Nat)) :
    (Instr.slice 22 (.slice (some ad) N c) (some (.int .i64 lo)) (some (.int .i64 hi)) none).run Tryd.prog w = .ok (.slice (some ad) 0 0) w := by
  subst hlo hhi
  have hs := run_slice_lh (P := Tryd.prog) (w := w) 22 (some ad) N c Tryd.underlying22 .i64 .i64 (c : Nat) (c : Nat) (by omega) (by omega) (by omega)
  rw [hs, show Tryd.prog.elem 22 = 5 by kernel_rfl, Tryd.sizeOf5]
  simp only [sliced, Result.andThen]
  rw [if_pos (by omega), Nat.sub_self, show c - (c : Int).toNat = 0 by omega]
theorem step_append_x {ops : Array Oper} {o : Oper} {a : Act} {K : Act → World → Prop} {Q : Exit → Act → World → Prop} {E : Prop} (W : World) (hgd : o.guard = none) (s x : Operand)
    (ho : o.op = .call { callee := .builtin .append, args := #[s, x], argTypes := #[22, 22] }) (base : Nat) (v : Value) (l : List UInt8) (hs : a.eval s = v)
    (hown : W.ownsRow base 5 1 v l.length (bytV l)) (u : Value) (m : List UInt8) (L B : Nat) (hx : a.eval x = u) (hr : RdB W L B u m) (hun : ∀ n c, u = .slice none n c → c = 0) (hl : l.length + m.length ≤ 70368744177664) (hbase : base ≤ W.heap.size)
    (h : ∀ v' w', w'.ownsRow base 5 1 v' (l ++ m).length (bytV (l ++ m)) → Below base W w' → K (a.put o.dst v') w') :
    if Region.wanted o (yielded ops a.tmps) = true then Oper.wp Tryd.prog o a W K Q else E := by
  have hw : Region.wanted o (yielded ops a.tmps) = true := by simp [Region.wanted, hgd]
  rw [if_pos hw]
  have hr0 := hr
  obtain ⟨A, c, rfl, _⟩ := hr
  obtain ⟨i0, hi, hz0, hz1, hz2⟩ := info_partsB infoB
  cases A with
  | none =>
    have hm0 : m = [] := by
      cases m with
      | nil => rfl
      | cons b t => obtain ⟨ad, h1, _⟩ := hr0.at (k := 0) rfl; cases h1
    subst hm0
    obtain rfl := hun _ _ rfl
    have hrun := run_append_owned_none (P := Tryd.prog) (w := W) base 22 o.type 5 i0 1 Tryd.underlying22 hi v _ _ hown
    unfold Oper.wp
    simp [execOp, ho, resolve, invoke, builtin, hs, hx, hrun, Result.andThen]
    exact h v W (by rw [List.append_nil]; exact hown) (Below.refl _ _)
  | some ad =>
    refine wp_append_own W s x 22 ho base 5 i0 (.int .u8 0) 1 1 Tryd.underlying22 hi hz0 hz1 hz2 rfl (by decide) v l.length (bytV l) hs hown ad m.length c (bytV m) hx (by rw [bytV_len]; omega)
      ?_ ?_ (by unfold maxLen; omega) (by omega) hbase ?_
    · intro j u hu
      unfold bytV at hu
      rw [List.getElem?_map, Option.map_eq_some_iff] at hu
      obtain ⟨b, hb, rfl⟩ := hu
      obtain ⟨ad2, h1, _, _, h4⟩ := hr0.at hb
      injection h1 with h1; subst h1; exact h4
    · intro u hu
      unfold bytV at hu
      rw [List.mem_map] at hu
      obtain ⟨b, _, rfl⟩ := hu
      rfl
    · intro v' w' h1 h2 _
      exact h v' w' (by rw [bytV_app, List.length_append]; exact h1) ((Below.refl _ _).grown h2 hbase fun k hk => (hown.lt k hk).1)
theorem wrap_eq {x : Int} (h1 : -9223372036854775808 ≤ x) (h2 : x ≤ 9223372036854775807) : IntKind.i64.wrap x = x := by
  rw [IntKind.wrap_i64]; omega
theorem own_e (w3 X : World) (h : Below w3.heap.size w3 X) : (X.alloc (.cells #[] 5)).ownsRow w3.heap.size 5 1 (.slice (some ⟨X.heap.size, 0, none⟩) 0 0) 0 (bytV []) :=
  ownsRow_low (own_lit X [] (by unfold maxLen; simp) #[] rfl) h.size
theorem rdB_ty {w : World} {L B n n' c c' : Nat} {A : Option Addr} {l : List UInt8} (h : RdB w L B (.slice A n c) l) (hn : n = n') (hc : c = c') : RdB w L B (.slice A n' c') l := by
  subst hn hc; exact h

set_option maxRecDepth 100000 in
set_option maxHeartbeats 12800000 in
theorem rNext_T (v : Value) (p r : List UInt8) (b0 b1 b2 b3 c0 c1 c2 c3 : UInt8) (w : World) (L : Nat) (hv : RdB w L w.heap.size v (p ++ ([b0, b1, b2, b3] ++ ([c0, c1, c2, c3] ++ r)))) (hpos : ∃ A n c, v = .slice A n c ∧ p.length + 8 < c) :
    Calls Tryd.prog 18 #[v, .int .i64 p.length] w (RetX w (nextL (b0 :: b1 :: b2 :: b3 :: c0 :: c1 :: c2 :: c3 :: r) p.length)) := by
  generalize hLL : p ++ ([b0, b1, b2, b3] ++ ([c0, c1, c2, c3] ++ r)) = l at *
  have hll : l.length = p.length + 8 + r.length := by rw [← hLL]; simp; omega
  have HL := Lib.hid hLL
  clear hLL
  have hv0 := hv
  obtain ⟨A, c, rfl, hl63, hlc, hcc⟩ := hv
  have s2b : p.length + 8 < c := by
    obtain ⟨A', n', c', e, h⟩ := hpos
    injection e with _ _ e3
    omega
  clear hpos
  obtain ⟨ad, rfl, hB1, hB2, h00⟩ := hv0.at (k := 0) (b := l[0]'(by omega)) (List.getElem?_eq_getElem (by omega))
  clear h00 hcc
  have hc8 : ¬ ((l.length : Int) - p.length < 8) := by omega
  have hat : ¬ ((p.length : Int) > l.length) := by omega
  have s1 : (p.length : Int) + 8 ≤ l.length := by omega
  have p1 : RdB w L w.heap.size (.slice (some (ad.add p.length)) 4 (c - p.length)) [b0, b1, b2, b3] := by
    have := rdB_sub hv0 p.length 4 (c - p.length) (by omega) (by omega)
    rw [← HL.out, List.drop_left] at this
    exact this
  have p2 : RdB w L w.heap.size (.slice (some ⟨ad.block, ad.off + (p.length + 3 + 1), none⟩) 4 (c - (p.length + 4))) [c0, c1, c2, c3] := by
    have := rdB_sub hv0 (p.length + 3 + 1) 4 (c - (p.length + 4)) (by omega) (by omega)
    rw [← HL.out, ← List.append_assoc p, List.drop_left' (by rw [List.length_append]; rfl), add_pos'] at this
    exact this
  have p3 : RdB w L w.heap.size (.slice (some ⟨ad.block, ad.off + (p.length + 7 + 1), none⟩) r.length (c - (p.length + 8))) r := by
    have := rdB_sub hv0 (p.length + 7 + 1) r.length (c - (p.length + 8)) (by omega) (by omega)
    rw [← HL.out, ← List.append_assoc p, ← List.append_assoc (p ++ _), List.drop_left' (by rw [List.length_append, List.length_append]; rfl), List.take_of_length_le (Nat.le_refl _), add_pos'] at this
    exact this
  have s3 : ((l.length - (p.length + 8) : Nat) : Int) = r.length := by omega
  have s4 : r.length ≤ c - (p.length + 8) := by omega
  have s5 : ¬ (p.length : Int) < 0 := by omega
  have hrl : r.length ≤ 9223372036854775807 := by omega
  generalize hN : l.length = N at *
  generalize hP : p.length = P at *
  have HV := Lib.hid hv0
  have HN := Lib.hid hN
  have HLL := Lib.hid hll
  have HP := Lib.hid hP
  have P1 := Lib.hid p1
  have P2 := Lib.hid p2
  have P3 := Lib.hid p3
  have S3 := Lib.hid s3
  have S4 := Lib.hid s4
  have HX := Lib.hid (show nextL (b0 :: b1 :: b2 :: b3 :: c0 :: c1 :: c2 :: c3 :: r) P = (if nxE b0 b1 b2 b3 c0 c1 c2 c3 r = 0 then (0, r.take (num4 b0 b1 b2 b3), P + 8 + num4 b0 b1 b2 b3) else (nxE b0 b1 b2 b3 c0 c1 c2 c3 r, [], 0)) from rfl)
  generalize nextL (b0 :: b1 :: b2 :: b3 :: c0 :: c1 :: c2 :: c3 :: r) P = X at *
  have HE0 := Lib.hid (show nxE b0 b1 b2 b3 c0 c1 c2 c3 r = (if num4 b0 b1 b2 b3 > 1048576 then 5 else if r.length < num4 b0 b1 b2 b3 then 2 else if crc ([b0, b1, b2, b3] ++ r.take (num4 b0 b1 b2 b3)) = num4 c0 c1 c2 c3 then 0 else 4) from rfl)
  clear hv0 hll hN hP p1 p2 p3 s3 s4
  have hm32 := num4_lt b0 b1 b2 b3
  generalize nxE b0 b1 b2 b3 c0 c1 c2 c3 r = E at *
  have HN4 := Lib.hid (num4_lt c0 c1 c2 c3)
  go_enter Tryd.func18, Tryd.ntmps18
  have hx1 := rNumber_any _ w L b0 b1 b2 b3 P1.out
  generalize hM : num4 b0 b1 b2 b3 = M at *
  go_wp2_with fail
  with_reducible refine hx1.mono ?_
  rintro e w1 ⟨rfl, hb1⟩
  have B1 : Below w.heap.size w w1 := hb1
  clear hx1
  by_cases h5 : M > 1048576
  · have h5i : (M : Int) > 1048576 := by omega
    go_wp2_with fail
    go_ret3
    exact retX_err (k := 5) (by rw [HX.out, HE0.out, if_pos h5]; rfl) B1
  · have h5i : ¬ (M : Int) > 1048576 := by omega
    have S3i := S3.out
    have S4i := S4.out
    by_cases h2 : r.length < M
    · have h2i : (N : Int) - P - 8 < M := by omega
      go_wp2_with fail
      go_ret3
      exact retX_err (k := 2) (by rw [HX.out, HE0.out, if_neg h5, if_pos h2]; rfl) B1
    · have h2i : ¬ (N : Int) - P - 8 < M := by omega
      have h2j : M ≤ c - (P + 8) := by omega
      have P3b := rdB_take (P3.out.step B1 (Nat.le_refl _)) M (c - (P + 8)) (by omega) h2j
      have bw2 := (Below.refl w1.heap.size w1).alloc (Nat.le_refl _) (.cells #[] 5)
      have z2 := bw2.size
      have hsl := fun W => run_sl W ad N c (P + 8) M ((P : Int) + 8) ((P : Int) + 8 + M) (by omega) (by omega) (by omega) (by omega)
      have hq3 : RdB (w1.alloc (.cells #[] 5)) L (w1.alloc (.cells #[] 5)).heap.size (.slice (some (ad.add (P + 8))) M (c - (P + 8))) (r.take M) := by
        have := P3b.step bw2 (Nat.le_refl _)
        rw [show ad.add (P + 8) = ⟨ad.block, ad.off + (P + 7 + 1), none⟩ from add_pos' ad (P + 7)]
        exact this
      have HQ3 := Lib.hid hq3
      have O2 := Lib.hid (own_lit w1 [] (by unfold maxLen; simp) #[] rfl)
      have hrt : (r.take M).length = M := by rw [List.length_take]; omega
      have hl1 : ([] : List UInt8).length + (r.take M).length ≤ 70368744177664 := by first | (rw [hrt]; simp; done) | (rw [hrt]; simp; omega)
      have HRT := Lib.hid hrt
      have HL1 := Lib.hid hl1
      clear P3b hq3 hrt hl1
      go_wp2_with (at_builtin; (refine append_x _ rfl _ _ rfl w1.heap.size _ [] rfl O2.out (.slice (some (ad.add (P + 8))) M (c - (P + 8))) (r.take M) _ _ rfl HQ3.out (by rintro n' c' h'; cases h') HL1.out z2 ?_); intro v3 w3 ho3 hb3; rw [List.nil_append] at ho3; have O3 := Lib.hid ho3; have O3n := Lib.hid ho3; have bw3 := bw2.trans hb3; have z3 := bw3.size; clear ho3)
      have B3 := B1.trans (bw3.mono B1.size)
      have z13 := B1.size
      have R3 := (RdB.of_own O3.out (by rw [HRT.out]; omega)).more (Nat.le_refl w3.heap.size) z13
      have RV3 := Lib.hid (fun X (hX : Below w3.heap.size w3 X) => R3.step hX (Nat.le_refl _))
      have RD1 := Lib.hid (fun X (hX : Below w3.heap.size w3 X) => P1.out.step (B3.trans (hX.mono B3.size)) (Nat.le_refl _))
      have RD2 := Lib.hid (fun X (hX : Below w3.heap.size w3 X) => P2.out.step (B3.trans (hX.mono B3.size)) (Nat.le_refl _))
      have HX3 := Lib.hid (show X = if crc ([b0, b1, b2, b3] ++ r.take M) = num4 c0 c1 c2 c3 then (0, r.take M, P + 8 + M) else (4, [], 0) by
        rw [HX.out, HE0.out, if_neg h5, if_neg h2]
        by_cases hk : crc ([b0, b1, b2, b3] ++ r.take M) = num4 c0 c1 c2 c3
        · rw [if_pos hk, if_pos hk]; rfl
        · rw [if_neg hk, if_neg hk]; rfl)
      have hPM : (P : Int) + 8 + M = ((P + 8 + M : Nat) : Int) := by omega
      have HPM := Lib.hid hPM
      have hln : ([b0, b1, b2, b3] ++ r.take M).length ≤ 9223372036854775807 := by first | (rw [List.length_append, HRT.out]; simp; done) | (rw [List.length_append, HRT.out]; simp; omega)
      have hl8 : ([b0, b1, b2, b3] : List UInt8).length + (r.take M).length ≤ 70368744177664 := by first | (rw [HRT.out]; simp; done) | (rw [HRT.out]; simp; omega)
      have HLN := Lib.hid hln
      have HL8 := Lib.hid hl8
      have k1 : IntKind.i64.wrap ((P : Int) + 4) = (P : Int) + 4 := wrap_eq (by omega) (by omega)
      have k2 : IntKind.i64.wrap ((P : Int) + 8) = (P : Int) + 8 := wrap_eq (by omega) (by omega)
      have k3 : (P : Int) + 4 ≤ c := by omega
      have k4 : (P : Int) + 8 ≤ c := by omega
      have k5 : ((P : Int) + 4).toNat = P + 4 := by omega
      have k6 : ((P : Int) + 8).toNat = P + 8 := by omega
      have k7 : ¬ c = P := by omega
      have k8 : ¬ c = P + 4 := by omega
      have k9 : (0 : Int) ≤ (P : Int) + 4 := by omega
      have k10 : (0 : Int) ≤ (P : Int) + 8 := by omega
      have k11 : P + 8 - (P + 4) = 4 := by omega
      clear hPM hln hl8 R3 hsl HQ3 O2 O3 HL1 HX HE0 h2i h2j S3i S4i HV HN HP B1 bw2 bw3 z2 z3 h2 h5 h5i hrl
      have hsm := fun X v (h : RdB X w.heap.size X.heap.size v ([b0, b1, b2, b3] ++ r.take M)) => rSum_any v ([b0, b1, b2, b3] ++ r.take M) X w.heap.size X.heap.size h
      have hnm := fun X v (h : RdB X L X.heap.size v [c0, c1, c2, c3]) => rNumber_any v X L c0 c1 c2 c3 h
      have hkl := crc_lt ([b0, b1, b2, b3] ++ r.take M)
      have hkl2 := num4_lt c0 c1 c2 c3
      generalize hK : crc ([b0, b1, b2, b3] ++ r.take M) = K at *
      generalize hK2 : num4 c0 c1 c2 c3 = K2 at *
      have HSM := Lib.hid hsm
      have HNM := Lib.hid hnm
      clear hK hK2 hsm hnm
      generalize hbb : r.take M = rm at *
      clear hbb
      have hbz := fun X (h : Below w3.heap.size w3 X) => h.size
      go_region_law (first
        | (go_simp; go_at_call 30; refine (HNM.out _ _ (RD2.out _ (by (repeat' (first | (with_reducible exact Below.refl _ _) | (with_reducible assumption) | (with_reducible refine Below.alloc ?_ ?_ _) | (with_reducible refine Below.drew ?_) | (with_reducible refine Below.setCell ?_ ?_ _) | (with_reducible refine Below.trans ?_ (Below.mono (by assumption) ?_)) | go_size))))).mono ?_; rintro e wn ⟨rfl, hbn⟩; have hzn := hbn.size; (try simp only [World.size_alloc] at hzn))
        | (go_simp; go_at_call 10; refine (HSM.out _ _ (RdB.more (RdB.of_own (by first | exact OB.out | exact own_below OB.out hbn) HLN.out) (Nat.le_refl _) B3.size)).mono ?_; rintro e ws ⟨rfl, rfl⟩)
        | (refine step_append_x _ rfl _ _ rfl w3.heap.size _ [] rfl (by first | exact own_e w3 _ (by (repeat' (first | (with_reducible exact Below.refl _ _) | (with_reducible assumption) | (with_reducible refine Below.alloc ?_ ?_ _) | (with_reducible refine Below.drew ?_) | (with_reducible refine Below.setCell ?_ ?_ _) | (with_reducible refine Below.trans ?_ (Below.mono (by assumption) ?_)) | go_size))) | exact own_below (own_e w3 _ (by (repeat' (first | (with_reducible exact Below.refl _ _) | (with_reducible assumption) | (with_reducible refine Below.alloc ?_ ?_ _) | (with_reducible refine Below.drew ?_) | (with_reducible refine Below.setCell ?_ ?_ _) | (with_reducible refine Below.trans ?_ (Below.mono (by assumption) ?_)) | go_size)))) hbn) (.slice (some (ad.add P)) 4 (c - P)) [b0, b1, b2, b3] L _ rfl (RD1.out _ (by (repeat' (first | (with_reducible exact Below.refl _ _) | (with_reducible assumption) | (with_reducible refine Below.alloc ?_ ?_ _) | (with_reducible refine Below.drew ?_) | (with_reducible refine Below.setCell ?_ ?_ _) | (with_reducible refine Below.trans ?_ (Below.mono (by assumption) ?_)) | go_size)))) (by rintro n' c' h'; cases h') (by simp) (hbz _ (by (repeat' (first | (with_reducible exact Below.refl _ _) | (with_reducible assumption) | (with_reducible refine Below.alloc ?_ ?_ _) | (with_reducible refine Below.drew ?_) | (with_reducible refine Below.setCell ?_ ?_ _) | (with_reducible refine Below.trans ?_ (Below.mono (by assumption) ?_)) | go_size)))) ?_; intro va wa hoa hba; rw [List.nil_append] at hoa; have OA := Lib.hid hoa; have hza := hba.size; (try simp only [World.size_alloc] at hza); clear hoa)
        | (refine step_append_x _ rfl _ _ rfl w3.heap.size _ [b0, b1, b2, b3] rfl (by first | exact OA.out | exact own_below OA.out hbn) v3 rm w.heap.size _ rfl (RV3.out _ (by (repeat' (first | (with_reducible exact Below.refl _ _) | (with_reducible assumption) | (with_reducible refine Below.alloc ?_ ?_ _) | (with_reducible refine Below.drew ?_) | (with_reducible refine Below.setCell ?_ ?_ _) | (with_reducible refine Below.trans ?_ (Below.mono (by assumption) ?_)) | go_size)))) (own_not_none O3n.out) HL8.out (hbz _ (by (repeat' (first | (with_reducible exact Below.refl _ _) | (with_reducible assumption) | (with_reducible refine Below.alloc ?_ ?_ _) | (with_reducible refine Below.drew ?_) | (with_reducible refine Below.setCell ?_ ?_ _) | (with_reducible refine Below.trans ?_ (Below.mono (by assumption) ?_)) | go_size)))) ?_; intro vb wb hob hbb; have OB := Lib.hid hob; have hzb := hbb.size; (try simp only [World.size_alloc] at hzb); clear hob))
      have BA : Below w3.heap.size w3 ws := Below.trans (Below.trans (by (repeat' (first | (with_reducible exact Below.refl _ _) | (with_reducible assumption) | (with_reducible refine Below.alloc ?_ ?_ _) | (with_reducible refine Below.drew ?_) | (with_reducible refine Below.setCell ?_ ?_ _) | (with_reducible refine Below.trans ?_ (Below.mono (by assumption) ?_)) | go_size))) hba) hbb
      have BF : Below w3.heap.size w3 wn := BA.trans (hbn.mono BA.size)
      have BW := B3.trans (BF.mono B3.size)
      by_cases h4 : K = K2
      · subst h4
        have HX4 := Lib.hid (show X = (0, rm, P + 8 + M) by rw [HX3.out, if_pos rfl])
        go_wp2_with fail
        go_ret3
        rw [HX4.out]
        exact ⟨_, by rw [← HPM.out]; rfl, RV3.out _ BF, BW⟩
      · have h4i : ¬ (K : Int) = (K2 : Int) := by omega
        have HX4 := Lib.hid (show X = (4, [], 0) by rw [HX3.out, if_neg h4])
        go_wp2_with fail
        go_ret3
        exact retX_err (k := 4) HX4.out BW

set_option maxRecDepth 100000 in
set_option maxHeartbeats 12800000 in
theorem rNext_E (v : Value) (p r : List UInt8) (b0 b1 b2 b3 c0 c1 c2 c3 : UInt8) (w : World) (L : Nat) (hv : RdB w L w.heap.size v (p ++ ([b0, b1, b2, b3] ++ ([c0, c1, c2, c3] ++ r)))) (hpos : ∃ A n c, v = .slice A n c ∧ p.length + 8 = c) :
    Calls Tryd.prog 18 #[v, .int .i64 p.length] w (RetX w (nextL (b0 :: b1 :: b2 :: b3 :: c0 :: c1 :: c2 :: c3 :: r) p.length)) := by
  generalize hLL : p ++ ([b0, b1, b2, b3] ++ ([c0, c1, c2, c3] ++ r)) = l at *
  have hll : l.length = p.length + 8 + r.length := by rw [← hLL]; simp; omega
  have HL := Lib.hid hLL
  clear hLL
  have hv0 := hv
  obtain ⟨A, c, rfl, hl63, hlc, hcc⟩ := hv
  have s2b : p.length + 8 = c := by
    obtain ⟨A', n', c', e, h⟩ := hpos
    injection e with _ _ e3
    omega
  clear hpos
  obtain ⟨ad, rfl, hB1, hB2, h00⟩ := hv0.at (k := 0) (b := l[0]'(by omega)) (List.getElem?_eq_getElem (by omega))
  clear h00 hcc
  have hc8 : ¬ ((l.length : Int) - p.length < 8) := by omega
  have hat : ¬ ((p.length : Int) > l.length) := by omega
  have s1 : (p.length : Int) + 8 ≤ l.length := by omega
  have p1 : RdB w L w.heap.size (.slice (some (ad.add p.length)) 4 (c - p.length)) [b0, b1, b2, b3] := by
    have := rdB_sub hv0 p.length 4 (c - p.length) (by omega) (by omega)
    rw [← HL.out, List.drop_left] at this
    exact this
  have p2 : RdB w L w.heap.size (.slice (some ⟨ad.block, ad.off + (p.length + 3 + 1), none⟩) 4 (c - (p.length + 4))) [c0, c1, c2, c3] := by
    have := rdB_sub hv0 (p.length + 3 + 1) 4 (c - (p.length + 4)) (by omega) (by omega)
    rw [← HL.out, ← List.append_assoc p, List.drop_left' (by rw [List.length_append]; rfl), add_pos'] at this
    exact this
  have p3 : RdB w L w.heap.size (.slice (some ad) r.length 0) r := by
    have h0 : r = [] := List.eq_nil_of_length_eq_zero (by omega)
    subst h0
    exact rdB_none _ _ _ _ _
  have s3 : ((l.length - (p.length + 8) : Nat) : Int) = r.length := by omega
  have s4 : r.length ≤ 0 := by omega
  have s5 : ¬ (p.length : Int) < 0 := by omega
  have hrl : r.length ≤ 9223372036854775807 := by omega
  generalize hN : l.length = N at *
  generalize hP : p.length = P at *
  have HV := Lib.hid hv0
  have HN := Lib.hid hN
  have HLL := Lib.hid hll
  have HP := Lib.hid hP
  have P1 := Lib.hid p1
  have P2 := Lib.hid p2
  have P3 := Lib.hid p3
  have S3 := Lib.hid s3
  have S4 := Lib.hid s4
  have HX := Lib.hid (show nextL (b0 :: b1 :: b2 :: b3 :: c0 :: c1 :: c2 :: c3 :: r) P = (if nxE b0 b1 b2 b3 c0 c1 c2 c3 r = 0 then (0, r.take (num4 b0 b1 b2 b3), P + 8 + num4 b0 b1 b2 b3) else (nxE b0 b1 b2 b3 c0 c1 c2 c3 r, [], 0)) from rfl)
  generalize nextL (b0 :: b1 :: b2 :: b3 :: c0 :: c1 :: c2 :: c3 :: r) P = X at *
  have HE0 := Lib.hid (show nxE b0 b1 b2 b3 c0 c1 c2 c3 r = (if num4 b0 b1 b2 b3 > 1048576 then 5 else if r.length < num4 b0 b1 b2 b3 then 2 else if crc ([b0, b1, b2, b3] ++ r.take (num4 b0 b1 b2 b3)) = num4 c0 c1 c2 c3 then 0 else 4) from rfl)
  clear hv0 hll hN hP p1 p2 p3 s3 s4
  have hm32 := num4_lt b0 b1 b2 b3
  generalize nxE b0 b1 b2 b3 c0 c1 c2 c3 r = E at *
  have HN4 := Lib.hid (num4_lt c0 c1 c2 c3)
  have s2c : P + 8 ≤ c := by omega
  have HS2 := Lib.hid s2b
  clear s2b
  go_enter Tryd.func18, Tryd.ntmps18
  have hx1 := rNumber_any _ w L b0 b1 b2 b3 P1.out
  generalize hM : num4 b0 b1 b2 b3 = M at *
  go_wp2_with fail
  with_reducible refine hx1.mono ?_
  rintro e w1 ⟨rfl, hb1⟩
  have B1 : Below w.heap.size w w1 := hb1
  clear hx1
  by_cases h5 : M > 1048576
  · have h5i : (M : Int) > 1048576 := by omega
    go_wp2_with fail
    go_ret3
    exact retX_err (k := 5) (by rw [HX.out, HE0.out, if_pos h5]; rfl) B1
  · have h5i : ¬ (M : Int) > 1048576 := by omega
    have S3i := S3.out
    have S4i := S4.out
    by_cases h2 : r.length < M
    · have h2i : (N : Int) - P - 8 < M := by omega
      go_wp2_with fail
      go_ret3
      exact retX_err (k := 2) (by rw [HX.out, HE0.out, if_neg h5, if_pos h2]; rfl) B1
    · have h2i : ¬ (N : Int) - P - 8 < M := by omega
      have hr0 : r = [] := List.eq_nil_of_length_eq_zero (by have := S4.out; omega)
      subst hr0
      have hM0 : M = 0 := by have : ¬ 0 < M := h2; omega
      subst hM0
      have h2j : True := trivial
      have bw2 := (Below.refl w1.heap.size w1).alloc (Nat.le_refl _) (.cells #[] 5)
      have z2 := bw2.size
      have hsl := fun W => run_sl0 W ad N c ((P : Int) + 8) ((P : Int) + 8) (by have := HS2.out; omega) (by have := HS2.out; omega)
      have hq3 : RdB (w1.alloc (.cells #[] 5)) L (w1.alloc (.cells #[] 5)).heap.size (.slice (some ad) 0 0) (([] : List UInt8).take 0) := rdB_none _ _ _ _ _
      have P3b : True := trivial
      have HQ3 := Lib.hid hq3
      have O2 := Lib.hid (own_lit w1 [] (by unfold maxLen; simp) #[] rfl)
      have hrt : (([] : List UInt8).take 0).length = 0 := rfl
      have hl1 : ([] : List UInt8).length + (([] : List UInt8).take 0).length ≤ 70368744177664 := by first | (rw [hrt]; simp; done) | (rw [hrt]; simp; omega)
      have HRT := Lib.hid hrt
      have HL1 := Lib.hid hl1
      clear P3b hq3 hrt hl1
      go_wp2_with (at_builtin; (refine append_x _ rfl _ _ rfl w1.heap.size _ [] rfl O2.out (.slice (some ad) 0 0) (([] : List UInt8).take 0) _ _ rfl HQ3.out (by rintro n' c' h'; cases h') HL1.out z2 ?_); intro v3 w3 ho3 hb3; rw [List.nil_append] at ho3; have O3 := Lib.hid ho3; have O3n := Lib.hid ho3; have bw3 := bw2.trans hb3; have z3 := bw3.size; clear ho3)
      have B3 := B1.trans (bw3.mono B1.size)
      have z13 := B1.size
      have R3 := (RdB.of_own O3.out (by rw [HRT.out]; omega)).more (Nat.le_refl w3.heap.size) z13
      have RV3 := Lib.hid (fun X (hX : Below w3.heap.size w3 X) => R3.step hX (Nat.le_refl _))
      have RD1 := Lib.hid (fun X (hX : Below w3.heap.size w3 X) => P1.out.step (B3.trans (hX.mono B3.size)) (Nat.le_refl _))
      have RD2 := Lib.hid (fun X (hX : Below w3.heap.size w3 X) => P2.out.step (B3.trans (hX.mono B3.size)) (Nat.le_refl _))
      have HX3 := Lib.hid (show X = if crc ([b0, b1, b2, b3] ++ ([] : List UInt8).take 0) = num4 c0 c1 c2 c3 then (0, ([] : List UInt8).take 0, P + 8 + 0) else (4, [], 0) by
        rw [HX.out, HE0.out, if_neg h5, if_neg h2]
        by_cases hk : crc ([b0, b1, b2, b3] ++ ([] : List UInt8).take 0) = num4 c0 c1 c2 c3
        · rw [if_pos hk, if_pos hk]; rfl
        · rw [if_neg hk, if_neg hk]; rfl)
      have hPM : (P : Int) + 8 = ((P + 8 + 0 : Nat) : Int) := by omega
      have HPM := Lib.hid hPM
      have hln : ([b0, b1, b2, b3] ++ ([] : List UInt8).take 0).length ≤ 9223372036854775807 := by first | (rw [List.length_append, HRT.out]; simp; done) | (rw [List.length_append, HRT.out]; simp; omega)
      have hl8 : ([b0, b1, b2, b3] : List UInt8).length + (([] : List UInt8).take 0).length ≤ 70368744177664 := by first | (rw [HRT.out]; simp; done) | (rw [HRT.out]; simp; omega)
      have HLN := Lib.hid hln
      have HL8 := Lib.hid hl8
      have k1 : IntKind.i64.wrap ((P : Int) + 4) = (P : Int) + 4 := wrap_eq (by omega) (by omega)
      have k2 : IntKind.i64.wrap ((P : Int) + 8) = (P : Int) + 8 := wrap_eq (by omega) (by omega)
      have k3 : (P : Int) + 4 ≤ c := by omega
      have k4 : (P : Int) + 8 ≤ c := by omega
      have k5 : ((P : Int) + 4).toNat = P + 4 := by omega
      have k6 : ((P : Int) + 8).toNat = P + 8 := by omega
      have k7 : ¬ c = P := by omega
      have k8 : ¬ c = P + 4 := by omega
      have k9 : (0 : Int) ≤ (P : Int) + 4 := by omega
      have k10 : (0 : Int) ≤ (P : Int) + 8 := by omega
      have k11 : P + 8 - (P + 4) = 4 := by omega
      clear hPM hln hl8 R3 hsl HQ3 O2 O3 HL1 HX HE0 h2i h2j S3i S4i HV HN HP B1 bw2 bw3 z2 z3 h2 h5 h5i hrl
      have hsm := fun X v (h : RdB X w.heap.size X.heap.size v ([b0, b1, b2, b3] ++ ([] : List UInt8).take 0)) => rSum_any v ([b0, b1, b2, b3] ++ ([] : List UInt8).take 0) X w.heap.size X.heap.size h
      have hnm := fun X v (h : RdB X L X.heap.size v [c0, c1, c2, c3]) => rNumber_any v X L c0 c1 c2 c3 h
      have hkl := crc_lt ([b0, b1, b2, b3] ++ ([] : List UInt8).take 0)
      have hkl2 := num4_lt c0 c1 c2 c3
      generalize hK : crc ([b0, b1, b2, b3] ++ ([] : List UInt8).take 0) = K at *
      generalize hK2 : num4 c0 c1 c2 c3 = K2 at *
      have HSM := Lib.hid hsm
      have HNM := Lib.hid hnm
      clear hK hK2 hsm hnm
      generalize hbb : ([] : List UInt8).take 0 = rm at *
      clear hbb
      have hbz := fun X (h : Below w3.heap.size w3 X) => h.size
      go_region_law (first
        | (go_simp; go_at_call 30; refine (HNM.out _ _ (RD2.out _ (by (repeat' (first | (with_reducible exact Below.refl _ _) | (with_reducible assumption) | (with_reducible refine Below.alloc ?_ ?_ _) | (with_reducible refine Below.drew ?_) | (with_reducible refine Below.setCell ?_ ?_ _) | (with_reducible refine Below.trans ?_ (Below.mono (by assumption) ?_)) | go_size))))).mono ?_; rintro e wn ⟨rfl, hbn⟩; have hzn := hbn.size; (try simp only [World.size_alloc] at hzn))
        | (go_simp; go_at_call 10; refine (HSM.out _ _ (RdB.more (RdB.of_own (by first | exact OB.out | exact own_below OB.out hbn) HLN.out) (Nat.le_refl _) B3.size)).mono ?_; rintro e ws ⟨rfl, rfl⟩)
        | (refine step_append_x _ rfl _ _ rfl w3.heap.size _ [] rfl (by first | exact own_e w3 _ (by (repeat' (first | (with_reducible exact Below.refl _ _) | (with_reducible assumption) | (with_reducible refine Below.alloc ?_ ?_ _) | (with_reducible refine Below.drew ?_) | (with_reducible refine Below.setCell ?_ ?_ _) | (with_reducible refine Below.trans ?_ (Below.mono (by assumption) ?_)) | go_size))) | exact own_below (own_e w3 _ (by (repeat' (first | (with_reducible exact Below.refl _ _) | (with_reducible assumption) | (with_reducible refine Below.alloc ?_ ?_ _) | (with_reducible refine Below.drew ?_) | (with_reducible refine Below.setCell ?_ ?_ _) | (with_reducible refine Below.trans ?_ (Below.mono (by assumption) ?_)) | go_size)))) hbn) (.slice (some (ad.add P)) 4 (c - P)) [b0, b1, b2, b3] L _ rfl (RD1.out _ (by (repeat' (first | (with_reducible exact Below.refl _ _) | (with_reducible assumption) | (with_reducible refine Below.alloc ?_ ?_ _) | (with_reducible refine Below.drew ?_) | (with_reducible refine Below.setCell ?_ ?_ _) | (with_reducible refine Below.trans ?_ (Below.mono (by assumption) ?_)) | go_size)))) (by rintro n' c' h'; cases h') (by simp) (hbz _ (by (repeat' (first | (with_reducible exact Below.refl _ _) | (with_reducible assumption) | (with_reducible refine Below.alloc ?_ ?_ _) | (with_reducible refine Below.drew ?_) | (with_reducible refine Below.setCell ?_ ?_ _) | (with_reducible refine Below.trans ?_ (Below.mono (by assumption) ?_)) | go_size)))) ?_; intro va wa hoa hba; rw [List.nil_append] at hoa; have OA := Lib.hid hoa; have hza := hba.size; (try simp only [World.size_alloc] at hza); clear hoa)
        | (refine step_append_x _ rfl _ _ rfl w3.heap.size _ [b0, b1, b2, b3] rfl (by first | exact OA.out | exact own_below OA.out hbn) v3 rm w.heap.size _ rfl (RV3.out _ (by (repeat' (first | (with_reducible exact Below.refl _ _) | (with_reducible assumption) | (with_reducible refine Below.alloc ?_ ?_ _) | (with_reducible refine Below.drew ?_) | (with_reducible refine Below.setCell ?_ ?_ _) | (with_reducible refine Below.trans ?_ (Below.mono (by assumption) ?_)) | go_size)))) (own_not_none O3n.out) HL8.out (hbz _ (by (repeat' (first | (with_reducible exact Below.refl _ _) | (with_reducible assumption) | (with_reducible refine Below.alloc ?_ ?_ _) | (with_reducible refine Below.drew ?_) | (with_reducible refine Below.setCell ?_ ?_ _) | (with_reducible refine Below.trans ?_ (Below.mono (by assumption) ?_)) | go_size)))) ?_; intro vb wb hob hbb; have OB := Lib.hid hob; have hzb := hbb.size; (try simp only [World.size_alloc] at hzb); clear hob))
      have BA : Below w3.heap.size w3 ws := Below.trans (Below.trans (by (repeat' (first | (with_reducible exact Below.refl _ _) | (with_reducible assumption) | (with_reducible refine Below.alloc ?_ ?_ _) | (with_reducible refine Below.drew ?_) | (with_reducible refine Below.setCell ?_ ?_ _) | (with_reducible refine Below.trans ?_ (Below.mono (by assumption) ?_)) | go_size))) hba) hbb
      have BF : Below w3.heap.size w3 wn := BA.trans (hbn.mono BA.size)
      have BW := B3.trans (BF.mono B3.size)
      by_cases h4 : K = K2
      · subst h4
        have HX4 := Lib.hid (show X = (0, rm, P + 8 + 0) by rw [HX3.out, if_pos rfl])
        go_wp2_with fail
        go_ret3
        rw [HX4.out]
        exact ⟨_, by rw [← HPM.out]; rfl, RV3.out _ BF, BW⟩
      · have h4i : ¬ (K : Int) = (K2 : Int) := by omega
        have HX4 := Lib.hid (show X = (4, [], 0) by rw [HX3.out, if_neg h4])
        go_wp2_with fail
        go_ret3
        exact retX_err (k := 4) HX4.out BW
end Go.Proofs.YtkhdfjneibnlmaaDoor
