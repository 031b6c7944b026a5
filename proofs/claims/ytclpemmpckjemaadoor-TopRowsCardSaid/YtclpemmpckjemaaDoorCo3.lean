/-
  The program's appendInt and PutInt: what each answers. Conditions: numbers of 64 bits; lengths.
-/
import Derived.Test.YtclpemmpckjemaaDoorCo2
import Derived.ArgAppend
import Derived.Outline
import Derived.WalkKit
import Derived.WalkSpells
import Derived.WalkLawsBesides
import Derived.Deep.QuietTactic
import Derived.BigQuiet
import Derived.Handy
import Derived.Lib.Hide
namespace Go.Proofs.YtclpemmpckjemaaDoor
open Go.RowKit

/-- A row of the call's own, or an argument cut to its length. -/
def Buf (w : World) (base : Nat) (v : Value) (l : List UInt8) : Prop :=
  w.ownsRow base 5 1 v l.length (bytV l) ∨ ∃ A, v = .slice A l.length l.length ∧ RdB w 0 base v l
theorem Buf.step {w w' : World} {base : Nat} {v : Value} {l : List UInt8} (h : Buf w base v l) (hb : Below w.heap.size w w') (hz : base ≤ w.heap.size) : Buf w' base v l := by
  rcases h with h | ⟨A, h1, h2⟩
  · exact .inl (own_below h hb)
  · exact .inr ⟨A, h1, h2.below (hb.mono hz)⟩
theorem append_buf {ops : Array Oper} {rest : List Oper} {o : Oper} {a : Act} {Q : Exit → Act → World → Prop} (W : World) (hgd : o.guard = none) (s x : Operand)
    (ho : o.op = .call { callee := .builtin .append, args := #[s, x], argTypes := #[26, 26] }) (base : Nat) (v : Value) (l : List UInt8) (hs : a.eval s = v)
    (hB : Buf W base v l) (u : Value) (m : List UInt8) (L B : Nat) (hx : a.eval x = u) (hr : RdB W L B u m) (hm : 0 < m.length) (hl : l.length + m.length ≤ 140737488355328) (hbase : base ≤ W.heap.size)
    (h : ∀ v' w', w'.ownsRow base 5 1 v' (l ++ m).length (bytV (l ++ m)) → Below base W w' → wpList Tryd.prog ops Q rest (a.put o.dst v') w') :
    wpList Tryd.prog ops Q (o :: rest) a W := by
  rcases hB with hB | ⟨A, hv, hrv⟩
  · refine append_x W hgd s x ho base v l hs hB u m L B hx hr ?_ hl hbase h
    intro n c e
    obtain ⟨A, c', rfl, _, _, hx2⟩ := hr
    injection e with e1 e2 e3
    subst e1
    obtain ⟨ad, h1, _⟩ := hx2 0 _ (List.getElem?_eq_getElem hm)
    cases h1
  · have hr0 := hr
    obtain ⟨A2, c2, rfl, _, _, _⟩ := hr
    obtain ⟨ad, e1, _⟩ := hr0.at (k := 0) (List.getElem?_eq_getElem hm)
    subst e1
    obtain ⟨i0, hi, hz0, hz1, hz2⟩ := info_partsB infoB
    have hnone : A = none → l.length = 0 ∧ l.length = 0 := by
      intro e
      subst hv e
      cases l with
      | nil => exact ⟨rfl, rfl⟩
      | cons b t => obtain ⟨ad3, h1, _⟩ := hrv.at (k := 0) rfl; cases h1
    refine wpList_append_grows W hgd s x 26 ho 5 i0 (.int .u8 0) 1 1 Tryd.underlying26 hi hz0 hz1 hz2 rfl (by decide) A l.length l.length (bytV l) (hs.trans hv) hnone (by rw [bytV_len]; omega) ?_
      ad m.length c2 (bytV m) hx (by rw [bytV_len]; omega) ?_ ?_ (by omega) (by unfold maxLen; omega) (by omega) ?_
    · intro b hb j y hy
      subst hv hb
      unfold bytV at hy
      rw [List.getElem?_map, Option.map_eq_some_iff] at hy
      obtain ⟨q, hq, rfl⟩ := hy
      obtain ⟨ad3, h1, _, _, h4⟩ := hrv.at hq
      injection h1 with h1; subst h1; exact h4
    · intro j y hy
      unfold bytV at hy
      rw [List.getElem?_map, Option.map_eq_some_iff] at hy
      obtain ⟨q, hq, rfl⟩ := hy
      obtain ⟨ad3, h1, _, _, h4⟩ := hr0.at hq
      injection h1 with h1; subst h1; exact h4
    · intro y hy
      unfold bytV at hy
      rw [List.mem_map] at hy
      obtain ⟨b, _, rfl⟩ := hy
      rfl
    · intro v' w' h1 h2
      exact h v' w' (by rw [bytV_app, List.length_append]; exact ownsRow_low h1 hbase) ((Below.refl _ _).grown h2 hbase fun k hk => by cases hk)
theorem rdB_byte (w : World) (X : Int) (b : UInt8) (hX : X = (b.toNat : Int)) : RdB (w.alloc (.cells #[.int .u8 X] 5)) 0 (w.alloc (.cells #[.int .u8 X] 5)).heap.size (.slice (some ⟨w.heap.size, 0, none⟩) 1 1) [b] := by
  subst hX
  exact rdB_cells (l := [b]) (heap_mark w _) rfl (by simp)
theorem rdB_bytes (w : World) (C : Array Value) (l : List UInt8) (hC : C = (bytV l).toArray) (n : Nat) (hn : n = l.length) (hl : l.length ≤ 9223372036854775807) : RdB (w.alloc (.cells C 5)) 0 (w.alloc (.cells C 5)).heap.size (.slice (some ⟨w.heap.size, 0, none⟩) n n) l := by
  subst hn
  exact rdB_cells (l := l) (heap_mark w _) hC hl
/-- A number in groups of seven bits, the least first. -/
def vint (z : Nat) : List UInt8 := if z < 128 then [UInt8.ofNat z] else UInt8.ofNat (z % 128 + 128) :: vint (z / 128)
termination_by z
decreasing_by omega
theorem vint_last {z : Nat} (h : z < 128) : vint z = [UInt8.ofNat z] := by rw [vint, if_pos h]
theorem vint_more {z : Nat} (h : ¬ z < 128) : vint z = UInt8.ofNat (z % 128 + 128) :: vint (z / 128) := by rw [vint, if_neg h]
theorem vint_len : ∀ (k z : Nat), z < 128 ^ (k + 1) → (vint z).length ≤ k + 1 := by
  intro k
  induction k with
  | zero => intro z h; rw [vint_last (by simpa using h)]; simp
  | succ k ih =>
    intro z h
    by_cases h1 : z < 128
    · rw [vint_last h1]; simp
    · rw [vint_more h1, List.length_cons]
      have := ih (z / 128) (by rw [Nat.pow_succ] at h; omega)
      omega
theorem vint_len10 {z : Nat} (h : z < 18446744073709551616) : (vint z).length ≤ 10 := vint_len 9 z (Nat.lt_of_lt_of_le h (by decide))
theorem ofNat_lt {k : Nat} (h : k < 256) : ((UInt8.ofNat k).toNat : Int) = (k : Int) := by rw [UInt8.toNat_ofNat']; omega
set_option maxRecDepth 100000 in
set_option maxHeartbeats 3200000 in
theorem appendInt_any (v : Value) (l : List UInt8) (n : Int) (hn : I64 n) (w : World) (base : Nat) (hB : Buf w base v l) (hz : base ≤ w.heap.size) (hl : l.length ≤ 140737488355300) :
    Calls Tryd.prog 21 #[v, .int .i64 n] w (RetB base w (l ++ vint (zig n))) := by
  have hzl := zig_lt hn
  have hZ := zigzag_any n hn w
  have hv10 := vint_len10 hzl
  generalize hZZ : zig n = Z at *
  have HB := Lib.hid hB
  have HV10 := Lib.hid hv10
  clear hB hZZ hn hv10
  go_enter Tryd.func21, Tryd.ntmps21
  go_wp2_with fail
  with_reducible refine hZ.mono ?_
  rintro e w0 ⟨rfl, rfl⟩
  clear hZ
  go_wp2_with fail
  go_loopw [0, 5] (fun b z wr => ∃ (dn : List UInt8) (zz : Nat), z = .int .u64 zz ∧ zz < 18446744073709551616 ∧ Hid (Buf wr base b (l ++ dn)) ∧ Hid (dn ++ vint zz = vint Z) ∧ Below base w0 wr ∧ base ≤ wr.heap.size) (fun _ z _ => (intOf z).toNat)
  case atStart => exact ⟨[], Z, rfl, hzl, Lib.hid (by rw [List.append_nil]; exact HB.out), Lib.hid rfl, Below.refl _ _, hz⟩
  case round =>
    obtain ⟨dn, zz, rfl, hzz, HBw, HD, hbr, hbz⟩ := hrel
    have hdl : (l ++ dn).length + 1 ≤ 140737488355328 := by
      have h1 := congrArg List.length HD.out
      rw [List.length_append] at h1
      have := HV10.out
      rw [List.length_append]
      omega
    have HDL := Lib.hid hdl
    clear hdl
    by_cases hlt : zz < 128
    · have hlti : (zz : Int) < 128 := by omega
      have HE := Lib.hid (show l ++ dn ++ [UInt8.ofNat zz] = l ++ vint Z by rw [← HD.out, vint_last hlt, List.append_assoc])
      have hby := ofNat_lt (show zz < 256 by omega)
      have hal := HBw.out.step (bel_mark wr (.cells #[.int .u8 (zz : Nat)] 5)) hbz
      have hrb := rdB_byte wr (zz : Nat) (UInt8.ofNat zz) hby.symm
      have HAL := Lib.hid hal
      have HRB := Lib.hid hrb
      have hzb := Nat.le_trans hbz (bel_mark wr (.cells #[.int .u8 (zz : Nat)] 5)).size
      have HB1 := Lib.hid (hbr.trans ((bel_mark wr (.cells #[.int .u8 (zz : Nat)] 5)).mono hbz))
      clear hal hrb hby
      go_wp2_with (at_builtin; refine append_buf _ rfl _ _ rfl base _ (l ++ dn) rfl HAL.out _ [UInt8.ofNat zz] _ _ rfl HRB.out (by simp) (by exact HDL.out) hzb ?_; intro v2 w2 ho2 hb2)
      go_ret
      rw [HE.out] at ho2
      exact ⟨_, rfl, ho2, HB1.out.trans hb2⟩
    · have hlti : ¬ (zz : Int) < 128 := by omega
      have HD2 := Lib.hid (show (dn ++ [UInt8.ofNat (zz % 128 + 128)]) ++ vint (zz / 128) = vint Z by rw [← HD.out, vint_more hlt, List.append_assoc]; rfl)
      have hby := ofNat_lt (show zz % 128 + 128 < 256 by omega)
      have hbx : ((zz % 128 + 128 : Nat) : Int) = (zz : Int) % 128 + 128 := by omega
      rw [hbx] at hby
      have hal := HBw.out.step (bel_mark wr (.cells #[.int .u8 ((zz : Int) % 128 + 128)] 5)) hbz
      have hrb := rdB_byte wr ((zz : Int) % 128 + 128) (UInt8.ofNat (zz % 128 + 128)) hby.symm
      have HAL := Lib.hid hal
      have HRB := Lib.hid hrb
      have hzb := Nat.le_trans hbz (bel_mark wr (.cells #[.int .u8 ((zz : Int) % 128 + 128)] 5)).size
      have HB1 := Lib.hid (hbr.trans ((bel_mark wr (.cells #[.int .u8 ((zz : Int) % 128 + 128)] 5)).mono hbz))
      clear hal hrb hby hbx
      go_wp2_with (at_builtin; refine append_buf _ rfl _ _ rfl base _ (l ++ dn) rfl HAL.out _ [UInt8.ofNat (zz % 128 + 128)] _ _ rfl HRB.out (by simp) (by exact HDL.out) hzb ?_; intro v2 w2 ho2 hb2)
      go_round
      case rel => exact ⟨dn ++ [UInt8.ofNat (zz % 128 + 128)], zz / 128, by go_num, by omega, Lib.hid (.inl (by rw [← List.append_assoc]; exact ho2)), HD2, HB1.out.trans hb2, Nat.le_trans hzb hb2.size⟩
      case measure => simp [intOf]; omega
end Go.Proofs.YtclpemmpckjemaaDoor
