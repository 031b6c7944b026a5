/-
  Rows of bytes that a call makes: what append, appendWord and slices.Grow leave. Conditions: lengths.
-/
import Derived.Test.YtclpemmpckjemaaDoorTopFrC
import Derived.Test.YtclpemmpckjemaaDoorShelf
import Derived.Test.YtclpemmpckjemaaDoorBlk
import Derived.Laws.AppendOwn
import Derived.Laws.AppendOwnNone
import Derived.Shelf.Spec.SlicesGrow
import Derived.WalkKit
import Derived.WalkSpells
import Derived.WalkLawsBesides
import Derived.Deep.QuietTactic
import Derived.BigQuiet
import Derived.Handy
import Derived.Lib.Hide
namespace Go.Proofs.YtclpemmpckjemaaDoor.Fr
open Go.RowKit

def bytV (l : List UInt8) : List Value := l.map fun b => .int .u8 (b.toNat : Nat)
theorem bytV_len (l : List UInt8) : (bytV l).length = l.length := by unfold bytV; rw [List.length_map]
theorem bytV_app (l m : List UInt8) : bytV (l ++ m) = bytV l ++ bytV m := by unfold bytV; rw [List.map_append]
theorem infoB : (Tryd.prog.info? 5).map (fun i => (i.zero, i.size, i.bytes)) = some (some (.int .u8 0), 1, 1) := by kernel_rfl
theorem info_partsB {t : TypeId} {z : Value} {a b : Nat} (h : (Tryd.prog.info? t).map (fun i => (i.zero, i.size, i.bytes)) = some (some z, a, b)) : ∃ i, Tryd.prog.info? t = some i ∧ i.zero = some z ∧ i.size = a ∧ i.bytes = b := by
  cases hi : Tryd.prog.info? t with
  | none => rw [hi] at h; cases h
  | some i =>
    rw [hi] at h
    simp only [Option.map_some, Option.some.injEq, Prod.mk.injEq] at h
    exact ⟨i, rfl, h.1, h.2.1, h.2.2⟩
theorem RdB.of_own {w : World} {base : Nat} {v : Value} {l : List UInt8} (h : w.ownsRow base 5 1 v l.length (bytV l)) (hl : l.length ≤ 9223372036854775807) : RdB w base w.heap.size v l := by
  rcases h.2 with ⟨rfl, h0⟩ | ⟨g, cap, cur, rfl, hb, hh, hn, hc, hs, ht⟩
  · obtain rfl := List.eq_nil_of_length_eq_zero h0
    exact ⟨none, 0, rfl, hl, Nat.le_refl _, fun k n hk => by simp at hk⟩
  · have hg : g < w.heap.size := by
      rcases Nat.lt_or_ge g w.heap.size with h1 | h1
      · exact h1
      · rw [Array.getElem?_eq_none h1] at hh; cases hh
    refine ⟨_, cap, rfl, hl, hn, fun k n hk => ⟨_, rfl, hb, hg, ?_⟩⟩
    have hkl : k < l.length := (List.getElem?_eq_some_iff.1 hk).1
    have e : w.cell? ⟨g, k, none⟩ = cur[k]? := cell_of_row w g k cur _ _ hh
    have hv : (bytV l)[k]? = some (.int .u8 (n.toNat : Nat)) := by unfold bytV; rw [List.getElem?_map, hk]; rfl
    have e2 : w.cell? ⟨g, k, none⟩ = some (.int .u8 (n.toNat : Nat)) := by rw [e, ← hv, ← ht, ← Array.getElem?_toList, List.getElem?_take, if_pos (by omega)]
    unfold Addr.add
    split
    · rename_i h; subst h; exact e2
    · simpa using e2
theorem own_below {W w1 : World} {base e size n : Nat} {v : Value} {xs : List Value} (h : W.ownsRow base e size v n xs) (hb : Below W.heap.size W w1) : w1.ownsRow base e size v n xs :=
  h.kept (row := none) ⟨hb.os, hb.tape, hb.output, hb.size, fun j hj _ => hb.block j hj⟩ (by cases hv : v.ownBlock <;> simp)
theorem append_b {ops : Array Oper} {rest : List Oper} {o : Oper} {a : Act} {Q : Exit → Act → World → Prop} (W : World) (hgd : o.guard = none) (s x : Operand)
    (ho : o.op = .call { callee := .builtin .append, args := #[s, x], argTypes := #[26, 26] }) (base : Nat) (v : Value) (l : List UInt8) (hs : a.eval s = v)
    (hown : W.ownsRow base 5 1 v l.length (bytV l)) (ad : Addr) (c : Nat) (m : List UInt8) (hx : a.eval x = .slice (some ad) m.length c)
    (hnew : ∀ (j : Nat) b, m[j]? = some b → W.cell? (ad.add j) = some (.int .u8 (b.toNat : Nat))) (hl : l.length + m.length ≤ 70368744177664) (hbase : base ≤ W.heap.size)
    (h : ∀ v' w', w'.ownsRow base 5 1 v' (l ++ m).length (bytV (l ++ m)) → Below base W w' → wpList Tryd.prog ops Q rest (a.put o.dst v') w') :
    wpList Tryd.prog ops Q (o :: rest) a W := by
  obtain ⟨i0, hi, hz0, hz1, hz2⟩ := info_partsB infoB
  refine wpList_append_own _ hgd s x 26 ho base 5 i0 (.int .u8 0) 1 1 Tryd.underlying26 hi hz0 hz1 hz2 rfl (by decide) v l.length (bytV l) hs hown ad m.length c (bytV m) hx (by rw [bytV_len]; omega)
    ?_ ?_ (by unfold maxLen; omega) (by omega) hbase ?_
  · intro j u hu
    unfold bytV at hu
    rw [List.getElem?_map, Option.map_eq_some_iff] at hu
    obtain ⟨b, hb, rfl⟩ := hu
    exact hnew j b hb
  · intro u hu
    unfold bytV at hu
    rw [List.mem_map] at hu
    obtain ⟨b, _, rfl⟩ := hu
    rfl
  · intro v' w' h1 h2 _
    exact h v' w' (by rw [bytV_app, List.length_append]; exact h1) ((Below.refl _ _).grown h2 hbase fun k hk => (hown.lt k hk).1)
def RetB (base : Nat) (w : World) (l : List UInt8) (e : Ending) (w' : World) : Prop := ∃ v, e = .returned v ∧ w'.ownsRow base 5 1 v l.length (bytV l) ∧ Below base w w'
theorem grow_b (l : List UInt8) (v : Value) (n : Nat) (w : World) (L B : Nat) (A : Option Addr) (hv : v = .slice A l.length l.length) (hr : RdB w L B v l) (hn : 0 < n) (hl : l.length + n ≤ 70368744177664) :
    Calls Tryd.prog 17 #[v, .int .i64 n] w (RetB w.heap.size w l) := by
  subst hv
  obtain ⟨i0, hi, hz0, hz1, hz2⟩ := info_partsB infoB
  have hA : A = none → l = [] := fun e => by
    cases l with
    | nil => rfl
    | cons b t => obtain ⟨ad, h1, _⟩ := hr.at (k := 0) rfl; rw [e] at h1; cases h1
  have h := Any8.slices_Grow_grow Tryd.growB i0 (.int .u8 0) hi hz0 (by omega) A l.length l.length n (bytV l) w (Nat.le_refl _) (by omega) (by rw [hz2]; omega) (by omega) (by rw [bytV_len, hz1]; omega) (fun e => by rw [hA e]; rfl) (fun a ha j u hu => by
    subst ha
    unfold bytV at hu
    rw [List.getElem?_map, Option.map_eq_some_iff] at hu
    obtain ⟨b, hb, rfl⟩ := hu
    obtain ⟨ad, h1, _, _, h2⟩ := hr.at hb
    injection h1 with h1; subst h1
    exact h2)
  refine Calls.mono h ?_
  rintro e w' ⟨rfl, rfl⟩
  have hge := grownCap_ge w (l.length + n) l.length (Tryd.growB_ren.t 25)
  have hcm := grownCap_le_maxLen w (l.length + n) l.length (Tryd.growB_ren.t 25) (by unfold maxLen; omega)
  generalize grownCap w (l.length + n) l.length (Tryd.growB_ren.t 25) = G at *
  refine ⟨_, rfl, ⟨by rw [bytV_len]; omega, .inr ⟨w.heap.size, _, _, rfl, Nat.le_refl _, heap_alloc_new w.drew _, by omega, hcm, ?_, ?_⟩⟩, (Below.drew (Below.refl _ _)).alloc (by simp) _⟩
  · simp only [Array.size_append, List.size_toArray, size_zeroCells, bytV_len]
    have hz : (Value.int .u8 0).cells.size = 1 := rfl
    rw [hz]
    omega
  · simp only [Array.toList_append, List.append_assoc]
    rw [Nat.mul_one, List.take_append_of_le_length (by rw [bytV_len]; omega), List.take_of_length_le (by rw [bytV_len]; omega)]
/-- A number as four bytes. -/
def be4 (n : Nat) : List UInt8 := [UInt8.ofNat (n / 16777216), UInt8.ofNat (n / 65536), UInt8.ofNat (n / 256), UInt8.ofNat n]
theorem ofNat_int (k : Nat) : ((UInt8.ofNat k).toNat : Int) = (k : Int) % 256 := by
  rw [UInt8.toNat_ofNat']; omega
theorem be4_cells (w : World) (n : Nat) (hn : n < 4294967296) (j : Nat) (b : UInt8) (h : (be4 n)[j]? = some b) :
    (w.alloc (.cells #[.int .u8 ((n : Int) / 16777216), .int .u8 ((n : Int) / 65536 % 256), .int .u8 ((n : Int) / 256 % 256), .int .u8 ((n : Int) % 256)] 5)).cell? ((⟨w.heap.size, 0, none⟩ : Addr).add j) = some (.int .u8 (b.toNat : Nat)) := by
  have o := Own.new w 5 #[.int .u8 ((n : Int) / 16777216), .int .u8 ((n : Int) / 65536 % 256), .int .u8 ((n : Int) / 256 % 256), .int .u8 ((n : Int) % 256)]
  have ha : (⟨w.heap.size, 0, none⟩ : Addr).add j = ⟨w.heap.size, j, none⟩ := by unfold Addr.add; split <;> simp_all
  rw [ha, o.cell j]
  have hj : j < 4 := (List.getElem?_eq_some_iff.1 h).1
  have hj4 : j = 0 ∨ j = 1 ∨ j = 2 ∨ j = 3 := by omega
  unfold be4 at h
  rcases hj4 with rfl | rfl | rfl | rfl
  · have e : UInt8.ofNat (n / 16777216) = b := by simpa using h
    rw [← e, ofNat_int, Int.natCast_ediv]
    show some (Value.int .u8 ((n : Int) / 16777216)) = _
    rw [show ((n : Int) / ((16777216 : Nat) : Int)) % 256 = (n : Int) / 16777216 by omega]
  · have e : UInt8.ofNat (n / 65536) = b := by simpa using h
    rw [← e, ofNat_int, Int.natCast_ediv]; rfl
  · have e : UInt8.ofNat (n / 256) = b := by simpa using h
    rw [← e, ofNat_int, Int.natCast_ediv]; rfl
  · have e : UInt8.ofNat n = b := by simpa using h
    rw [← e, ofNat_int]; rfl
set_option maxHeartbeats 400000 in
theorem aword_any (n : Nat) (l : List UInt8) (v : Value) (w : World) (base : Nat) (hb : base ≤ w.heap.size) (hn : n < 4294967296) (hl : l.length ≤ 35184372088832) (hown : w.ownsRow base 5 1 v l.length (bytV l)) :
    Calls Tryd.prog 19 #[v, .int .u32 n] w (RetB base w (l ++ be4 n)) := by
  have hc := fun j b h => be4_cells w n hn j b h
  have HC := Lib.hid hc
  have HO := Lib.hid (World.ownsRow.alloc hown (.cells #[.int .u8 ((n : Int) / 16777216), .int .u8 ((n : Int) / 65536 % 256), .int .u8 ((n : Int) / 256 % 256), .int .u8 ((n : Int) % 256)] 5))
  clear hc hown
  go_enter Tryd.func19, Tryd.ntmps19
  go_wp2_with (at_builtin; refine append_b _ rfl _ _ rfl base v l rfl HO.out ⟨w.heap.size, 0, none⟩ 4 (be4 n) rfl HC.out (by simp [be4]; omega) (by simp; omega) ?_; intro v1 w1 hown1 hb1)
  go_ret
  exact ⟨_, rfl, hown1, ((Below.refl _ _).alloc hb _).trans hb1⟩
end Go.Proofs.YtclpemmpckjemaaDoor.Fr
