/-
  The reference's four, number, Len and Append: what each function answers. Conditions: lengths.
-/
import Derived.Test.YtkhdfjneibnlmaaDoorFrI
import Derived.WalkKit
import Derived.WalkSpells
import Derived.WalkLawsBesides
import Derived.Deep.QuietTactic
import Derived.BigQuiet
import Derived.Handy
import Derived.Lib.Hide
namespace Go.Proofs.YtkhdfjneibnlmaaDoor
open Go.RowKit

theorem append_x {ops : Array Oper} {rest : List Oper} {o : Oper} {a : Act} {Q : Exit → Act → World → Prop} (W : World) (hgd : o.guard = none) (s x : Operand)
    (ho : o.op = .call { callee := .builtin .append, args := #[s, x], argTypes := #[22, 22] }) (base : Nat) (v : Value) (l : List UInt8) (hs : a.eval s = v)
    (hown : W.ownsRow base 5 1 v l.length (bytV l)) (u : Value) (m : List UInt8) (L B : Nat) (hx : a.eval x = u) (hr : RdB W L B u m) (hun : ∀ n c, u = .slice none n c → c = 0) (hl : l.length + m.length ≤ 70368744177664) (hbase : base ≤ W.heap.size)
    (h : ∀ v' w', w'.ownsRow base 5 1 v' (l ++ m).length (bytV (l ++ m)) → Below base W w' → wpList Tryd.prog ops Q rest (a.put o.dst v') w') :
    wpList Tryd.prog ops Q (o :: rest) a W := by
  have hr0 := hr
  obtain ⟨A, c, rfl, _⟩ := hr
  cases A with
  | none =>
    have hm0 : m = [] := by
      cases m with
      | nil => rfl
      | cons b t => obtain ⟨ad, h1, _⟩ := hr0.at (k := 0) rfl; cases h1
    subst hm0
    obtain rfl := hun _ _ rfl
    obtain ⟨i0, hi, _, _, _⟩ := info_partsB infoB
    refine wpList_append_own_none hgd s x 22 ho base 5 i0 1 Tryd.underlying22 hi v _ _ hs hown hx ?_
    exact h v W (by rw [List.append_nil]; exact hown) (Below.refl _ _)
  | some ad =>
    exact append_b W hgd s x ho base v l hs hown ad c m hx (fun j b hj => by
      obtain ⟨ad2, h1, _, _, h4⟩ := hr0.at hj
      injection h1 with h1; subst h1; exact h4) hl hbase h
theorem own_lit (w : World) (l : List UInt8) (hl : l.length ≤ maxLen) (c : Array Value) (hc : c = (bytV l).toArray) : (w.alloc (.cells c 5)).ownsRow w.heap.size 5 1 (.slice (some ⟨w.heap.size, 0, none⟩) l.length l.length) l.length (bytV l) := by
  subst hc
  exact ownsRow_of_own (Own.new w _ _) (Nat.le_refl _) hl
theorem be4_val (n : Nat) (hn : n < 4294967296) : (#[.int .u8 ((n : Int) / 16777216), .int .u8 ((n : Int) / 65536 % 256), .int .u8 ((n : Int) / 256 % 256), .int .u8 ((n : Int) % 256)] : Array Value) = (bytV (be4 n)).toArray := by
  show _ = #[Value.int .u8 ((UInt8.ofNat (n / 16777216)).toNat : Int), .int .u8 ((UInt8.ofNat (n / 65536)).toNat : Int), .int .u8 ((UInt8.ofNat (n / 256)).toNat : Int), .int .u8 ((UInt8.ofNat n).toNat : Int)]
  rw [ofNat_int, ofNat_int, ofNat_int, ofNat_int, Int.natCast_ediv, Int.natCast_ediv, Int.natCast_ediv]
  congr 3
  omega
set_option maxHeartbeats 800000 in
theorem rFour_any (n : Nat) (hn : n < 4294967296) (w : World) : Calls Tryd.prog 28 #[.int .u32 n] w (RetB w.heap.size w (be4 n)) := by
  have hO := own_lit w (be4 n) (by unfold maxLen; simp [be4]) _ (be4_val n hn)
  have HO := Lib.hid hO
  clear hO
  have hb := (Below.refl w.heap.size w).alloc (Nat.le_refl _) (.cells #[.int .u8 ((n : Int) / 16777216), .int .u8 ((n : Int) / 65536 % 256), .int .u8 ((n : Int) / 256 % 256), .int .u8 ((n : Int) % 256)] 5)
  go_enter Tryd.func28, Tryd.ntmps28
  go_wp2
  go_ret
  exact ⟨_, rfl, HO.out, hb⟩
set_option maxHeartbeats 800000 in
theorem rNumber_any (v : Value) (w : World) (L : Nat) (b0 b1 b2 b3 : UInt8) (hv : RdB w L w.heap.size v [b0, b1, b2, b3]) :
    Calls Tryd.prog 30 #[v] w fun e w' => e = .returned (.int .u32 (num4 b0 b1 b2 b3 : Nat)) ∧ Below w.heap.size w w' := by
  have hv0 := hv
  obtain ⟨A, c, rfl, hl63, _, _⟩ := hv
  obtain ⟨ad, rfl, _, hB, h0⟩ := hv0.at (k := 0) (b := b0) rfl
  obtain ⟨ad1, e1, _, _, h1⟩ := hv0.at (k := 1) (b := b1) rfl
  obtain ⟨ad2, e2, _, _, h2⟩ := hv0.at (k := 2) (b := b2) rfl
  obtain ⟨ad3, e3, _, _, h3⟩ := hv0.at (k := 3) (b := b3) rfl
  injection e1 with e1; injection e2 with e2; injection e3 with e3
  subst e1 e2 e3
  have k0 := b0.toNat_lt; have k1 := b1.toNat_lt; have k2 := b2.toNat_lt; have k3 := b3.toNat_lt
  clear hv0
  have f0 := after_cell (a := ad) hB (show w.cell? ad = _ from by rw [show ad.add 0 = ad by unfold Addr.add; simp] at h0; exact h0)
  have f1 := after_cell (a := ⟨ad.block, ad.off + 1, none⟩) hB (show w.cell? ⟨ad.block, ad.off + 1, none⟩ = _ from by rw [show ad.add 1 = ⟨ad.block, ad.off + 1, none⟩ by unfold Addr.add; simp] at h1; exact h1)
  have f2 := after_cell (a := ⟨ad.block, ad.off + 2, none⟩) hB (show w.cell? ⟨ad.block, ad.off + 2, none⟩ = _ from by rw [show ad.add 2 = ⟨ad.block, ad.off + 2, none⟩ by unfold Addr.add; simp] at h2; exact h2)
  have f3 := after_cell (a := ⟨ad.block, ad.off + 3, none⟩) hB (show w.cell? ⟨ad.block, ad.off + 3, none⟩ = _ from by rw [show ad.add 3 = ⟨ad.block, ad.off + 3, none⟩ by unfold Addr.add; simp] at h3; exact h3)
  go_enter Tryd.func30, Tryd.ntmps30
  go_wp2_with fail
  (refine wp_region_after (by kernel_rfl) (by kernel_rfl) ?_; (repeat (go_big_quiet_step (fail))); refine wpQuiet_nil ?_; intro wq hw0; obtain ⟨⟨wq0, hbq⟩, hw1⟩ := hw0; subst hw1; (try dsimp only))
  go_wp2
  go_ret
  exact ⟨by unfold num4; first | rfl | (congr 2; omega) | (simp; omega), hbq⟩
set_option maxHeartbeats 400000 in
theorem rLen_any (n : Int) (w : World) : Calls Tryd.prog 16 #[.int .i64 n] w fun e w' => e = .returned (.int .i64 (lenF n)) ∧ w' = w := by
  unfold lenF
  by_cases h1 : n < 0
  · rw [if_pos (.inl h1)]
    go_enter Tryd.func16, Tryd.ntmps16
    go_wp2
    go_ret
    exact ⟨rfl, rfl⟩
  · by_cases h2 : n > 1048576
    · rw [if_pos (.inr h2)]
      go_enter Tryd.func16, Tryd.ntmps16
      go_wp2
      go_ret
      exact ⟨rfl, rfl⟩
    · rw [if_neg (by omega), Int.add_comm]
      go_enter Tryd.func16, Tryd.ntmps16
      go_wp2
      go_ret
      exact ⟨rfl, rfl⟩
end Go.Proofs.YtkhdfjneibnlmaaDoor
