/-
  equal of the statements: what it answers where both sides hold the same bytes; the walk of CodecInts. Conditions: lengths, numbers of 64 bits.
-/
import Derived.Test.YtomiegfblhhhpaaCoW
import Derived.Test.YtomiegfblhhhpaaCo6
import Derived.WalkKit
import Derived.WalkSpells
import Derived.WalkLawsBesides
import Derived.Deep.QuietTactic
import Derived.BigQuiet
import Derived.Handy
import Derived.Lib.Hide
namespace Go.Proofs.Ytomiegfblhhhpaa
open Go.RowKit

set_option maxHeartbeats 800000 in
theorem equal_any (v u : Value) (l : List UInt8) (w : World) (L B L2 B2 : Nat) (hv : RdB w L B v l) (hu : RdB w L2 B2 u l) : Calls Try.prog 13 #[v, u] w fun e w' => e = .returned (.bool true) ∧ w' = w := by
  have h1 := conv_rdB hv
  have h2 := conv_rdB hu
  generalize ByteArray.mk l.toArray = s at *
  obtain ⟨A, c, rfl, _⟩ := hv
  obtain ⟨A2, c2, rfl, _⟩ := hu
  go_enter Try.func13, Try.ntmps13
  go_wp2
  go_ret
  exact ⟨by simp, rfl⟩
set_option maxRecDepth 100000 in
set_option maxHeartbeats 6400000 in
theorem law_ints (v : Value) (l : List UInt8) (n i : Int) (w : World) (L : Nat) (hv : RdB w L w.heap.size v l) (hvn : ∀ n c, v = .slice none n c → c = 0) (hn : I64 n) (hl : l.length ≤ 140737488355300) :
    Calls Try.prog 3 #[v, .int .i64 n, .int .i64 i] w fun e w' => e = .returned (.bool true) ∧ Below w.heap.size w w' := by
  have HP := Lib.hid (fun W (h : Below w.heap.size w W) => PutInt_any v l n hn W L (hv.step h (Nat.le_refl _)) hl)
  have HQ := Lib.hid (fun W (h : Below w.heap.size w W) => rPutInt_any v l n hn W L (hv.step h (Nat.le_refl _)) hvn hl)
  have H1 := Lib.hid (pInt_any v l i w L hv)
  have H2 := Lib.hid (fun W (h : Below w.heap.size w W) => rInt_any v l i W L (hv.step h (Nat.le_refl _)))
  have hvl : (l ++ vint (zig n)).length ≤ 9223372036854775807 := by have := vint_len10 (zig_lt hn); rw [List.length_append]; omega
  have HVL := Lib.hid hvl
  obtain ⟨A, c, rfl, _⟩ := hv
  generalize intF l i = X at *
  generalize l ++ vint (zig n) = R at *
  clear hvn hn hvl
  go_enter Try.func3, Try.ntmps3
  go_wp2_with fail
  with_reducible refine H1.out.mono ?_
  rintro e w1 ⟨rfl, b1⟩
  clear H1
  have h2 := H2.out w1 b1
  go_wp2_with fail
  with_reducible refine h2.mono ?_
  rintro e w2 ⟨rfl, hb2⟩
  have B2 := b1.trans (hb2.mono b1.size)
  have h3 := HP.out w2 B2
  clear h2 H2
  go_wp2_with fail
  with_reducible refine h3.mono ?_
  rintro e w3 ⟨v3, rfl, ho3, hb3⟩
  have B3 := B2.trans (hb3.mono B2.size)
  have h4 := HQ.out w3 B3
  have R3 := Lib.hid (RdB.of_own ho3 HVL.out)
  clear h3 ho3
  go_wp2_with fail
  with_reducible refine h4.mono ?_
  rintro e w4 ⟨v4, rfl, ho4, hb4⟩
  have B4 := B3.trans (hb4.mono B3.size)
  have heq := equal_any v3 v4 R w4 _ _ _ _ (R3.out.step hb4 (Nat.le_refl _)) (RdB.of_own ho4 HVL.out)
  clear h4 ho4
  go_wp2_with fail
  with_reducible refine heq.mono ?_
  rintro e w5 ⟨rfl, rfl⟩
  clear heq
  have hwk := works_any w5
  go_wp2_with fail
  with_reducible refine hwk.mono ?_
  rintro e w6 ⟨rfl, hb6⟩
  go_wp2_with fail
  go_ret
  exact ⟨rfl, B4.trans (hb6.mono B4.size)⟩
end Go.Proofs.Ytomiegfblhhhpaa
