/-
  PutText of the program and of the reference: what each answers; the walk of the statement CodecTexts. Conditions: lengths.
-/
import Derived.Test.YtomiegfblhhhpaaCoTa
import Derived.Test.YtomiegfblhhhpaaCo8
import Derived.Test.YtomiegfblhhhpaaCoEq
import Derived.Lib.ConvBytes
import Derived.Lib.SmallJoins
import Derived.WalkKit
import Derived.WalkSpells
import Derived.WalkLawsBesides
import Derived.Deep.QuietTactic
import Derived.BigQuiet
import Derived.Handy
import Derived.Lib.Hide
namespace Go.Proofs.Ytomiegfblhhhpaa
open Go.RowKit

set_option maxHeartbeats 800000 in
theorem PutText_any (v : Value) (l : List UInt8) (s : ByteArray) (w : World) (L : Nat) (hv : RdB w L w.heap.size v l) (hl : l.length + s.size ≤ 140737488355300) :
    Calls Try.prog 19 #[v, .string s] w (RetB w.heap.size w (l ++ textB s)) := by
  have hv0 := hv
  obtain ⟨A, c, rfl, hl63, hlc, hx⟩ := hv
  have hlm := limited_any A l.length c w hl63 hlc
  have hap := appendText_any (.slice A l.length l.length) l s w w.heap.size (.inr ⟨A, rfl, RdB.more (show RdB w L w.heap.size _ l from ⟨A, l.length, rfl, hl63, Nat.le_refl _, hx⟩) (Nat.le_refl _) (Nat.zero_le _)⟩) (Nat.le_refl _) hl
  have HLM := Lib.hid hlm
  have HAP := Lib.hid hap
  clear hlm hap hx hv0
  go_enter Try.func19, Try.ntmps19
  go_wp2_with (first | (go_at_call 45; refine HLM.out.mono ?_; rintro e w1 ⟨rfl, rfl⟩) | (go_at_call 47; refine HAP.out.mono ?_; rintro e w1 ⟨v1, rfl, ho1, hb1⟩))
  go_ret
  exact ⟨_, rfl, ho1, hb1⟩
theorem grownCap_ge2 (w : World) (s : ByteArray) : s.size ≤ grownCap w s.size 0 5 := grownCap_ge w s.size 0 5
/-- The bytes that a conversion lays are read. -/
theorem rdB_conv (w : World) (s : ByteArray) (hs : s.size ≤ 9223372036854775807) : RdB (Lib.bytesWorld w 5 s) 0 (Lib.bytesWorld w 5 s).heap.size (.slice (some ⟨w.heap.size, 0, none⟩) s.size (grownCap w s.size 0 5)) s.data.toList := by
  refine ⟨_, _, by rw [size_list], by rw [size_list]; exact hs, by rw [size_list]; exact grownCap_ge2 w s, fun k b hk => ⟨_, rfl, Nat.zero_le _, by rw [Lib.bytesWorld_size]; exact Nat.lt_succ_self _, ?_⟩⟩
  have hkl := (List.getElem?_eq_some_iff.1 hk).1
  rw [size_list] at hkl
  rw [cell_add0, Lib.bytesWorld_cell w _ s k hkl, List.getD_eq_getElem?_getD, hk]
  rfl
set_option maxRecDepth 100000 in
set_option maxHeartbeats 1600000 in
theorem rPutText_any (v : Value) (l : List UInt8) (s : ByteArray) (w : World) (L : Nat) (hv : RdB w L w.heap.size v l) (hvn : ∀ n c, v = .slice none n c → c = 0) (hl : l.length + s.size ≤ 140737488355300) :
    Calls Try.prog 20 #[v, .string s] w (RetB w.heap.size w (l ++ textB s)) := by
  have hn : I64 (s.size : Int) := ⟨by omega, by omega⟩
  have h1 := rPutInt_any v l (s.size : Int) hn w L hv hvn (by omega)
  have hv10 := vint_len10 (zig_lt hn)
  have hvp := vint_pos (zig s.size)
  have H1 := Lib.hid h1
  have HE := Lib.hid (show l ++ textB s = (l ++ vint (zig s.size)) ++ s.data.toList by unfold textB; rw [List.append_assoc])
  have hll : (l ++ vint (zig s.size)).length = l.length + (vint (zig s.size)).length := List.length_append
  generalize vint (zig s.size) = vz at *
  have HLL := Lib.hid hll
  have HLE := Lib.hid hl
  have HV10 := Lib.hid hv10
  obtain ⟨A, c, rfl, _⟩ := hv
  clear h1 hll hvn hn hl hv10 hvp
  go_enter Try.func20, Try.ntmps20
  go_wp2_with fail
  with_reducible refine H1.out.mono ?_
  rintro e w1 ⟨v1, rfl, ho1, hb1⟩
  have hcv := Lib.run_convert_string_bytes (P := Try.prog) w1 9 22 5 s Try.underlying9 Try.underlying22 Try.underlying5
  have bc := Go.Joins.below_bytesWorld w1.heap.size w1 5 s (Nat.le_refl _)
  have hrc := rdB_conv w1 s (by have := HLE.out; omega)
  have hle : (l ++ vz).length ≤ 9223372036854775807 := by rw [HLL.out]; have := HLE.out; have := HV10.out; omega
  have h2 := with_any v1 _ (l ++ vz) s.data.toList _ _ _ ((RdB.of_own ho1 hle).step bc (Nat.le_refl _)) hrc (own_not_none ho1) (by rintro n' c' h'; cases h') (by rw [HLL.out, size_list]; have := HLE.out; have := HV10.out; omega)
  have H2 := Lib.hid h2
  have B2 := hb1.trans (bc.mono hb1.size)
  have HE2 := Lib.hid HE
  clear h2 ho1 hrc hle
  go_wp2_with fail
  with_reducible refine H2.out.mono ?_
  rintro e w2 ⟨v2, rfl, ho2, hb2⟩
  go_wp2_with fail
  go_ret
  rw [HE.out]
  exact ⟨_, rfl, ownsRow_low ho2 B2.size, B2.trans (hb2.mono B2.size)⟩
set_option maxRecDepth 100000 in
set_option maxHeartbeats 6400000 in
theorem law_texts (v : Value) (l : List UInt8) (s : ByteArray) (i most : Int) (w : World) (L : Nat) (hv : RdB w L w.heap.size v l) (hvn : ∀ n c, v = .slice none n c → c = 0) (hl : l.length + s.size ≤ 140737488355300) :
    Calls Try.prog 4 #[v, .string s, .int .i64 i, .int .i64 most] w fun e w' => e = .returned (.bool true) ∧ Below w.heap.size w w' := by
  have HP := Lib.hid (fun W (h : Below w.heap.size w W) => PutText_any v l s W L (hv.step h (Nat.le_refl _)) hl)
  have HQ := Lib.hid (fun W (h : Below w.heap.size w W) => rPutText_any v l s W L (hv.step h (Nat.le_refl _)) hvn hl)
  have H1 := Lib.hid (pText_any v l i most w L hv)
  have H2 := Lib.hid (fun W (h : Below w.heap.size w W) => rText_any v l i most W L (hv.step h (Nat.le_refl _)))
  have hn : I64 (s.size : Int) := ⟨by omega, by omega⟩
  have hvl : (l ++ textB s).length ≤ 9223372036854775807 := by unfold textB; have h1 := vint_len10 (zig_lt hn); simp only [List.length_append, size_list]; omega
  have HVL := Lib.hid hvl
  obtain ⟨A, c, rfl, _⟩ := hv
  generalize hXX : txtF l i most = X at *
  clear hXX
  obtain ⟨e0, t, k⟩ := X
  generalize l ++ textB s = R at *
  clear hvn hn hvl
  unfold txtR at H1 H2
  dsimp only at H1 H2
  go_enter Try.func4, Try.ntmps4
  go_wp2_with fail
  with_reducible refine H1.out.mono ?_
  rintro e w1 ⟨rfl, b1⟩
  clear H1
  have h2 := H2.out w1 b1
  go_wp2_with fail
  with_reducible refine h2.mono ?_
  rintro e w2 ⟨rfl, hb2⟩
  have B2 := b1.trans (hb2.mono b1.size)
  have h3 := HP.out w2 B2
  clear h2 H2
  go_wp2_with fail
  with_reducible refine h3.mono ?_
  rintro e w3 ⟨v3, rfl, ho3, hb3⟩
  have B3 := B2.trans (hb3.mono B2.size)
  have h4 := HQ.out w3 B3
  have R3 := Lib.hid (RdB.of_own ho3 HVL.out)
  clear h3 ho3
  go_wp2_with fail
  with_reducible refine h4.mono ?_
  rintro e w4 ⟨v4, rfl, ho4, hb4⟩
  have B4 := B3.trans (hb4.mono B3.size)
  have heq := equal_any v3 v4 R w4 _ _ _ _ (R3.out.step hb4 (Nat.le_refl _)) (RdB.of_own ho4 HVL.out)
  clear h4 ho4
  go_wp2_with fail
  with_reducible refine heq.mono ?_
  rintro e w5 ⟨rfl, rfl⟩
  clear heq
  have hwk := works_any w5
  go_wp2_with fail
  with_reducible refine hwk.mono ?_
  rintro e w6 ⟨rfl, hb6⟩
  go_wp2_with fail
  go_ret
  exact ⟨rfl, B4.trans (hb6.mono B4.size)⟩
end Go.Proofs.Ytomiegfblhhhpaa
