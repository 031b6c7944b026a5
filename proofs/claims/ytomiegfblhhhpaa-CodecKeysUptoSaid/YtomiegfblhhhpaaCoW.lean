/-
  The chapter's examples, as the statements check them. Conditions: none.
-/
import Derived.Test.YtomiegfblhhhpaaCoK
import Derived.Test.YtomiegfblhhhpaaCoY
import Derived.Test.YtomiegfblhhhpaaCo5
import Derived.Outline
import Derived.WalkKit
import Derived.WalkSpells
import Derived.WalkLawsBesides
import Derived.Deep.QuietTactic
import Derived.BigQuiet
import Derived.Handy
import Derived.Lib.Hide
namespace Go.Proofs.Ytomiegfblhhhpaa
open Go.RowKit

theorem i64_small {n : Int} (h1 : -1000 ≤ n) (h2 : n ≤ 1000) : I64 n := ⟨by omega, by omega⟩
theorem wk_1 : vint (zig (-1)) = [1] := by rw [show zig (-1) = 1 from by decide, vint_last (by decide)]; rfl
theorem wk_2 : vint (zig 63) = [126] := by rw [show zig 63 = 126 from by decide, vint_last (by decide)]; rfl
theorem wk_3 : vint (zig 64) = [128, 1] := by rw [show zig 64 = 128 from by decide, vint_more (by decide), vint_last (by decide)]; rfl
theorem wk_4 : vint (zig 2) = [4] := by rw [show zig 2 = 4 from by decide, vint_last (by decide)]; rfl
theorem wk_5 : intF [128, 0] 0 = (1, 0, 0) := by decide +kernel
theorem wk_6 : intF [128] 0 = (2, 0, 0) := by decide +kernel
theorem wk_7 : intF [9, 1, 126, 128, 1] 2 = (0, 63, 3) := by decide +kernel
theorem wk_8 : ([] : List UInt8) ++ ([2] ++ textB ⟨#[97, 98]⟩) = [2, 4, 97, 98] := by
  unfold textB
  rw [show ((⟨#[97, 98]⟩ : ByteArray).size : Int) = 2 from rfl, wk_4]
  rfl
/-- The row of the example. -/
def wkP : List Vl := [(1, -1, ⟨#[]⟩), (2, 0, ⟨#[97]⟩)]
theorem wk_9 : keyL wkP = [2, 127, 255, 255, 255, 255, 255, 255, 255, 3, 97, 0] := by decide +kernel
theorem wk_k (w : World) (k : Nat) (p : Vl) (u : Value) (W : World) (hp : wkP[k]? = some p) (ho : W.ownsRow w.heap.size 5 1 u (keyL (wkP.take k)).length (bytV (keyL (wkP.take k)))) (hz : w.heap.size ≤ W.heap.size) :
    Calls Try.prog 54 #[u, valV p] W (RetB w.heap.size W (keyL (wkP.take (k + 1)))) := by
  have hk : k = 0 ∨ k = 1 := by have := (List.getElem?_eq_some_iff.1 hp).1; simp [wkP] at this; omega
  rcases hk with rfl | rfl
  · have e : ((1 : Int), (-1 : Int), (⟨#[]⟩ : ByteArray)) = p := by simpa [wkP] using hp
    subst e
    exact appendKey_1 u _ (-1) ⟨#[]⟩ (i64_small (by decide) (by decide)) W w.heap.size ho hz (by decide)
  · have e : ((2 : Int), (0 : Int), (⟨#[97]⟩ : ByteArray)) = p := by simpa [wkP] using hp
    subst e
    exact appendKey_2 u _ 0 ⟨#[97]⟩ W w.heap.size ho hz (by decide)
theorem wk_row (w : World) (C : Array Value) (hC : C = #[.int .i64 1, .int .i64 (-1), .string ⟨#[]⟩, .int .i64 2, .int .i64 0, .string ⟨#[97]⟩]) : RdV (w.alloc (.cells C 35)) 0 (w.alloc (.cells C 35)).heap.size (.slice (some ⟨w.heap.size, 0, none⟩) 2 2) wkP := by
  subst hC
  have o := Own.new w 35 #[.int .i64 1, .int .i64 (-1), .string ⟨#[]⟩, .int .i64 2, .int .i64 0, .string ⟨#[97]⟩]
  refine ⟨_, _, rfl, by decide, fun k p hk => ⟨_, rfl, Nat.zero_le _, o.lt, ?_⟩⟩
  have hk2 : k = 0 ∨ k = 1 := by have := (List.getElem?_eq_some_iff.1 hk).1; simp [wkP] at this; omega
  rcases hk2 with rfl | rfl
  · have e : ((1 : Int), (-1 : Int), (⟨#[]⟩ : ByteArray)) = p := by simpa [wkP] using hk
    subst e
    exact ⟨o.cell 0, o.cell 1, o.cell 2⟩
  · have e : ((2 : Int), (0 : Int), (⟨#[97]⟩ : ByteArray)) = p := by simpa [wkP] using hk
    subst e
    exact ⟨o.cell 3, o.cell 4, o.cell 5⟩
set_option maxRecDepth 100000 in
set_option maxHeartbeats 6400000 in
theorem works_any (w : World) : Calls Try.prog 16 #[] w fun e w' => e = .returned (.bool true) ∧ Below w.heap.size w w' := by
  have b1 := bel_mark w (.cells #[.int .u8 9] 5)
  have h1 := PutInt_any _ [9] (-1) (i64_small (by decide) (by decide)) _ 0 (rdB_byte w 9 (9 : UInt8) rfl) (by decide)
  rw [wk_1] at h1
  have H1 := Lib.hid h1
  have HP2 := Lib.hid (fun v W L (h : RdB W L W.heap.size v [9, 1]) => PutInt_any v [9, 1] 63 (i64_small (by decide) (by decide)) W L h (by decide))
  have HP3 := Lib.hid (fun v W L (h : RdB W L W.heap.size v [9, 1, 126]) => PutInt_any v [9, 1, 126] 64 (i64_small (by decide) (by decide)) W L h (by decide))
  have z1 := b1.size
  clear h1
  go_enter Try.func16, Try.ntmps16
  go_wp2_with fail
  refine H1.out.mono ?_
  clear H1
  rintro e w2 ⟨v2, rfl, ho2, hb2⟩
  have B2 := b1.trans (hb2.mono z1)
  have z2 := B2.size
  have h2 := HP2.out v2 w2 _ (RdB.of_own ho2 (by decide))
  rw [wk_2] at h2
  have H2 := Lib.hid h2
  clear h2 ho2
  go_wp2_with fail
  refine H2.out.mono ?_
  clear H2
  rintro e w3 ⟨v3, rfl, ho3, hb3⟩
  have B3 := B2.trans (hb3.mono z2)
  have z3 := B3.size
  have h3 := HP3.out v3 w3 _ (RdB.of_own ho3 (by decide))
  rw [wk_3] at h3
  have H3 := Lib.hid h3
  clear h3 ho3
  go_wp2_with fail
  refine H3.out.mono ?_
  clear H3
  rintro e w4 ⟨v4, rfl, ho4, hb4⟩
  have B4 := B3.trans (hb4.mono z3)
  have z4 := B4.size
  have R4 := Lib.hid (show RdB w4 0 w4.heap.size v4 [9, 1, 126, 128, 1] from (RdB.of_own ho4 (by decide)).more (Nat.le_refl _) (Nat.zero_le _))
  have HPV := Lib.hid (fun W => PutValue_text (.slice none 0 0) [] 0 ⟨#[97, 98]⟩ W 0 (rdB_nil _ _ _) (by decide))
  clear ho4 HP2 HP3
  have h5 := HPV.out w4
  rw [wk_8] at h5
  unfold valV at h5
  have H5 := Lib.hid h5
  clear h5 HPV
  go_wp2_with fail
  refine H5.out.mono ?_
  clear H5
  rintro e w5 ⟨v5, rfl, ho5, hb5⟩
  have B5 := B4.trans (hb5.mono z4)
  have z5 := B5.size
  have R5 := Lib.hid (show RdB w5 0 w5.heap.size v5 [2, 4, 97, 98] from (RdB.of_own ho5 (by decide)).more (Nat.le_refl _) (Nat.zero_le _))
  have R45 := Lib.hid (R4.out.step hb5 (Nat.le_refl _))
  have b6 := bel_mark w5 (.cells #[.int .u8 128, .int .u8 0] 5)
  have h6 := pInt_any _ [128, 0] 0 _ 0 (rdB_bytes w5 #[.int .u8 128, .int .u8 0] [128, 0] rfl 2 rfl (by decide))
  rw [wk_5] at h6
  have H6 := Lib.hid h6
  have B6 := B5.trans (b6.mono z5)
  have z6 := B6.size
  have R46 := Lib.hid (R45.out.step b6 (Nat.le_refl _))
  have R56 := Lib.hid (R5.out.step b6 (Nat.le_refl _))
  clear h6 ho5 R4 R5 R45
  go_wp2_with fail
  refine H6.out.mono ?_
  clear H6
  rintro e w7 ⟨rfl, hb7⟩
  have B7 := B6.trans (hb7.mono z6)
  have z7 := B7.size
  have b8 := bel_mark w7 (.cells #[.int .u8 128] 5)
  have h8 := pInt_any _ [128] 0 _ 0 (rdB_bytes w7 #[.int .u8 128] [128] rfl 1 rfl (by decide))
  rw [wk_6] at h8
  have H8 := Lib.hid h8
  have B8 := B7.trans (b8.mono z7)
  have z8 := B8.size
  have R48 := Lib.hid ((R46.out.step hb7 (Nat.le_refl _)).step b8 (Nat.le_refl _))
  have R58 := Lib.hid ((R56.out.step hb7 (Nat.le_refl _)).step b8 (Nat.le_refl _))
  clear h8 R46 R56
  go_wp2_with fail
  refine H8.out.mono ?_
  clear H8
  rintro e w9 ⟨rfl, hb9⟩
  have B9 := B8.trans (hb9.mono z8)
  have z9 := B9.size
  have R49 := Lib.hid (R48.out.step hb9 (Nat.le_refl _))
  have R59 := Lib.hid (R58.out.step hb9 (Nat.le_refl _))
  have h10 := pInt_any _ [9, 1, 126, 128, 1] 2 _ 0 R49.out
  rw [wk_7] at h10
  have H10 := Lib.hid h10
  clear h10 R48 R58
  go_wp2_with fail
  refine H10.out.mono ?_
  clear H10
  rintro e w10 ⟨rfl, hb10⟩
  have B10 := B9.trans (hb10.mono z9)
  have z10 := B10.size
  have b11 := bel_mark w10 (.cells #[.int .i64 1, .int .i64 (-1), .string ⟨#[]⟩, .int .i64 2, .int .i64 0, .string ⟨#[97]⟩] 35)
  have B11 := B10.trans (b11.mono z10)
  have z11 := B11.size
  have h11 := Key_any _ wkP _ 0 (wk_row w10 _ rfl) (wk_k _)
  rw [wk_9] at h11
  have H11 := Lib.hid h11
  have R411 := Lib.hid ((R49.out.step hb10 (Nat.le_refl _)).step b11 (Nat.le_refl _))
  have R511 := Lib.hid ((R59.out.step hb10 (Nat.le_refl _)).step b11 (Nat.le_refl _))
  clear h11 R49 R59
  go_wp2_with fail
  refine H11.out.mono ?_
  clear H11
  rintro e w12 ⟨v12, rfl, ho12, hb12⟩
  have B12 := B11.trans (hb12.mono z11)
  have c4 := conv_rdB (R411.out.step hb12 (Nat.le_refl _))
  have c5 := conv_rdB (R511.out.step hb12 (Nat.le_refl _))
  have c12 := conv_rdB (RdB.of_own ho12 (by decide))
  go_wp2_with fail
  go_ret
  exact ⟨rfl, B12⟩
end Go.Proofs.Ytomiegfblhhhpaa
