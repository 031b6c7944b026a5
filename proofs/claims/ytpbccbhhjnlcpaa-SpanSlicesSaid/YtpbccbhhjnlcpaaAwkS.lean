/-
  Contract of the statements' own awake: the chapter's examples. Conditions: none.
-/
import Derived.Test.YtpbccbhhjnlcpaaOfS
import Derived.Test.YtpbccbhhjnlcpaaNx2S
import Derived.Test.YtpbccbhhjnlcpaaPtsS
import Derived.Test.YtpbccbhhjnlcpaaSameS
import Derived.Test.YtpbccbhhjnlcpaaRowS
import Derived.WalkKit
import Derived.WalkSpells
import Derived.WalkLawsBesides
import Derived.Deep.QuietTactic
import Derived.BigQuiet
import Derived.Handy
import Derived.Lib.Hide
namespace Go.Proofs.Ytpbccbhhjnlcpaa
open Go.RowKit

theorem ex_of : ofL [(5, 8), (0, 5), (2, 3)] = [(0, 8)] := by kernel_rfl
theorem ex_slices : elem (memL [(5, 8), (0, 5), (2, 3)]) (pts [(5, 8), (0, 5), (2, 3)]) = [(0, 2), (2, 3), (3, 5), (5, 8)] := by kernel_rfl
theorem ex_pts : pts [(5, 8), (0, 5), (2, 3)] = [0, 2, 3, 5, 8] := by kernel_rfl
theorem ex_sub : comb fSub [(0, 8)] [(4, 6)] = [(0, 4), (6, 8)] := by kernel_rfl
theorem ex_compl : comb fSub [(0, 1099511627776)] [(4, 1099511627776)] = [(0, 4)] := by kernel_rfl
theorem ex_len : lenL [(0, 3), (2, 5)] = 5 := by kernel_rfl
theorem ex_next : nextL [(0, 3), (6, 8)] 4 = (6, true) := by kernel_rfl

set_option maxRecDepth 100000 in
set_option maxHeartbeats 3200000 in
theorem awake_any (w : World) :
    Calls Try.prog 10 #[] w fun e w' => e = .returned (.bool true) ∧ Below w.heap.size w w' := by
  go_enter Try.func10, Try.ntmps10
  go_wp2_with fail
  have hrow1 : Calls Try.prog 40 #[.slice (some ⟨w.heap.size, 0, none⟩) 6 6] (w.alloc (.cells #[.int .i64 5, .int .i64 8, .int .i64 0, .int .i64 5, .int .i64 2, .int .i64 3] 3)) (RetPers (w.alloc (.cells #[.int .i64 5, .int .i64 8, .int .i64 0, .int .i64 5, .int .i64 2, .int .i64 3] 3)) [(5, 8), (0, 5), (2, 3)]) := row_any _ [(5, 8), (0, 5), (2, 3)] _ 0 (rdI_new w 3 (fl [(5, 8), (0, 5), (2, 3)]) (by decide)) (by decide)
  have bW1 : Below w.heap.size w (w.alloc (.cells #[.int .i64 5, .int .i64 8, .int .i64 0, .int .i64 5, .int .i64 2, .int .i64 3] 3)) := (Below.refl _ _).alloc (Nat.le_refl _) _
  refine hrow1.mono ?_
  rintro e w1 ⟨v1, rfl, hr1, hb1⟩
  have hc1 := bW1.trans (hb1.mono bW1.size)
  have Bw1 := hc1
  have Zw1 := Bw1.size
  have H1 := Lib.hid hr1
  clear hrow1 bW1 hb1 hc1 hr1
  go_wp2_with fail
  have hrow2 : Calls Try.prog 40 #[.slice (some ⟨w1.heap.size, 0, none⟩) 4 4] (w1.alloc (.cells #[.int .i64 0, .int .i64 3, .int .i64 6, .int .i64 8] 3)) (RetPers (w1.alloc (.cells #[.int .i64 0, .int .i64 3, .int .i64 6, .int .i64 8] 3)) [(0, 3), (6, 8)]) := row_any _ [(0, 3), (6, 8)] _ 0 (rdI_new w1 3 (fl [(0, 3), (6, 8)]) (by decide)) (by decide)
  have bW2 : Below w1.heap.size w1 (w1.alloc (.cells #[.int .i64 0, .int .i64 3, .int .i64 6, .int .i64 8] 3)) := (Below.refl _ _).alloc (Nat.le_refl _) _
  refine hrow2.mono ?_
  rintro e w2 ⟨v2, rfl, hr2, hb2⟩
  have hc2 := bW2.trans (hb2.mono bW2.size)
  replace H1 := Lib.hid (H1.out.step hc2 (Nat.le_refl _))
  have Bw2 := Bw1.trans (hc2.mono Zw1)
  have Zw2 := Bw2.size
  have H2 := Lib.hid hr2
  clear hrow2 bW2 hb2 hc2 hr2
  go_wp2_with fail
  have hx3 := sNext_any v2 _ 4 _ _ H2.out
  rw [ex_next] at hx3
  refine hx3.mono ?_
  rintro e w3 ⟨rfl, hb3⟩
  clear hx3
  replace H1 := Lib.hid (H1.out.step hb3 (Nat.le_refl _))
  replace H2 := Lib.hid (H2.out.step hb3 (Nat.le_refl _))
  have Bw3 := Bw2.trans (hb3.mono Zw2)
  have Zw3 := Bw3.size
  clear hb3
  clear H2
  go_wp2_with fail
  have hx4 := sOf_any v1 _ _ _ H1.out (by decide)
  rw [ex_of] at hx4
  refine hx4.mono ?_
  rintro e w4 ⟨v4, rfl, hr4, hb4⟩
  clear hx4
  replace H1 := Lib.hid (H1.out.step hb4 (Nat.le_refl _))
  have Bw4 := Bw3.trans (hb4.mono Zw3)
  have Zw4 := Bw4.size
  have H4 := Lib.hid hr4
  clear hr4
  clear hb4
  go_wp2_with fail
  have hrow5 : Calls Try.prog 40 #[.slice (some ⟨w4.heap.size, 0, none⟩) 2 2] (w4.alloc (.cells #[.int .i64 0, .int .i64 8] 3)) (RetPers (w4.alloc (.cells #[.int .i64 0, .int .i64 8] 3)) [(0, 8)]) := row_any _ [(0, 8)] _ 0 (rdI_new w4 3 (fl [(0, 8)]) (by decide)) (by decide)
  have bW5 : Below w4.heap.size w4 (w4.alloc (.cells #[.int .i64 0, .int .i64 8] 3)) := (Below.refl _ _).alloc (Nat.le_refl _) _
  refine hrow5.mono ?_
  rintro e w5 ⟨v5, rfl, hr5, hb5⟩
  have hc5 := bW5.trans (hb5.mono bW5.size)
  replace H1 := Lib.hid (H1.out.step hc5 (Nat.le_refl _))
  replace H4 := Lib.hid (H4.out.step hc5 (Nat.le_refl _))
  have Bw5 := Bw4.trans (hc5.mono Zw4)
  have Zw5 := Bw5.size
  have H5 := Lib.hid hr5
  clear hrow5 bW5 hb5 hc5 hr5
  go_wp2_with fail
  have hx6 := sameP_any v4 v5 _ _ _ _ _ H4.out H5.out
  rw [decide_eq_true rfl] at hx6
  refine hx6.mono ?_
  rintro e w6 ⟨rfl, hb6⟩
  clear hx6
  replace H1 := Lib.hid (H1.out.step hb6 (Nat.le_refl _))
  replace H4 := Lib.hid (H4.out.step hb6 (Nat.le_refl _))
  replace H5 := Lib.hid (H5.out.step hb6 (Nat.le_refl _))
  have Bw6 := Bw5.trans (hb6.mono Zw5)
  have Zw6 := Bw6.size
  clear hb6
  clear H4
  clear H5
  go_wp2_with fail
  have hx7 := sSlices_any v1 _ _ _ H1.out (by decide)
  rw [ex_slices] at hx7
  refine hx7.mono ?_
  rintro e w7 ⟨v7, rfl, hr7, hb7⟩
  clear hx7
  replace H1 := Lib.hid (H1.out.step hb7 (Nat.le_refl _))
  have Bw7 := Bw6.trans (hb7.mono Zw6)
  have Zw7 := Bw7.size
  have H7 := Lib.hid hr7
  clear hr7
  clear hb7
  go_wp2_with fail
  have hrow8 : Calls Try.prog 40 #[.slice (some ⟨w7.heap.size, 0, none⟩) 8 8] (w7.alloc (.cells #[.int .i64 0, .int .i64 2, .int .i64 2, .int .i64 3, .int .i64 3, .int .i64 5, .int .i64 5, .int .i64 8] 3)) (RetPers (w7.alloc (.cells #[.int .i64 0, .int .i64 2, .int .i64 2, .int .i64 3, .int .i64 3, .int .i64 5, .int .i64 5, .int .i64 8] 3)) [(0, 2), (2, 3), (3, 5), (5, 8)]) := row_any _ [(0, 2), (2, 3), (3, 5), (5, 8)] _ 0 (rdI_new w7 3 (fl [(0, 2), (2, 3), (3, 5), (5, 8)]) (by decide)) (by decide)
  have bW8 : Below w7.heap.size w7 (w7.alloc (.cells #[.int .i64 0, .int .i64 2, .int .i64 2, .int .i64 3, .int .i64 3, .int .i64 5, .int .i64 5, .int .i64 8] 3)) := (Below.refl _ _).alloc (Nat.le_refl _) _
  refine hrow8.mono ?_
  rintro e w8 ⟨v8, rfl, hr8, hb8⟩
  have hc8 := bW8.trans (hb8.mono bW8.size)
  replace H1 := Lib.hid (H1.out.step hc8 (Nat.le_refl _))
  replace H7 := Lib.hid (H7.out.step hc8 (Nat.le_refl _))
  have Bw8 := Bw7.trans (hc8.mono Zw7)
  have Zw8 := Bw8.size
  have H8 := Lib.hid hr8
  clear hrow8 bW8 hb8 hc8 hr8
  go_wp2_with fail
  have hx9 := sameP_any v7 v8 _ _ _ _ _ H7.out H8.out
  rw [decide_eq_true rfl] at hx9
  refine hx9.mono ?_
  rintro e w9 ⟨rfl, hb9⟩
  clear hx9
  replace H1 := Lib.hid (H1.out.step hb9 (Nat.le_refl _))
  replace H7 := Lib.hid (H7.out.step hb9 (Nat.le_refl _))
  replace H8 := Lib.hid (H8.out.step hb9 (Nat.le_refl _))
  have Bw9 := Bw8.trans (hb9.mono Zw8)
  have Zw9 := Bw9.size
  clear hb9
  clear H7
  clear H8
  go_wp2_with fail
  have hx10 := sPts_any v1 _ _ _ H1.out (by decide)
  rw [ex_pts] at hx10
  refine hx10.mono ?_
  rintro e w10 ⟨v10, rfl, hr10, hb10⟩
  clear hx10
  replace H1 := Lib.hid (H1.out.step hb10 (Nat.le_refl _))
  have Bw10 := Bw9.trans (hb10.mono Zw9)
  have Zw10 := Bw10.size
  have H10 := Lib.hid hr10
  clear hr10
  clear hb10
  go_wp2_with fail
  have bW11 : Below w10.heap.size w10 (w10.alloc (.cells #[.int .i64 0, .int .i64 2, .int .i64 3, .int .i64 5, .int .i64 8] 3)) := (Below.refl _ _).alloc (Nat.le_refl _) _
  have hI11 : RdI (w10.alloc (.cells #[.int .i64 0, .int .i64 2, .int .i64 3, .int .i64 5, .int .i64 8] 3)) 0 (w10.alloc (.cells #[.int .i64 0, .int .i64 2, .int .i64 3, .int .i64 5, .int .i64 8] 3)).heap.size (.slice (some ⟨w10.heap.size, 0, none⟩) 5 5) [0, 2, 3, 5, 8] := rdI_new w10 3 [0, 2, 3, 5, 8] (by decide)
  have hx11 := sameI_any v10 _ _ _ _ _ _ (H10.out.step bW11 (Nat.le_refl _)) hI11
  rw [decide_eq_true rfl] at hx11
  refine hx11.mono ?_
  rintro e w11 ⟨rfl, hb11⟩
  clear hx11 hI11
  have hc11 := bW11.trans (hb11.mono bW11.size)
  clear H10
  replace H1 := Lib.hid (H1.out.step hc11 (Nat.le_refl _))
  have Bw11 := Bw10.trans (hc11.mono Zw10)
  have Zw11 := Bw11.size
  clear hb11 hc11 bW11
  clear H1
  go_wp2_with fail
  have hrow12 : Calls Try.prog 40 #[.slice (some ⟨w11.heap.size, 0, none⟩) 2 2] (w11.alloc (.cells #[.int .i64 0, .int .i64 8] 3)) (RetPers (w11.alloc (.cells #[.int .i64 0, .int .i64 8] 3)) [(0, 8)]) := row_any _ [(0, 8)] _ 0 (rdI_new w11 3 (fl [(0, 8)]) (by decide)) (by decide)
  have bW12 : Below w11.heap.size w11 (w11.alloc (.cells #[.int .i64 0, .int .i64 8] 3)) := (Below.refl _ _).alloc (Nat.le_refl _) _
  refine hrow12.mono ?_
  rintro e w12 ⟨v12, rfl, hr12, hb12⟩
  have hc12 := bW12.trans (hb12.mono bW12.size)
  have Bw12 := Bw11.trans (hc12.mono Zw11)
  have Zw12 := Bw12.size
  have H12 := Lib.hid hr12
  clear hrow12 bW12 hb12 hc12 hr12
  go_wp2_with fail
  have hrow13 : Calls Try.prog 40 #[.slice (some ⟨w12.heap.size, 0, none⟩) 2 2] (w12.alloc (.cells #[.int .i64 4, .int .i64 6] 3)) (RetPers (w12.alloc (.cells #[.int .i64 4, .int .i64 6] 3)) [(4, 6)]) := row_any _ [(4, 6)] _ 0 (rdI_new w12 3 (fl [(4, 6)]) (by decide)) (by decide)
  have bW13 : Below w12.heap.size w12 (w12.alloc (.cells #[.int .i64 4, .int .i64 6] 3)) := (Below.refl _ _).alloc (Nat.le_refl _) _
  refine hrow13.mono ?_
  rintro e w13 ⟨v13, rfl, hr13, hb13⟩
  have hc13 := bW13.trans (hb13.mono bW13.size)
  replace H12 := Lib.hid (H12.out.step hc13 (Nat.le_refl _))
  have Bw13 := Bw12.trans (hc13.mono Zw12)
  have Zw13 := Bw13.size
  have H13 := Lib.hid hr13
  clear hrow13 bW13 hb13 hc13 hr13
  go_wp2_with fail
  have hx14 := sSubtract_any v12 v13 _ _ _ _ _ H12.out H13.out (by decide) (by decide)
  rw [ex_sub] at hx14
  refine hx14.mono ?_
  rintro e w14 ⟨v14, rfl, hr14, hb14⟩
  clear hx14
  replace H12 := Lib.hid (H12.out.step hb14 (Nat.le_refl _))
  replace H13 := Lib.hid (H13.out.step hb14 (Nat.le_refl _))
  have Bw14 := Bw13.trans (hb14.mono Zw13)
  have Zw14 := Bw14.size
  have H14 := Lib.hid hr14
  clear hr14
  clear hb14
  clear H12
  clear H13
  go_wp2_with fail
  have hrow15 : Calls Try.prog 40 #[.slice (some ⟨w14.heap.size, 0, none⟩) 4 4] (w14.alloc (.cells #[.int .i64 0, .int .i64 4, .int .i64 6, .int .i64 8] 3)) (RetPers (w14.alloc (.cells #[.int .i64 0, .int .i64 4, .int .i64 6, .int .i64 8] 3)) [(0, 4), (6, 8)]) := row_any _ [(0, 4), (6, 8)] _ 0 (rdI_new w14 3 (fl [(0, 4), (6, 8)]) (by decide)) (by decide)
  have bW15 : Below w14.heap.size w14 (w14.alloc (.cells #[.int .i64 0, .int .i64 4, .int .i64 6, .int .i64 8] 3)) := (Below.refl _ _).alloc (Nat.le_refl _) _
  refine hrow15.mono ?_
  rintro e w15 ⟨v15, rfl, hr15, hb15⟩
  have hc15 := bW15.trans (hb15.mono bW15.size)
  replace H14 := Lib.hid (H14.out.step hc15 (Nat.le_refl _))
  have Bw15 := Bw14.trans (hc15.mono Zw14)
  have Zw15 := Bw15.size
  have H15 := Lib.hid hr15
  clear hrow15 bW15 hb15 hc15 hr15
  go_wp2_with fail
  have hx16 := sameP_any v14 v15 _ _ _ _ _ H14.out H15.out
  rw [decide_eq_true rfl] at hx16
  refine hx16.mono ?_
  rintro e w16 ⟨rfl, hb16⟩
  clear hx16
  replace H14 := Lib.hid (H14.out.step hb16 (Nat.le_refl _))
  replace H15 := Lib.hid (H15.out.step hb16 (Nat.le_refl _))
  have Bw16 := Bw15.trans (hb16.mono Zw15)
  have Zw16 := Bw16.size
  clear hb16
  clear H14
  clear H15
  go_wp2_with fail
  have hrow17 : Calls Try.prog 40 #[.slice (some ⟨w16.heap.size, 0, none⟩) 2 2] (w16.alloc (.cells #[.int .i64 4, .int .i64 1099511627776] 3)) (RetPers (w16.alloc (.cells #[.int .i64 4, .int .i64 1099511627776] 3)) [(4, 1099511627776)]) := row_any _ [(4, 1099511627776)] _ 0 (rdI_new w16 3 (fl [(4, 1099511627776)]) (by decide)) (by decide)
  have bW17 : Below w16.heap.size w16 (w16.alloc (.cells #[.int .i64 4, .int .i64 1099511627776] 3)) := (Below.refl _ _).alloc (Nat.le_refl _) _
  refine hrow17.mono ?_
  rintro e w17 ⟨v17, rfl, hr17, hb17⟩
  have hc17 := bW17.trans (hb17.mono bW17.size)
  have Bw17 := Bw16.trans (hc17.mono Zw16)
  have Zw17 := Bw17.size
  have H17 := Lib.hid hr17
  clear hrow17 bW17 hb17 hc17 hr17
  go_wp2_with fail
  have hx18 := sComplement_any v17 _ _ _ H17.out (by decide)
  rw [ex_compl] at hx18
  refine hx18.mono ?_
  rintro e w18 ⟨v18, rfl, hr18, hb18⟩
  clear hx18
  replace H17 := Lib.hid (H17.out.step hb18 (Nat.le_refl _))
  have Bw18 := Bw17.trans (hb18.mono Zw17)
  have Zw18 := Bw18.size
  have H18 := Lib.hid hr18
  clear hr18
  clear hb18
  clear H17
  go_wp2_with fail
  have hrow19 : Calls Try.prog 40 #[.slice (some ⟨w18.heap.size, 0, none⟩) 2 2] (w18.alloc (.cells #[.int .i64 0, .int .i64 4] 3)) (RetPers (w18.alloc (.cells #[.int .i64 0, .int .i64 4] 3)) [(0, 4)]) := row_any _ [(0, 4)] _ 0 (rdI_new w18 3 (fl [(0, 4)]) (by decide)) (by decide)
  have bW19 : Below w18.heap.size w18 (w18.alloc (.cells #[.int .i64 0, .int .i64 4] 3)) := (Below.refl _ _).alloc (Nat.le_refl _) _
  refine hrow19.mono ?_
  rintro e w19 ⟨v19, rfl, hr19, hb19⟩
  have hc19 := bW19.trans (hb19.mono bW19.size)
  replace H18 := Lib.hid (H18.out.step hc19 (Nat.le_refl _))
  have Bw19 := Bw18.trans (hc19.mono Zw18)
  have Zw19 := Bw19.size
  have H19 := Lib.hid hr19
  clear hrow19 bW19 hb19 hc19 hr19
  go_wp2_with fail
  have hx20 := sameP_any v18 v19 _ _ _ _ _ H18.out H19.out
  rw [decide_eq_true rfl] at hx20
  refine hx20.mono ?_
  rintro e w20 ⟨rfl, hb20⟩
  clear hx20
  replace H18 := Lib.hid (H18.out.step hb20 (Nat.le_refl _))
  replace H19 := Lib.hid (H19.out.step hb20 (Nat.le_refl _))
  have Bw20 := Bw19.trans (hb20.mono Zw19)
  have Zw20 := Bw20.size
  clear hb20
  clear H18
  clear H19
  go_wp2_with fail
  have hrow21 : Calls Try.prog 40 #[.slice (some ⟨w20.heap.size, 0, none⟩) 4 4] (w20.alloc (.cells #[.int .i64 0, .int .i64 3, .int .i64 2, .int .i64 5] 3)) (RetPers (w20.alloc (.cells #[.int .i64 0, .int .i64 3, .int .i64 2, .int .i64 5] 3)) [(0, 3), (2, 5)]) := row_any _ [(0, 3), (2, 5)] _ 0 (rdI_new w20 3 (fl [(0, 3), (2, 5)]) (by decide)) (by decide)
  have bW21 : Below w20.heap.size w20 (w20.alloc (.cells #[.int .i64 0, .int .i64 3, .int .i64 2, .int .i64 5] 3)) := (Below.refl _ _).alloc (Nat.le_refl _) _
  refine hrow21.mono ?_
  rintro e w21 ⟨v21, rfl, hr21, hb21⟩
  have hc21 := bW21.trans (hb21.mono bW21.size)
  have Bw21 := Bw20.trans (hc21.mono Zw20)
  have Zw21 := Bw21.size
  have H21 := Lib.hid hr21
  clear hrow21 bW21 hb21 hc21 hr21
  go_wp2_with fail
  have hx22 := sLen_any v21 _ _ _ H21.out (by decide)
  rw [ex_len] at hx22
  refine hx22.mono ?_
  rintro e w22 ⟨rfl, hb22⟩
  clear hx22
  replace H21 := Lib.hid (H21.out.step hb22 (Nat.le_refl _))
  have Bw22 := Bw21.trans (hb22.mono Zw21)
  have Zw22 := Bw22.size
  clear hb22
  clear H21
  go_wp2
  go_ret
  exact ⟨rfl, Bw22⟩
end Go.Proofs.Ytpbccbhhjnlcpaa
