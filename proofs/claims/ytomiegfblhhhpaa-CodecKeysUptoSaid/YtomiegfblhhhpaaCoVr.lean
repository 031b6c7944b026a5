/-
  The reference's PutValue at any valid value: what it answers. Conditions: lengths.
-/
import Derived.Test.YtomiegfblhhhpaaCoV
import Derived.Deep.RegionHeld3
import Derived.WalkKit
import Derived.WalkSpells
import Derived.WalkLawsBesides
import Derived.Deep.QuietTactic
import Derived.BigQuiet
import Derived.Handy
import Derived.Lib.Hide
namespace Go.Proofs.Ytomiegfblhhhpaa
open Go.RowKit

set_option maxRecDepth 100000 in
set_option maxHeartbeats 3200000 in
theorem rPutValue_1 (v : Value) (l : List UInt8) (n : Int) (s : ByteArray) (hn : I64 n) (w : World) (L : Nat) (hv : RdB w L w.heap.size v l) (hvn : ∀ n c, v = .slice none n c → c = 0) (hl : l.length + s.size ≤ 140737488355200) :
    Calls Try.prog 25 #[v, valV (1, n, s)] w (RetB w.heap.size w (l ++ ([1] ++ vint (zig n)))) := by
  unfold valV
  dsimp only
  have HV := Lib.hid (fun W (h : Below w.heap.size w W) => hv.step h (Nat.le_refl _))
  have HVN := Lib.hid hvn
  have HL1 := Lib.hid (show l.length + ([1] : List UInt8).length ≤ 140737488355328 by simp; omega)
  have HL2 := Lib.hid (show (l ++ [1]).length ≤ 9223372036854775807 by simp; omega)
  have HT := Lib.hid (fun v2 w2 L2 (h : RdB w2 L2 w2.heap.size v2 (l ++ [1])) hn2 => rPutInt_any v2 (l ++ [1]) n hn w2 L2 h hn2 (by simp; omega))
  have HE := Lib.hid (show l ++ ([1] ++ vint (zig n)) = (l ++ [1]) ++ vint (zig n) by rw [List.append_assoc])
  generalize l ++ ([1] ++ vint (zig n)) = R at *
  generalize vint (zig n) = T at *
  have oW := Own.new w 35 #[.int .i64 1, .int .i64 n, .string s]
  have bW := bel_mark w (.cells #[.int .i64 1, .int .i64 n, .string s] 35)
  obtain ⟨A, c, rfl, _⟩ := hv
  clear hvn
  go_enter Try.func25, Try.ntmps25
  go_wp2_with fail
  generalize w.alloc (.cells #[.int .i64 1, .int .i64 n, .string s] 35) = W at *
  have B5 : Below w.heap.size w W.drew := bW.drew
  have HS : ∀ w', Below W.drew.heap.size W.drew w' → (Below W.drew.heap.size W.drew w' ∧ Below w.heap.size w w' ∧ w'.cell? ⟨w.heap.size, 1, none⟩ = some (.int .i64 n)) := fun w' hb =>
    ⟨hb, B5.trans (hb.mono B5.size), ((show Own W.drew _ _ _ from oW).below hb oW.lt).cell 1⟩
  have HS := Lib.hid HS
  clear oW bW
  go_region_held3 (fun w' => Below W.drew.heap.size W.drew w' ∧ Below w.heap.size w w' ∧ w'.cell? ⟨w.heap.size, 1, none⟩ = some (.int .i64 n))
    (first | (exact HS.out _ (Below.refl _ _)) | (exact HS.out _ (bel_mark _ _)) | (exact HS.out _ hb))
    ((first
      | (go_at_call 46; refine (with_any _ _ l [1] _ L 0 (HV.out _ (B5.trans ((bel_mark W.drew (.cells #[.int .u8 1] 5)).mono B5.size))) (by first | exact rdB_at W.drew W.drew.heap.size rfl 1 (1 : UInt8) rfl | exact rdB_at W.drew W.heap.size rfl 1 (1 : UInt8) rfl) HVN.out (by rintro n' c' h'; cases h') HL1.out).mono ?_; rintro e w1 ⟨v1, rfl, ho1, hb1⟩; have hb := (bel_mark W.drew (.cells #[.int .u8 1] 5)).trans (hb1.mono (bel_mark W.drew (.cells #[.int .u8 1] 5)).size))
      | (go_at_call 15; refine (HT.out v1 w1 _ (RdB.of_own ho1 HL2.out) (own_not_none ho1)).mono ?_; rintro e w2 ⟨v2, rfl, ho2, hb2⟩; have hb3 := hb; have hb := hb.trans (hb2.mono hb.size))))
  go_wp2
  go_ret
  rw [HE.out]
  exact ⟨_, rfl, ownsRow_low ho2 (Nat.le_trans B5.size hb3.size), B5.trans (hb.mono B5.size)⟩
set_option maxRecDepth 100000 in
set_option maxHeartbeats 3200000 in
theorem rPutValue_2 (v : Value) (l : List UInt8) (s : ByteArray) (w : World) (L : Nat) (hv : RdB w L w.heap.size v l) (hvn : ∀ n c, v = .slice none n c → c = 0) (hl : l.length + s.size ≤ 140737488355200) :
    Calls Try.prog 25 #[v, valV (2, 0, s)] w (RetB w.heap.size w (l ++ ([2] ++ textB s))) := by
  unfold valV
  dsimp only
  have HV := Lib.hid (fun W (h : Below w.heap.size w W) => hv.step h (Nat.le_refl _))
  have HVN := Lib.hid hvn
  have HL1 := Lib.hid (show l.length + ([2] : List UInt8).length ≤ 140737488355328 by simp; omega)
  have HL2 := Lib.hid (show (l ++ [2]).length ≤ 9223372036854775807 by simp; omega)
  have HT := Lib.hid (fun v2 w2 L2 (h : RdB w2 L2 w2.heap.size v2 (l ++ [2])) hn2 => rPutText_any v2 (l ++ [2]) s w2 L2 h hn2 (by simp; omega))
  have HE := Lib.hid (show l ++ ([2] ++ textB s) = (l ++ [2]) ++ textB s by rw [List.append_assoc])
  generalize l ++ ([2] ++ textB s) = R at *
  generalize textB s = T at *
  have oW := Own.new w 35 #[.int .i64 2, .int .i64 0, .string s]
  have bW := bel_mark w (.cells #[.int .i64 2, .int .i64 0, .string s] 35)
  obtain ⟨A, c, rfl, _⟩ := hv
  clear hvn
  go_enter Try.func25, Try.ntmps25
  go_wp2_with fail
  generalize w.alloc (.cells #[.int .i64 2, .int .i64 0, .string s] 35) = W at *
  have B5 : Below w.heap.size w W.drew := bW.drew
  have HS : ∀ w', Below W.drew.heap.size W.drew w' → (Below W.drew.heap.size W.drew w' ∧ Below w.heap.size w w' ∧ w'.cell? ⟨w.heap.size, 2, none⟩ = some (.string s)) := fun w' hb =>
    ⟨hb, B5.trans (hb.mono B5.size), ((show Own W.drew _ _ _ from oW).below hb oW.lt).cell 2⟩
  have HS := Lib.hid HS
  clear oW bW
  go_region_held3 (fun w' => Below W.drew.heap.size W.drew w' ∧ Below w.heap.size w w' ∧ w'.cell? ⟨w.heap.size, 2, none⟩ = some (.string s))
    (first | (exact HS.out _ (Below.refl _ _)) | (exact HS.out _ (bel_mark _ _)) | (exact HS.out _ hb))
    ((first
      | (go_at_call 46; refine (with_any _ _ l [2] _ L 0 (HV.out _ (B5.trans ((bel_mark W.drew (.cells #[.int .u8 2] 5)).mono B5.size))) (by first | exact rdB_at W.drew W.drew.heap.size rfl 2 (2 : UInt8) rfl | exact rdB_at W.drew W.heap.size rfl 2 (2 : UInt8) rfl) HVN.out (by rintro n' c' h'; cases h') HL1.out).mono ?_; rintro e w1 ⟨v1, rfl, ho1, hb1⟩; have hb := (bel_mark W.drew (.cells #[.int .u8 2] 5)).trans (hb1.mono (bel_mark W.drew (.cells #[.int .u8 2] 5)).size))
      | (go_at_call 20; refine (HT.out v1 w1 _ (RdB.of_own ho1 HL2.out) (own_not_none ho1)).mono ?_; rintro e w2 ⟨v2, rfl, ho2, hb2⟩; have hb3 := hb; have hb := hb.trans (hb2.mono hb.size))))
  go_wp2
  go_ret
  rw [HE.out]
  exact ⟨_, rfl, ownsRow_low ho2 (Nat.le_trans B5.size hb3.size), B5.trans (hb.mono B5.size)⟩
set_option maxRecDepth 100000 in
set_option maxHeartbeats 1600000 in
theorem rPutValue_b0 (v : Value) (l : List UInt8) (w : World) (L : Nat) (hv : RdB w L w.heap.size v l) (hvn : ∀ n c, v = .slice none n c → c = 0) (hl : l.length ≤ 140737488355200) :
    Calls Try.prog 25 #[v, valV (3, 0, ⟨#[]⟩)] w (RetB w.heap.size w (l ++ [3])) := by
  unfold valV
  dsimp only
  have b1 := bel_mark w (.cells #[.int .i64 3, .int .i64 0, .string ⟨#[]⟩] 35)
  have b2 := bel_mark (w.alloc (.cells #[.int .i64 3, .int .i64 0, .string ⟨#[]⟩] 35)) (.cells #[.int .u8 3] 5)
  have B2 := b1.trans (b2.mono b1.size)
  have hw := with_any v _ l [3] _ L 0 (hv.step B2 (Nat.le_refl _)) (rdB_at (w.alloc (.cells #[.int .i64 3, .int .i64 0, .string ⟨#[]⟩] 35)) (w.heap.size + 1) (by simp) 3 (3 : UInt8) rfl) hvn (by rintro n' c' h'; cases h') (by simp; omega)
  have HW := Lib.hid hw
  have HB2 := Lib.hid B2
  obtain ⟨A, c, rfl, _⟩ := hv
  clear hvn hw b1 b2 B2
  go_enter Try.func25, Try.ntmps25
  go_wp2_with fail
  refine HW.out.mono ?_
  rintro e w1 ⟨v1, rfl, ho1, hb1⟩
  go_wp2_with fail
  go_ret
  exact ⟨_, rfl, ownsRow_low ho1 HB2.out.size, HB2.out.trans (hb1.mono HB2.out.size)⟩
set_option maxRecDepth 100000 in
set_option maxHeartbeats 1600000 in
theorem rPutValue_b1 (v : Value) (l : List UInt8) (w : World) (L : Nat) (hv : RdB w L w.heap.size v l) (hvn : ∀ n c, v = .slice none n c → c = 0) (hl : l.length ≤ 140737488355200) :
    Calls Try.prog 25 #[v, valV (3, 1, ⟨#[]⟩)] w (RetB w.heap.size w (l ++ [4])) := by
  unfold valV
  dsimp only
  have b1 := bel_mark w (.cells #[.int .i64 3, .int .i64 1, .string ⟨#[]⟩] 35)
  have b2 := bel_mark (w.alloc (.cells #[.int .i64 3, .int .i64 1, .string ⟨#[]⟩] 35)) (.cells #[.int .u8 4] 5)
  have B2 := b1.trans (b2.mono b1.size)
  have hw := with_any v _ l [4] _ L 0 (hv.step B2 (Nat.le_refl _)) (rdB_at (w.alloc (.cells #[.int .i64 3, .int .i64 1, .string ⟨#[]⟩] 35)) (w.heap.size + 1) (by simp) 4 (4 : UInt8) rfl) hvn (by rintro n' c' h'; cases h') (by simp; omega)
  have HW := Lib.hid hw
  have HB2 := Lib.hid B2
  obtain ⟨A, c, rfl, _⟩ := hv
  clear hvn hw b1 b2 B2
  go_enter Try.func25, Try.ntmps25
  go_wp2_with fail
  refine HW.out.mono ?_
  rintro e w1 ⟨v1, rfl, ho1, hb1⟩
  go_wp2_with fail
  go_ret
  exact ⟨_, rfl, ownsRow_low ho1 HB2.out.size, HB2.out.trans (hb1.mono HB2.out.size)⟩
set_option maxRecDepth 100000 in
set_option maxHeartbeats 1600000 in
theorem rPutValue_null (v : Value) (l : List UInt8) (w : World) (L : Nat) (hv : RdB w L w.heap.size v l) (hvn : ∀ n c, v = .slice none n c → c = 0) (hl : l.length ≤ 140737488355200) :
    Calls Try.prog 25 #[v, valV (0, 0, ⟨#[]⟩)] w (RetB w.heap.size w (l ++ [0])) := by
  unfold valV
  dsimp only
  have b1 := bel_mark w (.cells #[.int .i64 0, .int .i64 0, .string ⟨#[]⟩] 35)
  have b2 := bel_mark (w.alloc (.cells #[.int .i64 0, .int .i64 0, .string ⟨#[]⟩] 35)) (.cells #[.int .u8 0] 5)
  have B2 := b1.trans (b2.mono b1.size)
  have hw := with_any v _ l [0] _ L 0 (hv.step B2 (Nat.le_refl _)) (rdB_at (w.alloc (.cells #[.int .i64 0, .int .i64 0, .string ⟨#[]⟩] 35)) (w.heap.size + 1) (by simp) 0 (0 : UInt8) rfl) hvn (by rintro n' c' h'; cases h') (by simp; omega)
  have HW := Lib.hid hw
  have HB2 := Lib.hid B2
  obtain ⟨A, c, rfl, _⟩ := hv
  clear hvn hw b1 b2 B2
  go_enter Try.func25, Try.ntmps25
  go_wp2_with fail
  refine HW.out.mono ?_
  rintro e w1 ⟨v1, rfl, ho1, hb1⟩
  go_wp2_with fail
  go_ret
  exact ⟨_, rfl, ownsRow_low ho1 HB2.out.size, HB2.out.trans (hb1.mono HB2.out.size)⟩
theorem rPutValue_any (v : Value) (l : List UInt8) (p : Vl) (hok : okP p = true) (w : World) (L : Nat) (hv : RdB w L w.heap.size v l) (hvn : ∀ n c, v = .slice none n c → c = 0) (hl : l.length + p.2.2.size ≤ 140737488355200) :
    Calls Try.prog 25 #[v, valV p] w (RetB w.heap.size w (l ++ encV p)) := by
  rcases okP_cases hok with rfl | ⟨n, rfl, h1, h2⟩ | ⟨s, rfl, h1, h2⟩ | rfl | rfl
  · exact rPutValue_null v l w L hv hvn (by omega)
  · exact rPutValue_1 v l n ⟨#[]⟩ ⟨by omega, by omega⟩ w L hv hvn hl
  · exact rPutValue_2 v l s w L hv hvn hl
  · exact rPutValue_b0 v l w L hv hvn (by omega)
  · exact rPutValue_b1 v l w L hv hvn (by omega)
end Go.Proofs.Ytomiegfblhhhpaa
