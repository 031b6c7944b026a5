/-
  The program's appendText, appendOrdered, appendValue and appendKey at numbers and texts, PutValue at a text: what each answers. Conditions: lengths, numbers of 64 bits.
-/
import Derived.Test.YtclpemmpckjemaaDoorCo7
import Derived.Outline
import Derived.WalkKit
import Derived.WalkSpells
import Derived.WalkLawsBesides
import Derived.Deep.QuietTactic
import Derived.BigQuiet
import Derived.Handy
import Derived.Lib.Hide
namespace Go.Proofs.YtclpemmpckjemaaDoor
open Go.RowKit

theorem vint_pos (z : Nat) : 0 < (vint z).length := by
  by_cases h : z < 128
  · rw [vint_last h]; simp
  · rw [vint_more h]; simp
/-- The bytes of a text behind their number. -/
def textB (s : ByteArray) : List UInt8 := vint (zig s.size) ++ s.data.toList
theorem size_list (s : ByteArray) : s.data.toList.length = s.size := by rw [← Lib.size_eq]
set_option maxHeartbeats 800000 in
theorem appendText_any (v : Value) (l : List UInt8) (s : ByteArray) (w : World) (base : Nat) (hB : Buf w base v l) (hz : base ≤ w.heap.size) (hm : l.length + s.size ≤ 140737488355300) :
    Calls Tryd.prog 35 #[v, .string s] w (RetB base w (l ++ textB s)) := by
  have hn : I64 (s.size : Int) := ⟨by omega, by omega⟩
  have h1 := appendInt_any v l (s.size : Int) hn w base hB hz (by omega)
  have hv10 := vint_len10 (zig_lt hn)
  have hvp := vint_pos (zig s.size)
  have H1 := Lib.hid h1
  have HE := Lib.hid (show l ++ textB s = (l ++ vint (zig s.size)) ++ s.data.toList by unfold textB; rw [List.append_assoc])
  have hll : (l ++ vint (zig s.size)).length = l.length + (vint (zig s.size)).length := List.length_append
  generalize vint (zig s.size) = vz at *
  have HLL := Lib.hid hll
  clear h1 hll hB hn
  go_enter Tryd.func35, Tryd.ntmps35
  go_wp2_with fail
  with_reducible refine H1.out.mono ?_
  rintro e w1 ⟨v1, rfl, ho1, hb1⟩
  have h2 := appendBytes_any v1 _ s w1 base ho1 (by rw [HLL.out]; omega) (Nat.le_trans hz hb1.size) (by rw [HLL.out]; omega)
  have H2 := Lib.hid h2
  clear h2 ho1
  go_wp2_with fail
  with_reducible refine H2.out.mono ?_
  rintro e w2 ⟨⟨v2, rfl, ho2, hb2⟩, _⟩
  go_wp2_with fail
  go_ret
  rw [HE.out]
  exact ⟨_, rfl, ho2, hb1.trans hb2⟩
/-- A number with its sign turned, in eight bytes, the most significant one first. -/
def ordB (N : Nat) : List UInt8 := [UInt8.ofNat (N / 72057594037927936), UInt8.ofNat (N / 281474976710656), UInt8.ofNat (N / 1099511627776), UInt8.ofNat (N / 4294967296), UInt8.ofNat (N / 16777216), UInt8.ofNat (N / 65536), UInt8.ofNat (N / 256), UInt8.ofNat N]
def shf (n : Int) : Nat := (n + 9223372036854775808).toNat
set_option maxRecDepth 100000 in
set_option maxHeartbeats 3200000 in
theorem appendOrdered_any (v : Value) (l : List UInt8) (n : Int) (hn : I64 n) (w : World) (base : Nat) (hO : w.ownsRow base 5 1 v l.length (bytV l)) (hz : base ≤ w.heap.size) (hl : l.length ≤ 140737488355300) :
    Calls Tryd.prog 30 #[v, .int .i64 n] w (RetB base w (l ++ ordB (shf n))) := by
  unfold I64 at hn
  have hN : shf n < 18446744073709551616 := by unfold shf; omega
  have hsh : IntKind.u64.wrap (IntKind.u64.wrap n + 9223372036854775808) = ((shf n : Nat) : Int) := by unfold shf; rw [IntKind.wrap_u64, IntKind.wrap_u64]; omega
  have HO := Lib.hid hO
  have HL8 := Lib.hid (show (ordB (shf n)).length = 8 from rfl)
  generalize hNN : shf n = N at *
  clear hO hNN
  go_enter Tryd.func30, Tryd.ntmps30
  go_wp2_with fail
  go_loopw [0, 6] (fun key b wr => ∃ k : Nat, k ≤ 8 ∧ b = .int .i64 (56 - 8 * (k : Nat)) ∧ Hid (wr.ownsRow base 5 1 key (l ++ (ordB N).take k).length (bytV (l ++ (ordB N).take k))) ∧ Below base w wr ∧ base ≤ wr.heap.size) (fun _ b _ => (intOf b + 8).toNat)
  case atStart => exact ⟨0, by omega, rfl, Lib.hid (by rw [List.take_zero, List.append_nil]; exact HO.out), Below.refl _ _, hz⟩
  case round =>
    obtain ⟨k, hk, rfl, HK, hbr, hbz⟩ := hrel
    have hk8 : k = 0 ∨ k = 1 ∨ k = 2 ∨ k = 3 ∨ k = 4 ∨ k = 5 ∨ k = 6 ∨ k = 7 ∨ k = 8 := by omega
    clear hk
    rcases hk8 with rfl | rfl | rfl | rfl | rfl | rfl | rfl | rfl | rfl
    · have hby : ((N : Int) / 72057594037927936) = ((UInt8.ofNat (N / 72057594037927936)).toNat : Int) := by rw [UInt8.toNat_ofNat']; omega
      have HE := Lib.hid (show l ++ (ordB N).take 0 ++ [UInt8.ofNat (N / 72057594037927936)] = l ++ (ordB N).take 1 by rw [List.append_assoc]; rfl)
      have bm := bel_mark wr (.cells #[.int .u8 ((N : Int) / 72057594037927936)] 5)
      have HAL := Lib.hid (own_below HK.out bm)
      have HRB := Lib.hid (rdB_byte wr ((N : Int) / 72057594037927936) (UInt8.ofNat (N / 72057594037927936)) hby)
      have hzb := Nat.le_trans hbz bm.size
      have HB1 := Lib.hid (hbr.trans (bm.mono hbz))
      have hlk : (l ++ (ordB N).take 0).length + ([UInt8.ofNat (N / 72057594037927936)] : List UInt8).length ≤ 140737488355328 := by rw [List.length_append, List.length_take]; simp; omega
      have HLK := Lib.hid hlk
      clear hby bm hlk
      go_wp2_with (at_builtin; refine append_x _ rfl _ _ rfl base _ (l ++ (ordB N).take 0) rfl HAL.out _ [UInt8.ofNat (N / 72057594037927936)] _ _ rfl HRB.out (by rintro n' c' h'; cases h') HLK.out hzb ?_; intro v2 w2 ho2 hb2)
      go_round
      case rel => exact ⟨1, by omega, by first | rfl | go_num, Lib.hid (by rw [← HE.out]; exact ho2), HB1.out.trans hb2, Nat.le_trans hzb hb2.size⟩
      case measure => simp [intOf]
    · have hby : ((N : Int) / 281474976710656 % 256) = ((UInt8.ofNat (N / 281474976710656)).toNat : Int) := by rw [UInt8.toNat_ofNat']; omega
      have HE := Lib.hid (show l ++ (ordB N).take 1 ++ [UInt8.ofNat (N / 281474976710656)] = l ++ (ordB N).take 2 by rw [List.append_assoc]; rfl)
      have bm := bel_mark wr (.cells #[.int .u8 ((N : Int) / 281474976710656 % 256)] 5)
      have HAL := Lib.hid (own_below HK.out bm)
      have HRB := Lib.hid (rdB_byte wr ((N : Int) / 281474976710656 % 256) (UInt8.ofNat (N / 281474976710656)) hby)
      have hzb := Nat.le_trans hbz bm.size
      have HB1 := Lib.hid (hbr.trans (bm.mono hbz))
      have hlk : (l ++ (ordB N).take 1).length + ([UInt8.ofNat (N / 281474976710656)] : List UInt8).length ≤ 140737488355328 := by rw [List.length_append, List.length_take]; simp; omega
      have HLK := Lib.hid hlk
      clear hby bm hlk
      go_wp2_with (at_builtin; refine append_x _ rfl _ _ rfl base _ (l ++ (ordB N).take 1) rfl HAL.out _ [UInt8.ofNat (N / 281474976710656)] _ _ rfl HRB.out (by rintro n' c' h'; cases h') HLK.out hzb ?_; intro v2 w2 ho2 hb2)
      go_round
      case rel => exact ⟨2, by omega, by first | rfl | go_num, Lib.hid (by rw [← HE.out]; exact ho2), HB1.out.trans hb2, Nat.le_trans hzb hb2.size⟩
      case measure => simp [intOf]
    · have hby : ((N : Int) / 1099511627776 % 256) = ((UInt8.ofNat (N / 1099511627776)).toNat : Int) := by rw [UInt8.toNat_ofNat']; omega
      have HE := Lib.hid (show l ++ (ordB N).take 2 ++ [UInt8.ofNat (N / 1099511627776)] = l ++ (ordB N).take 3 by rw [List.append_assoc]; rfl)
      have bm := bel_mark wr (.cells #[.int .u8 ((N : Int) / 1099511627776 % 256)] 5)
      have HAL := Lib.hid (own_below HK.out bm)
      have HRB := Lib.hid (rdB_byte wr ((N : Int) / 1099511627776 % 256) (UInt8.ofNat (N / 1099511627776)) hby)
      have hzb := Nat.le_trans hbz bm.size
      have HB1 := Lib.hid (hbr.trans (bm.mono hbz))
      have hlk : (l ++ (ordB N).take 2).length + ([UInt8.ofNat (N / 1099511627776)] : List UInt8).length ≤ 140737488355328 := by rw [List.length_append, List.length_take]; simp; omega
      have HLK := Lib.hid hlk
      clear hby bm hlk
      go_wp2_with (at_builtin; refine append_x _ rfl _ _ rfl base _ (l ++ (ordB N).take 2) rfl HAL.out _ [UInt8.ofNat (N / 1099511627776)] _ _ rfl HRB.out (by rintro n' c' h'; cases h') HLK.out hzb ?_; intro v2 w2 ho2 hb2)
      go_round
      case rel => exact ⟨3, by omega, by first | rfl | go_num, Lib.hid (by rw [← HE.out]; exact ho2), HB1.out.trans hb2, Nat.le_trans hzb hb2.size⟩
      case measure => simp [intOf]
    · have hby : ((N : Int) / 4294967296 % 256) = ((UInt8.ofNat (N / 4294967296)).toNat : Int) := by rw [UInt8.toNat_ofNat']; omega
      have HE := Lib.hid (show l ++ (ordB N).take 3 ++ [UInt8.ofNat (N / 4294967296)] = l ++ (ordB N).take 4 by rw [List.append_assoc]; rfl)
      have bm := bel_mark wr (.cells #[.int .u8 ((N : Int) / 4294967296 % 256)] 5)
      have HAL := Lib.hid (own_below HK.out bm)
      have HRB := Lib.hid (rdB_byte wr ((N : Int) / 4294967296 % 256) (UInt8.ofNat (N / 4294967296)) hby)
      have hzb := Nat.le_trans hbz bm.size
      have HB1 := Lib.hid (hbr.trans (bm.mono hbz))
      have hlk : (l ++ (ordB N).take 3).length + ([UInt8.ofNat (N / 4294967296)] : List UInt8).length ≤ 140737488355328 := by rw [List.length_append, List.length_take]; simp; omega
      have HLK := Lib.hid hlk
      clear hby bm hlk
      go_wp2_with (at_builtin; refine append_x _ rfl _ _ rfl base _ (l ++ (ordB N).take 3) rfl HAL.out _ [UInt8.ofNat (N / 4294967296)] _ _ rfl HRB.out (by rintro n' c' h'; cases h') HLK.out hzb ?_; intro v2 w2 ho2 hb2)
      go_round
      case rel => exact ⟨4, by omega, by first | rfl | go_num, Lib.hid (by rw [← HE.out]; exact ho2), HB1.out.trans hb2, Nat.le_trans hzb hb2.size⟩
      case measure => simp [intOf]
    · have hby : ((N : Int) / 16777216 % 256) = ((UInt8.ofNat (N / 16777216)).toNat : Int) := by rw [UInt8.toNat_ofNat']; omega
      have HE := Lib.hid (show l ++ (ordB N).take 4 ++ [UInt8.ofNat (N / 16777216)] = l ++ (ordB N).take 5 by rw [List.append_assoc]; rfl)
      have bm := bel_mark wr (.cells #[.int .u8 ((N : Int) / 16777216 % 256)] 5)
      have HAL := Lib.hid (own_below HK.out bm)
      have HRB := Lib.hid (rdB_byte wr ((N : Int) / 16777216 % 256) (UInt8.ofNat (N / 16777216)) hby)
      have hzb := Nat.le_trans hbz bm.size
      have HB1 := Lib.hid (hbr.trans (bm.mono hbz))
      have hlk : (l ++ (ordB N).take 4).length + ([UInt8.ofNat (N / 16777216)] : List UInt8).length ≤ 140737488355328 := by rw [List.length_append, List.length_take]; simp; omega
      have HLK := Lib.hid hlk
      clear hby bm hlk
      go_wp2_with (at_builtin; refine append_x _ rfl _ _ rfl base _ (l ++ (ordB N).take 4) rfl HAL.out _ [UInt8.ofNat (N / 16777216)] _ _ rfl HRB.out (by rintro n' c' h'; cases h') HLK.out hzb ?_; intro v2 w2 ho2 hb2)
      go_round
      case rel => exact ⟨5, by omega, by first | rfl | go_num, Lib.hid (by rw [← HE.out]; exact ho2), HB1.out.trans hb2, Nat.le_trans hzb hb2.size⟩
      case measure => simp [intOf]
    · have hby : ((N : Int) / 65536 % 256) = ((UInt8.ofNat (N / 65536)).toNat : Int) := by rw [UInt8.toNat_ofNat']; omega
      have HE := Lib.hid (show l ++ (ordB N).take 5 ++ [UInt8.ofNat (N / 65536)] = l ++ (ordB N).take 6 by rw [List.append_assoc]; rfl)
      have bm := bel_mark wr (.cells #[.int .u8 ((N : Int) / 65536 % 256)] 5)
      have HAL := Lib.hid (own_below HK.out bm)
      have HRB := Lib.hid (rdB_byte wr ((N : Int) / 65536 % 256) (UInt8.ofNat (N / 65536)) hby)
      have hzb := Nat.le_trans hbz bm.size
      have HB1 := Lib.hid (hbr.trans (bm.mono hbz))
      have hlk : (l ++ (ordB N).take 5).length + ([UInt8.ofNat (N / 65536)] : List UInt8).length ≤ 140737488355328 := by rw [List.length_append, List.length_take]; simp; omega
      have HLK := Lib.hid hlk
      clear hby bm hlk
      go_wp2_with (at_builtin; refine append_x _ rfl _ _ rfl base _ (l ++ (ordB N).take 5) rfl HAL.out _ [UInt8.ofNat (N / 65536)] _ _ rfl HRB.out (by rintro n' c' h'; cases h') HLK.out hzb ?_; intro v2 w2 ho2 hb2)
      go_round
      case rel => exact ⟨6, by omega, by first | rfl | go_num, Lib.hid (by rw [← HE.out]; exact ho2), HB1.out.trans hb2, Nat.le_trans hzb hb2.size⟩
      case measure => simp [intOf]
    · have hby : ((N : Int) / 256 % 256) = ((UInt8.ofNat (N / 256)).toNat : Int) := by rw [UInt8.toNat_ofNat']; omega
      have HE := Lib.hid (show l ++ (ordB N).take 6 ++ [UInt8.ofNat (N / 256)] = l ++ (ordB N).take 7 by rw [List.append_assoc]; rfl)
      have bm := bel_mark wr (.cells #[.int .u8 ((N : Int) / 256 % 256)] 5)
      have HAL := Lib.hid (own_below HK.out bm)
      have HRB := Lib.hid (rdB_byte wr ((N : Int) / 256 % 256) (UInt8.ofNat (N / 256)) hby)
      have hzb := Nat.le_trans hbz bm.size
      have HB1 := Lib.hid (hbr.trans (bm.mono hbz))
      have hlk : (l ++ (ordB N).take 6).length + ([UInt8.ofNat (N / 256)] : List UInt8).length ≤ 140737488355328 := by rw [List.length_append, List.length_take]; simp; omega
      have HLK := Lib.hid hlk
      clear hby bm hlk
      go_wp2_with (at_builtin; refine append_x _ rfl _ _ rfl base _ (l ++ (ordB N).take 6) rfl HAL.out _ [UInt8.ofNat (N / 256)] _ _ rfl HRB.out (by rintro n' c' h'; cases h') HLK.out hzb ?_; intro v2 w2 ho2 hb2)
      go_round
      case rel => exact ⟨7, by omega, by first | rfl | go_num, Lib.hid (by rw [← HE.out]; exact ho2), HB1.out.trans hb2, Nat.le_trans hzb hb2.size⟩
      case measure => simp [intOf]
    · have hby : ((N : Int) % 256) = ((UInt8.ofNat N).toNat : Int) := by rw [UInt8.toNat_ofNat']; omega
      have HE := Lib.hid (show l ++ (ordB N).take 7 ++ [UInt8.ofNat N] = l ++ (ordB N).take 8 by rw [List.append_assoc]; rfl)
      have bm := bel_mark wr (.cells #[.int .u8 ((N : Int) % 256)] 5)
      have HAL := Lib.hid (own_below HK.out bm)
      have HRB := Lib.hid (rdB_byte wr ((N : Int) % 256) (UInt8.ofNat N) hby)
      have hzb := Nat.le_trans hbz bm.size
      have HB1 := Lib.hid (hbr.trans (bm.mono hbz))
      have hlk : (l ++ (ordB N).take 7).length + ([UInt8.ofNat N] : List UInt8).length ≤ 140737488355328 := by rw [List.length_append, List.length_take]; simp; omega
      have HLK := Lib.hid hlk
      clear hby bm hlk
      go_wp2_with (at_builtin; refine append_x _ rfl _ _ rfl base _ (l ++ (ordB N).take 7) rfl HAL.out _ [UInt8.ofNat N] _ _ rfl HRB.out (by rintro n' c' h'; cases h') HLK.out hzb ?_; intro v2 w2 ho2 hb2)
      go_round
      case rel => exact ⟨8, by omega, by first | rfl | go_num, Lib.hid (by rw [← HE.out]; exact ho2), HB1.out.trans hb2, Nat.le_trans hzb hb2.size⟩
      case measure => simp [intOf]
    · rw [List.take_of_length_le (by rw [HL8.out]; exact Nat.le_refl 8)] at HK
      go_wp2
      go_ret
      exact ⟨_, rfl, HK.out, hbr⟩
end Go.Proofs.YtclpemmpckjemaaDoor
