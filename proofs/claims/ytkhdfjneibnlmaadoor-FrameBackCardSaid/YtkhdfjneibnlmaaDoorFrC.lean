/-
  Checksums of parts: what the program answers, in every world whose table lies as the rows say. Conditions: that.
-/
import Derived.Test.YtkhdfjneibnlmaaDoorFrB
import Derived.Lib.SmallJoins
import Derived.Lib.AppendIntMem
import Derived.WalkKit
import Derived.WalkSpells
import Derived.WalkLawsBesides
import Derived.Deep.QuietTactic
import Derived.BigQuiet
import Derived.Handy
import Derived.Lib.Hide
namespace Go.Proofs.YtkhdfjneibnlmaaDoor
open Go.RowKit

/-- The table of half bytes reads as the program's text lays it. -/
structure Env (w : World) : Prop where
  low : Tryd.prog.globals.size ≤ w.heap.size
  tab : Lib.TabIs Tryd.prog w "bitemporal/frame.halfByteSteps" .u32 tabL
theorem globalsSize : Tryd.prog.globals.size = 1 := by kernel_rfl
theorem gTab : Tryd.prog.globalNamed "bitemporal/frame.halfByteSteps" = some 0 := by kernel_rfl
theorem Env.step {w w' : World} (h : Env w) (hb : Below w.heap.size w w') : Env w' := ⟨Nat.le_trans h.low hb.size, Lib.tabBelow_of_tabIs h.tab w' hb⟩
theorem Env.cell {w : World} (h : Env w) (d : Nat) (hd : d < 16) : w.cell? ⟨0, d, none⟩ = some (.int .u32 (tabN d : Nat)) := by
  have h1 := h.tab.cell gTab d (by show d < tabL.length; exact hd)
  rw [h1]
  have h2 := tab_at d hd
  rw [List.getD_eq_getElem?_getD, h2]
  rfl
/-- A slice of slices of bytes. -/
def RdS (w : World) (L B : Nat) (v : Value) (ps : List (List UInt8)) : Prop :=
  ∃ A c, v = .slice A ps.length c ∧ ps.length ≤ 9223372036854775807 ∧ ∀ (k : Nat) (p : List UInt8), ps[k]? = some p → ∃ (ad : Addr) (u : Value), A = some ad ∧ w.cell? (ad.add k) = some u ∧ RdB w L B u p
theorem xor_tab (y d : Nat) (hy : y < 4294967296) (hd : d < 16) : bits .xor .u32 ((y : Int) / 16) (tabN d : Int) = ((y / 16 ^^^ tabN d : Nat) : Int) := by
  have := u32_xor_nat (y / 16) (tabN d) (by omega) (tabN_lt d hd)
  rw [Int.natCast_ediv] at this
  exact this
theorem cat_take (ps : List (List UInt8)) (k : Nat) (h : k < ps.length) : (ps.take (k + 1)).flatten = (ps.take k).flatten ++ ps[k] := by
  rw [List.take_succ_eq_append_getElem h, List.flatten_append]; simp
set_option maxRecDepth 100000 in
set_option maxHeartbeats 1600000 in
theorem check_any (v : Value) (ps : List (List UInt8)) (w : World) (L B : Nat) (henv : Env w) (hv : RdS w L B v ps) :
    Calls Tryd.prog 24 #[v] w fun e w' => e = .returned (.int .u32 (crc ps.flatten : Nat)) ∧ w' = w := by
  obtain ⟨A, c, rfl, hl, hc⟩ := hv
  have HC := Lib.hid hc
  have HE := Lib.hid (crc_end ps.flatten)
  have HT := Lib.hid (fun d hd => henv.cell d hd)
  clear hc henv
  go_enter Tryd.func24, Tryd.ntmps24
  go_wp2
  go_loop [3, 10] (fun s i => ∃ k : Nat, k ≤ ps.length ∧ i = .int .i64 k ∧ s = .int .u32 (crcU 4294967295 (ps.take k).flatten : Nat)) (fun _ i => ps.length - (intOf i).toNat)
  case atStart => exact ⟨0, Nat.zero_le _, rfl, rfl⟩
  case round =>
    obtain ⟨k, hk, rfl, rfl⟩ := hrel
    by_cases hlt : k < ps.length
    · obtain ⟨ad, u, rfl, h3, h4⟩ := HC.out k _ (List.getElem?_eq_getElem hlt)
      have hcat := cat_take ps k hlt
      have hfin : crcU 4294967295 (ps.take (k + 1)).flatten = crcU (crcU 4294967295 (ps.take k).flatten) ps[k] := by rw [hcat, crcU_app]
      have HF := Lib.hid hfin
      have hx0 := crcU_lt (ps.take k).flatten 4294967295 (by decide)
      clear hcat hfin
      generalize crcU 4294967295 (ps.take k).flatten = x0 at *
      generalize ps[k] = q at *
      obtain ⟨A2, c2, rfl, hl2, hcc2, hc2⟩ := h4
      have HQ := Lib.hid hc2
      clear hc2
      go_wp2
      go_loop [3, 16] (fun s i => ∃ j : Nat, j ≤ q.length ∧ i = .int .i64 j ∧ s = .int .u32 (crcU x0 (q.take j) : Nat)) (fun _ i => q.length - (intOf i).toNat)
      case atStart => exact ⟨0, Nat.zero_le _, rfl, rfl⟩
      case round =>
        obtain ⟨j, hj, rfl, rfl⟩ := hrel
        by_cases hjt : j < q.length
        · obtain ⟨ad2, rfl, _, _, h5⟩ := HQ.out j _ (List.getElem?_eq_getElem hjt)
          have hst := crc_step x0 q j hjt
          rw [byR_tab] at hst
          have hxl := crcU_lt (q.take j) x0 hx0
          generalize crcU x0 (q.take j) = x at *
          generalize q[j] = b at *
          have hb := bits_byte x b hxl
          have hyl : x ^^^ b.toNat < 4294967296 := Nat.xor_lt_two_pow (n := 32) hxl (by have := b.toNat_lt; omega)
          generalize x ^^^ b.toNat = y at *
          have hbl := b.toNat_lt
          have t1 := HT.out (y % 16) (by omega)
          have x1 := xor_tab y (y % 16) hyl (by omega)
          have hzl : hbs y < 4294967296 := hbs_lt hyl
          have hz : hbs y = y / 16 ^^^ tabN (y % 16) := rfl
          rw [← hz] at x1
          generalize hbs y = z at *
          have t2 := HT.out (z % 16) (by omega)
          have x2 := xor_tab z (z % 16) hzl (by omega)
          have hy2 : hbs z = z / 16 ^^^ tabN (z % 16) := rfl
          rw [← hy2] at x2
          have HS := Lib.hid hst
          clear hst hz hy2
          generalize hbs z = z2 at *
          generalize tabN (y % 16) = ty at *
          generalize tabN (z % 16) = tz at *
          go_wp2
          go_round
          case rel => exact ⟨j + 1, by omega, by go_num, by rw [HS.out]⟩
          case measure => simp [intOf]; omega
        · have hq : q.take j = q := List.take_of_length_le (by omega)
          rw [hq]
          have HF2 := HF.out
          clear hq
          generalize crcU x0 q = x at *
          go_wp2
          go_round
          case rel => exact ⟨k + 1, by omega, by go_num, by rw [HF2]⟩
          case measure => simp [intOf]; omega
    · have ht : ps.take k = ps := List.take_of_length_le (by omega)
      rw [ht]
      have hE := HE.out
      clear ht
      generalize crcU 4294967295 ps.flatten = x at *
      go_wp2
      go_ret
      exact ⟨by first | rfl | (rw [hE]; rfl) | (rw [← hE]; rfl), rfl⟩
end Go.Proofs.YtkhdfjneibnlmaaDoor
