import Derived.Test.YtclpemmpckjemaaDoorBase
import Derived.Laws.BitsAllLaws
import Derived.Test.YtclpemmpckjemaaDoorProg
import Derived.WalkSmall
import Derived.WalkKit
import Derived.WalkSpells
import Derived.WalkLawsBesides
import Derived.Deep.QuietTactic
import Derived.BigQuiet
import Derived.Handy
import Derived.Lib.Hide
import Derived.Lib.SmallJoins
import Derived.Lib.AppendIntMem
/-
  Mathematics of the checksum: steps of one bit, of four bits by the table, of bytes. Conditions: none.
-/
namespace Go.Proofs.YtclpemmpckjemaaDoor.Fr

/-- One step of the register. -/
def bst (r : Nat) : Nat := if r % 2 = 1 then r / 2 ^^^ 2197175160 else r / 2
def bstN : Nat → Nat → Nat
  | 0, r => r
  | n + 1, r => bst (bstN n r)
theorem bstN_bst : ∀ (n r : Nat), bstN n (bst r) = bstN (n + 1) r
  | 0, _ => rfl
  | n + 1, r => by show bst (bstN n (bst r)) = bst (bstN (n + 1) r); rw [bstN_bst n r]
theorem bstN_add (m : Nat) : ∀ (n r : Nat), bstN n (bstN m r) = bstN (n + m) r
  | 0, r => by rw [Nat.zero_add]; rfl
  | n + 1, r => by rw [Nat.add_right_comm]; show bst (bstN n (bstN m r)) = bst (bstN (n + m) r); rw [bstN_add m n r]
theorem bst_lt {r : Nat} (h : r < 4294967296) : bst r < 4294967296 := by
  unfold bst; split
  · exact Nat.xor_lt_two_pow (n := 32) (by omega) (by decide)
  · omega
theorem bstN_lt {r : Nat} (h : r < 4294967296) : ∀ n, bstN n r < 4294967296
  | 0 => h
  | n + 1 => bst_lt (bstN_lt h n)
theorem bst_lin (x y : Nat) : bst (x ^^^ y) = bst x ^^^ bst y := by
  have h2 : (x ^^^ y) / 2 = x / 2 ^^^ y / 2 := by
    have := Nat.shiftRight_xor_distrib (a := x) (b := y) (i := 1)
    simpa [Nat.shiftRight_eq_div_pow] using this
  have hm : (x ^^^ y) % 2 = (x + y) % 2 := by
    have h0 := Nat.testBit_xor x y 0
    rw [Nat.testBit_zero, Nat.testBit_zero, Nat.testBit_zero] at h0
    rcases Nat.mod_two_eq_zero_or_one x with hx | hx <;> rcases Nat.mod_two_eq_zero_or_one y with hy | hy <;> rcases Nat.mod_two_eq_zero_or_one (x ^^^ y) with hz | hz <;> rw [hx, hy, hz] at h0 <;> first | omega | (exact absurd h0 (by decide))
  unfold bst
  rw [h2, hm]
  rcases Nat.mod_two_eq_zero_or_one x with hx | hx <;> rcases Nat.mod_two_eq_zero_or_one y with hy | hy
  · rw [if_neg (by omega), if_neg (by omega), if_neg (by omega)]
  · rw [if_pos (by omega), if_neg (by omega), if_pos hy, Nat.xor_assoc]
  · rw [if_pos (by omega), if_pos hx, if_neg (by omega), Nat.xor_assoc, Nat.xor_assoc, Nat.xor_comm (y / 2)]
  · rw [if_neg (by omega), if_pos hx, if_pos hy, Nat.xor_assoc, ← Nat.xor_assoc 2197175160 (y / 2), Nat.xor_comm 2197175160 (y / 2), Nat.xor_assoc (y / 2), Nat.xor_self, Nat.xor_zero]
theorem bstN_lin (x y : Nat) : ∀ n, bstN n (x ^^^ y) = bstN n x ^^^ bstN n y
  | 0 => rfl
  | n + 1 => by show bst (bstN n (x ^^^ y)) = bst (bstN n x) ^^^ bst (bstN n y); rw [bstN_lin x y n, bst_lin]
theorem bst_two (m : Nat) : bst (2 * m) = m := by unfold bst; rw [if_neg (by omega)]; omega
theorem bstN_four (q : Nat) : bstN 4 (16 * q) = q := by
  show bst (bst (bst (bst (16 * q)))) = q
  rw [show 16 * q = 2 * (8 * q) by omega, bst_two, show 8 * q = 2 * (4 * q) by omega, bst_two, show 4 * q = 2 * (2 * q) by omega, bst_two, bst_two]
/-- The table. -/
def tabL : List Int := [0, 274646895, 549293790, 820201905, 1098587580, 1361435347, 1640403810, 1905808397, 2197175160, 2460548119, 2722870694, 2987750089, 3280807620, 3553878443, 3811616794, 4084100981]
def tabN (d : Nat) : Nat := bstN 4 d
theorem tab_fin : ∀ i : Fin 16, tabL[i.val]? = some (tabN i.val : Int) := by decide +kernel
theorem tab_at (d : Nat) (h : d < 16) : tabL[d]? = some (tabN d : Int) := tab_fin ⟨d, h⟩
theorem split16 (r : Nat) : r = 16 * (r / 16) ^^^ r % 16 := by
  apply Nat.eq_of_testBit_eq
  intro i
  rw [Nat.testBit_xor, show (16 : Nat) = 2 ^ 4 from rfl, Nat.testBit_two_pow_mul, Nat.testBit_mod_two_pow, Nat.testBit_div_two_pow]
  by_cases h : i < 4
  · rw [decide_eq_true h, decide_eq_false (p := i ≥ 4) (by omega)]; simp
  · rw [decide_eq_false h, decide_eq_true (p := i ≥ 4) (by omega), show i - 4 + 4 = i by omega]; simp
/-- Four steps by the table. -/
def hbs (r : Nat) : Nat := r / 16 ^^^ tabN (r % 16)
theorem hbs_eq (r : Nat) : hbs r = bstN 4 r := by
  have h := split16 r
  conv => rhs; rw [h]
  rw [bstN_lin, bstN_four]
  rfl
theorem tabN_lt (d : Nat) (h : d < 16) : tabN d < 4294967296 := bstN_lt (by omega) 4
theorem hbs_lt {r : Nat} (h : r < 4294967296) : hbs r < 4294967296 := by rw [hbs_eq]; exact bstN_lt h 4
/-- The register after a byte. -/
def byR (r : Nat) (c : UInt8) : Nat := bstN 8 (r ^^^ c.toNat)
theorem byR_lt {r : Nat} (h : r < 4294967296) (c : UInt8) : byR r c < 4294967296 :=
  bstN_lt (Nat.xor_lt_two_pow (n := 32) h (by have := c.toNat_lt; omega)) 8
theorem byR_tab (r : Nat) (c : UInt8) : byR r c = hbs (hbs (r ^^^ c.toNat)) := by
  rw [hbs_eq, hbs_eq, bstN_add]; rfl
def crcU (r : Nat) (l : List UInt8) : Nat := l.foldl byR r
theorem crcU_lt : ∀ (l : List UInt8) (r : Nat), r < 4294967296 → crcU r l < 4294967296 := by
  intro l
  induction l with
  | nil => intro r h; exact h
  | cons c l ih => intro r h; exact ih _ (byR_lt h c)
theorem crcU_snoc (r : Nat) (l : List UInt8) (c : UInt8) : crcU r (l ++ [c]) = byR (crcU r l) c := by unfold crcU; rw [List.foldl_append]; rfl
theorem crcU_app (r : Nat) (l m : List UInt8) : crcU r (l ++ m) = crcU (crcU r l) m := by unfold crcU; rw [List.foldl_append]
/-- The checksum. -/
def crc (l : List UInt8) : Nat := 4294967295 ^^^ crcU 4294967295 l
theorem crc_lt (l : List UInt8) : crc l < 4294967296 := Nat.xor_lt_two_pow (n := 32) (by decide) (crcU_lt l _ (by decide))
/-! ### steps are one to one -/
theorem bst_inj {x y : Nat} (hx : x < 4294967296) (hy : y < 4294967296) (h : bst x = bst y) : x = y := by
  have hd : ∀ a : Nat, a < 4294967296 → (a / 2) / 2147483648 = 0 := fun a ha => by omega
  have hz : bst (x ^^^ y) = 0 := by rw [bst_lin, h, Nat.xor_self]
  have hl : x ^^^ y < 4294967296 := Nat.xor_lt_two_pow (n := 32) hx hy
  generalize hm : x ^^^ y = m at *
  have h0 : m = 0 := by
    unfold bst at hz
    split at hz
    · exfalso
      have e : m / 2 = 2197175160 := by
        have := congrArg (· ^^^ 2197175160) hz
        simp only [Nat.xor_assoc, Nat.xor_self, Nat.xor_zero, Nat.zero_xor] at this
        exact this
      omega
    · omega
  subst h0
  have := congrArg (x ^^^ ·) hm
  simp only [← Nat.xor_assoc, Nat.xor_self, Nat.zero_xor, Nat.xor_zero] at this
  exact this.symm
theorem bstN_inj {x y : Nat} (hx : x < 4294967296) (hy : y < 4294967296) : ∀ n, bstN n x = bstN n y → x = y
  | 0, h => h
  | n + 1, h => bstN_inj hx hy n (bst_inj (bstN_lt hx n) (bstN_lt hy n) h)
end Go.Proofs.YtclpemmpckjemaaDoor.Fr

/-
  Bytes that are read, the reference's checksum and the program's: what each function answers, in every world. Conditions: lengths; the table lies as the rows say.
-/
namespace Go.Proofs.YtclpemmpckjemaaDoor.Fr
open Go.RowKit

theorem add_block (ad : Addr) (k : Nat) : (ad.add k).block = ad.block := by unfold Addr.add; split <;> rfl
/-- The slice v holds the bytes l; it lies below block B and not below block L; its room is at least its length. -/
def RdB (w : World) (L B : Nat) (v : Value) (l : List UInt8) : Prop :=
  ∃ A c, v = .slice A l.length c ∧ l.length ≤ 9223372036854775807 ∧ l.length ≤ c ∧ ∀ (k : Nat) (b : UInt8), l[k]? = some b → ∃ ad : Addr, A = some ad ∧ L ≤ ad.block ∧ ad.block < B ∧ w.cell? (ad.add k) = some (.int .u8 (b.toNat : Nat))
theorem RdB.below {w w' : World} {L B : Nat} {v : Value} {l : List UInt8} (h : RdB w L B v l) (hb : Below B w w') : RdB w' L B v l := by
  obtain ⟨A, c, hv, hl, hcc, hc⟩ := h
  exact ⟨A, c, hv, hl, hcc, fun k n hk => let ⟨ad, h1, h0, h2, h3⟩ := hc k n hk; ⟨ad, h1, h0, h2, (hb.cell (p := ad.add k) (by rw [add_block]; exact h2)).trans h3⟩⟩
theorem RdB.more {w : World} {L L' B B' : Nat} {v : Value} {l : List UInt8} (h : RdB w L B v l) (hB : B ≤ B') (hL : L' ≤ L) : RdB w L' B' v l := by
  obtain ⟨A, c, hv, hl, hcc, hc⟩ := h
  exact ⟨A, c, hv, hl, hcc, fun k n hk => let ⟨ad, h1, h0, h2, h3⟩ := hc k n hk; ⟨ad, h1, by omega, by omega, h3⟩⟩
theorem RdB.step {w w' : World} {L B : Nat} {v : Value} {l : List UInt8} (h : RdB w L B v l) (hb : Below w.heap.size w w') (hB : B ≤ w.heap.size) : RdB w' L w'.heap.size v l :=
  (h.below (hb.mono hB)).more (Nat.le_trans hB hb.size) (Nat.le_refl _)
theorem RdB.at {w : World} {L B : Nat} {A : Option Addr} {m c : Nat} {l : List UInt8} (h : RdB w L B (.slice A m c) l) {k : Nat} {b : UInt8} (hk : l[k]? = some b) : ∃ ad : Addr, A = some ad ∧ L ≤ ad.block ∧ ad.block < B ∧ w.cell? (ad.add k) = some (.int .u8 (b.toNat : Nat)) := by
  obtain ⟨A', c', hv, hl, _, hc⟩ := h
  injection hv with e1 e2 e3
  subst e1
  exact hc k b hk
theorem bits_byte (r : Nat) (c : UInt8) (hr : r < 4294967296) : bits .xor .u32 (r : Int) (c.toNat : Int) = ((r ^^^ c.toNat : Nat) : Int) := u32_xor_nat r c.toNat hr (by have := c.toNat_lt; omega)
end Go.Proofs.YtclpemmpckjemaaDoor.Fr

/-
  Checksums of bytes: what the reference and the program answer, in every world. Conditions: the table lies as the rows say.
-/
namespace Go.Proofs.YtclpemmpckjemaaDoor.Fr
open Go.RowKit

theorem take_one (l : List UInt8) (k : Nat) (h : k < l.length) : l.take (k + 1) = l.take k ++ [l[k]] := List.take_succ_eq_append_getElem h
theorem crc_step (r : Nat) (l : List UInt8) (k : Nat) (h : k < l.length) : crcU r (l.take (k + 1)) = byR (crcU r (l.take k)) l[k] := by rw [take_one l k h, crcU_snoc]
theorem crc_end (l : List UInt8) : bits .xor .u32 4294967295 (crcU 4294967295 l : Int) = (crc l : Int) := u32_xor_nat 4294967295 _ (by decide) (crcU_lt l _ (by decide))
end Go.Proofs.YtclpemmpckjemaaDoor.Fr

/-
  Checksums of parts: what the program answers, in every world whose table lies as the rows say. Conditions: that.
-/
namespace Go.Proofs.YtclpemmpckjemaaDoor.Fr
open Go.RowKit

/-- The table of half bytes reads as the program's text lays it. -/
structure Env (w : World) : Prop where
  low : Tryd.prog.globals.size ≤ w.heap.size
  tab : Lib.TabIs Tryd.prog w "bitemporal/frame.halfByteSteps" .u32 tabL
theorem globalsSize : Tryd.prog.globals.size = 2 := by kernel_rfl
theorem gTab : Tryd.prog.globalNamed "bitemporal/frame.halfByteSteps" = some 0 := by kernel_rfl
theorem Env.step {w w' : World} (h : Env w) (hb : Below w.heap.size w w') : Env w' := ⟨Nat.le_trans h.low hb.size, Lib.tabBelow_of_tabIs h.tab w' hb⟩
theorem Env.cell {w : World} (h : Env w) (d : Nat) (hd : d < 16) : w.cell? ⟨0, d, none⟩ = some (.int .u32 (tabN d : Nat)) := by
  have h1 := h.tab.cell gTab d (by show d < tabL.length; exact hd)
  rw [h1]
  have h2 := tab_at d hd
  rw [List.getD_eq_getElem?_getD, h2]
  rfl
/-- A slice of slices of bytes. -/
def RdS (w : World) (L B : Nat) (v : Value) (ps : List (List UInt8)) : Prop :=
  ∃ A c, v = .slice A ps.length c ∧ ps.length ≤ 9223372036854775807 ∧ ∀ (k : Nat) (p : List UInt8), ps[k]? = some p → ∃ (ad : Addr) (u : Value), A = some ad ∧ w.cell? (ad.add k) = some u ∧ RdB w L B u p
theorem xor_tab (y d : Nat) (hy : y < 4294967296) (hd : d < 16) : bits .xor .u32 ((y : Int) / 16) (tabN d : Int) = ((y / 16 ^^^ tabN d : Nat) : Int) := by
  have := u32_xor_nat (y / 16) (tabN d) (by omega) (tabN_lt d hd)
  rw [Int.natCast_ediv] at this
  exact this
theorem cat_take (ps : List (List UInt8)) (k : Nat) (h : k < ps.length) : (ps.take (k + 1)).flatten = (ps.take k).flatten ++ ps[k] := by
  rw [List.take_succ_eq_append_getElem h, List.flatten_append]; simp
set_option maxRecDepth 100000 in
set_option maxHeartbeats 1600000 in
theorem check_any (v : Value) (ps : List (List UInt8)) (w : World) (L B : Nat) (henv : Env w) (hv : RdS w L B v ps) :
    Calls Tryd.prog 20 #[v] w fun e w' => e = .returned (.int .u32 (crc ps.flatten : Nat)) ∧ w' = w := by
  obtain ⟨A, c, rfl, hl, hc⟩ := hv
  have HC := Lib.hid hc
  have HE := Lib.hid (crc_end ps.flatten)
  have HT := Lib.hid (fun d hd => henv.cell d hd)
  clear hc henv
  go_enter Tryd.func20, Tryd.ntmps20
  go_wp2
  go_loop [3, 10] (fun s i => ∃ k : Nat, k ≤ ps.length ∧ i = .int .i64 k ∧ s = .int .u32 (crcU 4294967295 (ps.take k).flatten : Nat)) (fun _ i => ps.length - (intOf i).toNat)
  case atStart => exact ⟨0, Nat.zero_le _, rfl, rfl⟩
  case round =>
    obtain ⟨k, hk, rfl, rfl⟩ := hrel
    by_cases hlt : k < ps.length
    · obtain ⟨ad, u, rfl, h3, h4⟩ := HC.out k _ (List.getElem?_eq_getElem hlt)
      have hcat := cat_take ps k hlt
      have hfin : crcU 4294967295 (ps.take (k + 1)).flatten = crcU (crcU 4294967295 (ps.take k).flatten) ps[k] := by rw [hcat, crcU_app]
      have HF := Lib.hid hfin
      have hx0 := crcU_lt (ps.take k).flatten 4294967295 (by decide)
      clear hcat hfin
      generalize crcU 4294967295 (ps.take k).flatten = x0 at *
      generalize ps[k] = q at *
      obtain ⟨A2, c2, rfl, hl2, hcc2, hc2⟩ := h4
      have HQ := Lib.hid hc2
      clear hc2
      go_wp2
      go_loop [3, 16] (fun s i => ∃ j : Nat, j ≤ q.length ∧ i = .int .i64 j ∧ s = .int .u32 (crcU x0 (q.take j) : Nat)) (fun _ i => q.length - (intOf i).toNat)
      case atStart => exact ⟨0, Nat.zero_le _, rfl, rfl⟩
      case round =>
        obtain ⟨j, hj, rfl, rfl⟩ := hrel
        by_cases hjt : j < q.length
        · obtain ⟨ad2, rfl, _, _, h5⟩ := HQ.out j _ (List.getElem?_eq_getElem hjt)
          have hst := crc_step x0 q j hjt
          rw [byR_tab] at hst
          have hxl := crcU_lt (q.take j) x0 hx0
          generalize crcU x0 (q.take j) = x at *
          generalize q[j] = b at *
          have hb := bits_byte x b hxl
          have hyl : x ^^^ b.toNat < 4294967296 := Nat.xor_lt_two_pow (n := 32) hxl (by have := b.toNat_lt; omega)
          generalize x ^^^ b.toNat = y at *
          have hbl := b.toNat_lt
          have t1 := HT.out (y % 16) (by omega)
          have x1 := xor_tab y (y % 16) hyl (by omega)
          have hzl : hbs y < 4294967296 := hbs_lt hyl
          have hz : hbs y = y / 16 ^^^ tabN (y % 16) := rfl
          rw [← hz] at x1
          generalize hbs y = z at *
          have t2 := HT.out (z % 16) (by omega)
          have x2 := xor_tab z (z % 16) hzl (by omega)
          have hy2 : hbs z = z / 16 ^^^ tabN (z % 16) := rfl
          rw [← hy2] at x2
          have HS := Lib.hid hst
          clear hst hz hy2
          generalize hbs z = z2 at *
          generalize tabN (y % 16) = ty at *
          generalize tabN (z % 16) = tz at *
          go_wp2
          go_round
          case rel => exact ⟨j + 1, by omega, by go_num, by rw [HS.out]⟩
          case measure => simp [intOf]; omega
        · have hq : q.take j = q := List.take_of_length_le (by omega)
          rw [hq]
          have HF2 := HF.out
          clear hq
          generalize crcU x0 q = x at *
          go_wp2
          go_round
          case rel => exact ⟨k + 1, by omega, by go_num, by rw [HF2]⟩
          case measure => simp [intOf]; omega
    · have ht : ps.take k = ps := List.take_of_length_le (by omega)
      rw [ht]
      have hE := HE.out
      clear ht
      generalize crcU 4294967295 ps.flatten = x at *
      go_wp2
      go_ret
      exact ⟨by first | rfl | (rw [hE]; rfl) | (rw [← hE]; rfl), rfl⟩
end Go.Proofs.YtclpemmpckjemaaDoor.Fr

