import Derived.Test.YteihjneeiojgaaaMC
import Derived.Test.YteihjneeiojgaaaMA
import Derived.WalkKit
import Derived.WalkSpells
import Derived.WalkLawsBesides
import Derived.Deep.QuietTactic
import Derived.BigQuiet
import Derived.Handy
import Derived.Lib.Hide
import Derived.Test.YteihjneeiojgaaaMB
import Derived.Lib.OthersKept
import Derived.Laws.RangeAny
import Derived.WideKeyElems
import Derived.StringKeys
import Derived.Test.YteihjneeiojgaaaMT
/-
  Tables: columns that lie in memory; schema.Accepts and the reference's: what they answer. Conditions: none.
-/
namespace Go.Proofs.Yteihjneeiojgaaa
set_option maxRecDepth 100000
set_option linter.unusedVariables false
set_option linter.unusedSimpArgs false
open Go.RowKit

/-- A column: name, kind, may it be null. -/
abbrev Cl := ByteArray × Int × Bool
def RdK (w : World) (L B : Nat) (v : Value) (cs : List Cl) : Prop :=
  ∃ A c, v = .slice A cs.length c ∧ cs.length ≤ 9223372036854775807 ∧ ∀ (k : Nat) (q : Cl), cs[k]? = some q → ∃ ad : Addr, A = some ad ∧ L ≤ ad.block ∧ ad.block < B ∧
    w.cell? (ad.add (k * 3)) = some (.string q.1) ∧ w.cell? ⟨(ad.add (k * 3)).block, (ad.add (k * 3)).off + 1, none⟩ = some (.int .i64 q.2.1) ∧ w.cell? ⟨(ad.add (k * 3)).block, (ad.add (k * 3)).off + 2, none⟩ = some (.bool q.2.2)
theorem RdK.below {w w' : World} {L B : Nat} {v : Value} {cs : List Cl} (h : RdK w L B v cs) (hb : Below B w w') : RdK w' L B v cs := by
  obtain ⟨A, c, hv, hl, hc⟩ := h
  refine ⟨A, c, hv, hl, fun k n hk => ?_⟩
  obtain ⟨ad, h1, h0, h2, h3, h4, h5⟩ := hc k n hk
  exact ⟨ad, h1, h0, h2, (hb.cell (p := ad.add (k * 3)) (by rw [add_block]; exact h2)).trans h3, (hb.cell (p := ⟨(ad.add (k * 3)).block, (ad.add (k * 3)).off + 1, none⟩) (by show (ad.add (k * 3)).block < _; rw [add_block]; exact h2)).trans h4,
    (hb.cell (p := ⟨(ad.add (k * 3)).block, (ad.add (k * 3)).off + 2, none⟩) (by show (ad.add (k * 3)).block < _; rw [add_block]; exact h2)).trans h5⟩
theorem RdK.more {w : World} {L B B' : Nat} {v : Value} {cs : List Cl} (h : RdK w L B v cs) (hB : B ≤ B') : RdK w L B' v cs := by
  obtain ⟨A, c, hv, hl, hc⟩ := h
  exact ⟨A, c, hv, hl, fun k n hk => let ⟨ad, h1, h0, h2, h3⟩ := hc k n hk; ⟨ad, h1, h0, Nat.lt_of_lt_of_le h2 hB, h3⟩⟩
theorem RdK.low {w : World} {L L' B : Nat} {v : Value} {cs : List Cl} (h : RdK w L B v cs) (hL : L' ≤ L) : RdK w L' B v cs := by
  obtain ⟨A, c, hv, hl, hc⟩ := h
  exact ⟨A, c, hv, hl, fun k n hk => let ⟨ad, h1, h0, h2⟩ := hc k n hk; ⟨ad, h1, Nat.le_trans hL h0, h2⟩⟩
theorem RdK.step {w w' : World} {L B : Nat} {v : Value} {cs : List Cl} (h : RdK w L B v cs) (hb : Below w.heap.size w w') (hB : B ≤ w.heap.size) : RdK w' L w'.heap.size v cs :=
  ((h.more hB).below hb).more hb.size
/-- What a row that is as long as the columns is answered. -/
def accL : List Cl → List Vl → Int
  | c :: cs, p :: ps => if okP p = false then 8 else if p.1 = 0 then (if c.2.2 = false then 12 else accL cs ps) else if p.1 ≠ c.2.1 then 7 else accL cs ps
  | _, _ => 0
def accS (cs : List Cl) (ps : List Vl) : Int := if ps.length ≠ cs.length then 13 else accL cs ps
theorem accL_drop {cs : List Cl} {ps : List Vl} {k : Nat} {c : Cl} {p : Vl} (hc : cs[k]? = some c) (hp : ps[k]? = some p) :
    accL (cs.drop k) (ps.drop k) = if okP p = false then 8 else if p.1 = 0 then (if c.2.2 = false then 12 else accL (cs.drop (k + 1)) (ps.drop (k + 1))) else if p.1 ≠ c.2.1 then 7 else accL (cs.drop (k + 1)) (ps.drop (k + 1)) := by
  obtain ⟨h1, rfl⟩ := List.getElem?_eq_some_iff.1 hc
  obtain ⟨h2, rfl⟩ := List.getElem?_eq_some_iff.1 hp
  rw [List.drop_eq_getElem_cons h1, List.drop_eq_getElem_cons h2]
  rfl
theorem own_two2 {w : World} {t : TypeId} {cs : Array Value} (o : Obj) : Own ((w.alloc o).alloc (.cells cs t)) (w.heap.size + 1) t cs := by
  have h := Own.new (w.alloc o) t cs
  rwa [World.size_alloc] at h
set_option maxRecDepth 100000 in
set_option maxHeartbeats 6400000 in
theorem pAccepts_any (nm vc vk vf vx u : Value) (cs : List Cl) (ps : List Vl) (w : World) (L L2 : Nat) (hc : RdK w L w.heap.size vc cs) (hu : RdV w L2 w.heap.size u ps) :
    Calls Try.prog 55 #[.agg #[nm, vc, vk, vf, vx], u] w fun e w' => e = .returned (.int .i64 (accS cs ps)) ∧ Below w.heap.size w w' := by
  obtain ⟨A, c, rfl, hl1, hc1⟩ := hc
  obtain ⟨A2, c2, rfl, hl2, hc2⟩ := hu
  have HC := Lib.hid hc1
  have HC2 := Lib.hid hc2
  have HB1 := Lib.hid (bel_mark w (.cells #[nm, .slice A cs.length c, vk, vf, vx] 27))
  have HO1 := Lib.hid (Own.new w 27 #[nm, .slice A cs.length c, vk, vf, vx])
  have d1 := HO1.out.cell 1
  clear hc1 hc2
  by_cases hln : ps.length = cs.length
  rotate_left
  · have hne : ((ps.length : Int) != (cs.length : Int)) = true := by simp; omega
    have HF := Lib.hid (show accS cs ps = 13 from if_pos hln)
    go_enter Try.func55, Try.ntmps55
    go_wp2
    go_ret
    exact ⟨by rw [HF.out]; rfl, HB1.out⟩
  have hne : ((ps.length : Int) != (cs.length : Int)) = false := by simp; omega
  have HLN := Lib.hid hln
  have HS := Lib.hid (show accS cs ps = accL cs ps from if_neg (fun h => h hln))
  clear hln
  go_enter Try.func55, Try.ntmps55
  go_wp2
  go_loopw [17] (fun i wr => ∃ k : Nat, k ≤ cs.length ∧ i = .int .i64 k ∧ Hid (accS cs ps = accL (cs.drop k) (ps.drop k)) ∧ Below w.heap.size w wr) (fun i _ => cs.length - (intOf i).toNat)
  case atStart => exact ⟨0, Nat.zero_le _, rfl, HS, HB1.out⟩
  case round =>
    obtain ⟨k, hk, rfl, HR, hbr⟩ := hrel
    have hbz := hbr.size
    by_cases hlt : k < cs.length
    · have hki : (k : Int) < cs.length := by omega
      have hlt2 : k < ps.length := by have := HLN.out; omega
      have hki2 : (k : Int) < ps.length := by omega
      obtain ⟨ad, rfl, _, hab, a0, a1, a2⟩ := HC.out k _ (List.getElem?_eq_getElem hlt)
      obtain ⟨ad2, rfl, _, hab2, b0, b1, b2⟩ := HC2.out k _ (List.getElem?_eq_getElem hlt2)
      have hcd := accL_drop (List.getElem?_eq_getElem hlt) (List.getElem?_eq_getElem hlt2)
      rw [← HR.out] at hcd
      generalize cs[k] = q at *
      generalize ps[k] = p at *
      obtain ⟨qn, qk, qb⟩ := q
      obtain ⟨kd, n, s⟩ := p
      dsimp only at a0 a1 a2 b0 b1 b2 hcd
      have e0 := (hbr.cell (p := ad.add (k * 3)) (by rw [add_block]; exact hab)).trans a0
      have e1 := (hbr.cell (p := ⟨(ad.add (k * 3)).block, (ad.add (k * 3)).off + 1, none⟩) (by show (ad.add (k * 3)).block < _; rw [add_block]; exact hab)).trans a1
      have e2 := (hbr.cell (p := ⟨(ad.add (k * 3)).block, (ad.add (k * 3)).off + 2, none⟩) (by show (ad.add (k * 3)).block < _; rw [add_block]; exact hab)).trans a2
      have o1 := bel_mark wr (.cells #[.string qn, .int .i64 qk, .bool qb] 36)
      have B1 := hbr.trans (o1.mono hbz)
      have f0 := (B1.cell (p := ad2.add (k * 3)) (by rw [add_block]; exact hab2)).trans b0
      have f1 := (B1.cell (p := ⟨(ad2.add (k * 3)).block, (ad2.add (k * 3)).off + 1, none⟩) (by show (ad2.add (k * 3)).block < _; rw [add_block]; exact hab2)).trans b1
      have f2 := (B1.cell (p := ⟨(ad2.add (k * 3)).block, (ad2.add (k * 3)).off + 2, none⟩) (by show (ad2.add (k * 3)).block < _; rw [add_block]; exact hab2)).trans b2
      have o2 := bel_mark (wr.alloc (.cells #[.string qn, .int .i64 qk, .bool qb] 36)) (.cells #[.int .i64 kd, .int .i64 n, .string s] 38)
      have ow1 := (Own.new wr 36 #[.string qn, .int .i64 qk, .bool qb]).alloc (.cells #[.int .i64 kd, .int .i64 n, .string s] 38)
      have ow2 := own_two2 (w := wr) (t := 38) (cs := #[.int .i64 kd, .int .i64 n, .string s]) (.cells #[.string qn, .int .i64 qk, .bool qb] 36)
      have B2 := B1.trans (o2.mono B1.size)
      have z2 := B2.size
      have hv0 := pValid_any kd n s ((wr.alloc (.cells #[.string qn, .int .i64 qk, .bool qb] 36)).alloc (.cells #[.int .i64 kd, .int .i64 n, .string s] 38))
      unfold valV at hv0
      dsimp only at hv0
      have HV := Lib.hid hv0
      have HB2 := Lib.hid B2
      have OW1 := Lib.hid ow1
      have OW2 := Lib.hid ow2
      have HCD := Lib.hid hcd
      clear a0 a1 a2 b0 b1 b2 o1 o2 B1 B2 ow1 ow2 hcd hv0
      by_cases hv : okP (kd, n, s) = false
      · rw [hv] at HV
        have HF := Lib.hid (HCD.out.trans (if_pos hv))
        clear hv
        go_wp2_with fail
        with_reducible refine HV.out.mono ?_
        rintro e w2 ⟨rfl, hb3⟩
        go_wp2
        go_ret
        exact ⟨by rw [HF.out]; rfl, HB2.out.trans (hb3.mono z2)⟩
      rw [show okP (kd, n, s) = true by simpa using hv] at HV
      have HCD := Lib.hid (HCD.out.trans (if_neg hv))
      clear hv
      by_cases h0 : kd = 0
      · have HCD := Lib.hid (HCD.out.trans (if_pos h0))
        have k0 : (kd == 0) = true := by simp [h0]
        have k1 : (kd != 0) = false := by simp [h0]
        cases qb
        · have HF := Lib.hid (HCD.out.trans (if_pos rfl))
          clear h0
          go_wp2_with fail
          with_reducible refine HV.out.mono ?_
          rintro e w2 ⟨rfl, hb3⟩
          have g0 := ((OW2.out.below hb3 OW2.out.lt).cell 0)
          have g1 := ((OW1.out.below hb3 OW1.out.lt).cell 2)
          go_wp2
          go_ret
          exact ⟨by rw [HF.out]; rfl, HB2.out.trans (hb3.mono z2)⟩
        · have HF := Lib.hid (HCD.out.trans (if_neg (by decide)))
          clear h0
          go_wp2_with fail
          with_reducible refine HV.out.mono ?_
          rintro e w2 ⟨rfl, hb3⟩
          have g0 := ((OW2.out.below hb3 OW2.out.lt).cell 0)
          have g1 := ((OW1.out.below hb3 OW1.out.lt).cell 2)
          go_wp2
          go_roundw
          case rel => exact ⟨k + 1, by omega, by go_num, HF, HB2.out.trans (hb3.mono z2)⟩
          case measure => simp [intOf]; omega
      · have HCD := Lib.hid (HCD.out.trans (if_neg h0))
        have k0 : (kd == 0) = false := by simp [h0]
        have k1 : (kd != 0) = true := by simp [h0]
        by_cases hq : kd = qk
        · have HF := Lib.hid (HCD.out.trans (if_neg (fun h => h hq)))
          have k2 : (kd != qk) = false := by simp [hq]
          clear h0 hq
          go_wp2_with fail
          with_reducible refine HV.out.mono ?_
          rintro e w2 ⟨rfl, hb3⟩
          have g0 := ((OW2.out.below hb3 OW2.out.lt).cell 0)
          have g1 := ((OW1.out.below hb3 OW1.out.lt).cell 1)
          go_wp2
          go_roundw
          case rel => exact ⟨k + 1, by omega, by go_num, HF, HB2.out.trans (hb3.mono z2)⟩
          case measure => simp [intOf]; omega
        · have HF := Lib.hid (HCD.out.trans (if_pos hq))
          have k2 : (kd != qk) = true := by simp [hq]
          clear h0 hq
          go_wp2_with fail
          with_reducible refine HV.out.mono ?_
          rintro e w2 ⟨rfl, hb3⟩
          have g0 := ((OW2.out.below hb3 OW2.out.lt).cell 0)
          have g1 := ((OW1.out.below hb3 OW1.out.lt).cell 1)
          go_wp2
          go_ret
          exact ⟨by rw [HF.out]; rfl, HB2.out.trans (hb3.mono z2)⟩
    · have hki : ¬ (k : Int) < cs.length := by omega
      have HF := Lib.hid (show accS cs ps = 0 by rw [HR.out, List.drop_eq_nil_of_le (show cs.length ≤ k by omega)]; rfl)
      go_wp2
      go_ret
      exact ⟨by rw [HF.out]; rfl, hbr⟩
end Go.Proofs.Yteihjneeiojgaaa
/-
  schema.Name: what it answers. Conditions: the search's variable holds some number.
-/
namespace Go.Proofs.Yteihjneeiojgaaa
set_option maxRecDepth 100000
set_option linter.unusedVariables false
set_option linter.unusedSimpArgs false
open Go.RowKit

def digB (b : UInt8) : Bool := decide (48 ≤ b.toNat) && decide (b.toNat ≤ 57)
def lowB (b : UInt8) : Bool := decide (97 ≤ b.toNat) && decide (b.toNat ≤ 122)
def okcB (b : UInt8) : Bool := digB b || lowB b || decide (b.toNat = 95)
/-- The text of the keywords, each between two blanks. -/
def kwL : List UInt8 := [32, 97, 100, 100, 32, 97, 102, 116, 101, 114, 32, 97, 108, 108, 32, 97, 108, 116, 101, 114, 32, 97, 110, 100, 32, 97, 115, 32, 98, 101, 102, 111, 114, 101, 32, 98, 101, 103, 105, 110, 32, 98, 101, 116, 119, 101, 101, 110, 32, 98, 111, 111, 108, 32, 98, 121, 32, 99, 104, 101, 99, 107, 32, 99, 111, 97, 108, 101, 115, 99, 101, 32, 99, 111, 109, 109, 105, 116, 32, 99, 111, 110, 116, 97, 105, 110, 115, 32, 99, 111, 117, 110, 116, 32, 99, 114, 101, 97, 116, 101, 32, 100, 101, 102, 97, 117, 108, 116, 32, 100, 101, 108, 101, 116, 101, 32, 100, 101, 115, 99, 32, 100, 105, 115, 116, 105, 110, 99, 116, 32, 100, 114, 111, 112, 32, 100, 117, 114, 105, 110, 103, 32, 101, 113, 117, 97, 108, 115, 32, 101, 120, 99, 101, 112, 116, 32, 102, 97, 108, 115, 101, 32, 102, 105, 110, 105, 115, 104, 101, 100, 98, 121, 32, 102, 105, 110, 105, 115, 104, 101, 115, 32, 102, 111, 114, 101, 105, 103, 110, 32, 102, 111, 114, 101, 118, 101, 114, 32, 102, 114, 111, 109, 32, 103, 114, 111, 117, 112, 32, 104, 111, 108, 100, 32, 105, 102, 32, 105, 110, 115, 101, 114, 116, 32, 105, 110, 116, 32, 105, 110, 116, 101, 114, 115, 101, 99, 116, 32, 105, 110, 116, 111, 32, 105, 115, 32, 106, 111, 105, 110, 32, 107, 101, 121, 32, 108, 101, 102, 116, 32, 108, 101, 110, 103, 116, 104, 32, 108, 105, 109, 105, 116, 32, 109, 97, 120, 32, 109, 101, 101, 116, 115, 32, 109, 101, 116, 98, 121, 32, 109, 105, 110, 32, 110, 111, 110, 115, 101, 113, 117, 101, 110, 99, 101, 100, 32, 110, 111, 116, 32, 110, 111, 119, 32, 110, 117, 108, 108, 32, 111, 102, 32, 111, 110, 32, 111, 114, 32, 111, 114, 100, 101, 114, 32, 111, 118, 101, 114, 108, 97, 112, 112, 101, 100, 98, 121, 32, 111, 118, 101, 114, 108, 97, 112, 115, 32, 112, 114, 105, 109, 97, 114, 121, 32, 112, 114, 117, 110, 101, 32, 114, 101, 102, 101, 114, 101, 110, 99, 101, 115, 32, 114, 101, 108, 101, 97, 115, 101, 32, 114, 101, 110, 97, 109, 101, 32, 114, 101, 116, 97, 105, 110, 32, 114, 111, 108, 108, 98, 97, 99, 107, 32, 115, 101, 108, 101, 99, 116, 32, 115, 101, 113, 117, 101, 110, 99, 101, 100, 32, 115, 101, 116, 32, 115, 116, 97, 114, 116, 101, 100, 98, 121, 32, 115, 116, 97, 114, 116, 115, 32, 115, 117, 109, 32, 115, 121, 115, 116, 101, 109, 32, 115, 121, 115, 116, 101, 109, 102, 114, 111, 109, 32, 115, 121, 115, 116, 101, 109, 116, 111, 32, 116, 97, 98, 108, 101, 32, 116, 101, 120, 116, 32, 116, 111, 32, 116, 114, 117, 101, 32, 116, 120, 32, 117, 110, 100, 101, 114, 32, 117, 110, 105, 111, 110, 32, 117, 112, 100, 97, 116, 101, 32, 118, 97, 108, 105, 100, 32, 118, 97, 108, 105, 100, 102, 114, 111, 109, 32, 118, 97, 108, 105, 100, 116, 111, 32, 118, 97, 108, 117, 101, 115, 32, 119, 104, 101, 114, 101, 32]
def nameS (l : List UInt8) : Bool := decide (0 < l.length) && decide (l.length ≤ 24) && !(digB (l.getD 0 0)) && l.all okcB && !(Lib.contains kwL ([32] ++ l ++ [32]))
theorem wrap32_byte (b : UInt8) : wrap32 (b.toNat : Int) = (b.toNat : Int) := by
  have := b.toNat_lt
  unfold wrap32
  omega
theorem dig_byte (b : UInt8) : (decide (48 ≤ (b.toNat : Int)) && decide ((b.toNat : Int) ≤ 57)) = digB b := by
  unfold digB
  rw [show decide ((48 : Int) ≤ (b.toNat : Int)) = decide (48 ≤ b.toNat) from decide_eq_decide.2 (by omega), show decide ((b.toNat : Int) ≤ 57) = decide (b.toNat ≤ 57) from decide_eq_decide.2 (by omega)]
theorem low_byte (b : UInt8) : (decide (97 ≤ (b.toNat : Int)) && decide ((b.toNat : Int) ≤ 122)) = lowB b := by
  unfold lowB
  rw [show decide ((97 : Int) ≤ (b.toNat : Int)) = decide (97 ≤ b.toNat) from decide_eq_decide.2 (by omega), show decide ((b.toNat : Int) ≤ 122) = decide (b.toNat ≤ 122) from decide_eq_decide.2 (by omega)]
def okR (r : Nat) : Bool := (decide (48 ≤ (r : Int)) && decide ((r : Int) ≤ 57)) || (decide (97 ≤ (r : Int)) && decide ((r : Int) ≤ 122)) || decide (r = 95)
/-- The rune at a place is a name's letter just where the byte is; it is then of one byte. -/
theorem okR_at (s : ByteArray) (pos : Nat) (h : pos < s.size) : okR (Utf8.decode s pos).1 = okcB (s[pos]'h) ∧ (okR (Utf8.decode s pos).1 = true → (Utf8.decode s pos).2 = 1) := by
  by_cases ha : (s[pos]'h).toNat < 128
  · rw [decode_ascii s pos h ha]
    refine ⟨?_, fun _ => rfl⟩
    unfold okR okcB
    rw [dig_byte, low_byte]
  · have hd := (decode_high s pos h (by omega)).1
    have e1 : okR (Utf8.decode s pos).1 = false := by
      unfold okR
      generalize (Utf8.decode s pos).1 = r at *
      simp only [Bool.or_eq_false_iff, Bool.and_eq_false_iff, decide_eq_false_iff_not]
      omega
    have e2 : okcB (s[pos]'h) = false := by
      unfold okcB digB lowB
      simp only [Bool.or_eq_false_iff, Bool.and_eq_false_iff, decide_eq_false_iff_not]
      omega
    rw [e1, e2]
    exact ⟨rfl, fun h => by cases h⟩
theorem getS_list (s : ByteArray) (pos : Nat) (h : pos < s.size) : s.data.toList[pos]? = some (s[pos]'h) := by
  rw [List.getElem?_eq_getElem (by rw [size_list]; exact h)]
  rfl
theorem isDigit_any (c : Int) (w : World) : Calls Try.prog 44 #[.int .i32 c] w fun e w' => e = .returned (.bool (decide (48 ≤ c) && decide (c ≤ 57))) ∧ w' = w := by
  by_cases h1 : 48 ≤ c
  · by_cases h2 : c ≤ 57
    · rw [decide_eq_true h1, decide_eq_true h2]
      go_enter Try.func44, Try.ntmps44
      go_wp2
      go_ret
      exact ⟨rfl, rfl⟩
    · rw [decide_eq_true h1, decide_eq_false h2]
      go_enter Try.func44, Try.ntmps44
      go_wp2
      go_ret
      exact ⟨rfl, rfl⟩
  · rw [decide_eq_false h1]
    go_enter Try.func44, Try.ntmps44
    go_wp2
    go_ret
    exact ⟨rfl, rfl⟩
theorem isLower_any (c : Int) (w : World) : Calls Try.prog 45 #[.int .i32 c] w fun e w' => e = .returned (.bool (decide (97 ≤ c) && decide (c ≤ 122))) ∧ w' = w := by
  by_cases h1 : 97 ≤ c
  · by_cases h2 : c ≤ 122
    · rw [decide_eq_true h1, decide_eq_true h2]
      go_enter Try.func45, Try.ntmps45
      go_wp2
      go_ret
      exact ⟨rfl, rfl⟩
    · rw [decide_eq_true h1, decide_eq_false h2]
      go_enter Try.func45, Try.ntmps45
      go_wp2
      go_ret
      exact ⟨rfl, rfl⟩
  · rw [decide_eq_false h1]
    go_enter Try.func45, Try.ntmps45
    go_wp2
    go_ret
    exact ⟨rfl, rfl⟩
set_option maxRecDepth 100000 in
set_option maxHeartbeats 6400000 in
theorem pName_any (s : ByteArray) (m : Int) (w : World) (hm : w.cell? ⟨0, 0, none⟩ = some (.int .i64 m)) :
    Calls Try.prog 22 #[.string s] w fun e w' => e = .returned (.bool (nameS s.data.toList)) ∧ Below w.heap.size w w' := by
  have hls := size_list s
  by_cases h0 : s.size = 0
  · have he : s.toList.isEmpty = true := by rw [Lib.toList_data]; rw [List.isEmpty_iff]; exact List.eq_nil_of_length_eq_zero (by omega)
    have HF := Lib.hid (show nameS s.data.toList = false by unfold nameS; rw [show decide (0 < s.data.toList.length) = false from decide_eq_false (by omega)]; rfl)
    clear hls h0
    go_enter Try.func22, Try.ntmps22
    go_wp2
    go_ret
    exact ⟨by rw [HF.out]; rfl, Below.refl _ _⟩
  have he : s.toList.isEmpty = false := by rw [Lib.toList_data]; rw [Bool.eq_false_iff]; intro h; rw [List.isEmpty_iff] at h; rw [h] at hls; exact h0 hls.symm
  by_cases h1 : 24 < s.size
  · have h1i : (24 : Int) < (s.size : Int) := by omega
    have HF := Lib.hid (show nameS s.data.toList = false by unfold nameS; rw [show decide (s.data.toList.length ≤ 24) = false from decide_eq_false (by omega)]; rw [Bool.and_false]; rfl)
    clear hls h0 h1
    go_enter Try.func22, Try.ntmps22
    go_wp2
    go_ret
    exact ⟨by rw [HF.out]; rfl, Below.refl _ _⟩
  have h1i : ¬ (24 : Int) < (s.size : Int) := by omega
  have hp : 0 < s.size := by omega
  have hpi : (0 : Int) < s.size := by omega
  have hg0 : s.data.toList.getD 0 0 = s[0]'hp := by rw [List.getD_eq_getElem?_getD, getS_list s 0 hp]; rfl
  have hd0 := isDigit_any (wrap32 ((s[0]'hp).toNat : Int)) w
  rw [wrap32_byte, dig_byte] at hd0
  have HN := Lib.hid (show nameS s.data.toList = (!(digB (s[0]'hp)) && s.data.toList.all okcB && !(Lib.contains kwL ([32] ++ s.data.toList ++ [32]))) by
    unfold nameS
    rw [hg0, show decide (0 < s.data.toList.length) = true from decide_eq_true (by omega), show decide (s.data.toList.length ≤ 24) = true from decide_eq_true (by omega), Bool.true_and, Bool.true_and])
  have hw0 := wrap32_byte (s[0]'hp)
  generalize digB (s[0]'hp) = dg at *
  clear hg0
  have hct : ∀ W : World, W.cell? ⟨0, 0, none⟩ = some (.int .i64 m) → Calls Try.prog 46 #[.string ⟨kwL.toArray⟩, .string ((⟨#[32]⟩ : ByteArray) ++ s ++ ⟨#[32]⟩)] W fun e w' => e = .returned (.bool (Lib.contains kwL ([32] ++ s.data.toList ++ [32]))) ∧ w' = W := fun W h => by
    have h2 := Try.strings_Contains ⟨kwL.toArray⟩ ((⟨#[32]⟩ : ByteArray) ++ s ++ ⟨#[32]⟩) m W (by decide +kernel) h
    rw [show ((⟨#[32]⟩ : ByteArray) ++ s ++ ⟨#[32]⟩).data.toList = [32] ++ s.data.toList ++ [32] by simp [ByteArray.data_append]] at h2
    exact h2
  cases dg
  rotate_left
  · have HF := Lib.hid (show nameS s.data.toList = false from HN.out)
    clear HN
    go_enter Try.func22, Try.ntmps22
    go_wp2_with fail
    with_reducible refine hd0.mono ?_
    rintro e w2 ⟨rfl, rfl⟩
    go_wp2
    go_ret
    exact ⟨by rw [HF.out]; rfl, Below.refl _ _⟩
  go_enter Try.func22, Try.ntmps22
  go_wp2_with fail
  with_reducible refine hd0.mono ?_
  rintro e w2 ⟨rfl, h2⟩
  subst w2
  clear hd0
  go_wp2_with fail
  go_loopw [4] (fun c wr => ∃ pos : Nat, wr = w.iter s pos ∧ pos ≤ s.size ∧ Hid ((s.data.toList.take pos).all okcB = true)) (fun _ wr => s.size - wr.iterPos w.heap.size)
  case atStart => exact ⟨0, rfl, Nat.zero_le _, Lib.hid rfl⟩
  case round =>
    obtain ⟨pos, rfl, hpl, HA⟩ := hrel
    by_cases hlt : pos < s.size
    · have hnx : ∀ ty, (Instr.next (.pointer (some ⟨w.heap.size, 0, none⟩)) true ty).run Try.prog (w.iter s pos) = _ := fun ty => run_next_any w s pos ty hlt
      obtain ⟨hok, hwd⟩ := okR_at s pos hlt
      have hgl := getS_list s pos hlt
      have hno : okR (Utf8.decode s pos).1 = false → nameS s.data.toList = false := fun h => by
        rw [HN.out]
        have h2 : s.data.toList.all okcB = false := by
          rw [Bool.eq_false_iff]
          intro h3
          rw [List.all_eq_true] at h3
          have h4 := h3 _ (List.mem_of_getElem? hgl)
          rw [← hok, h] at h4
          cases h4
        rw [h2]
        rfl
      have hyes : okR (Utf8.decode s pos).1 = true → (s.data.toList.take (pos + 1)).all okcB = true := fun h => by
        rw [List.take_add_one, hgl, List.all_append, HA.out, Bool.true_and, Option.toList_some, List.all_cons, List.all_nil, Bool.and_true, ← hok]
        exact h
      have hd := isDigit_any ((Utf8.decode s pos).1 : Int) (w.iter s (pos + (Utf8.decode s pos).2))
      have hl := isLower_any ((Utf8.decode s pos).1 : Int) (w.iter s (pos + (Utf8.decode s pos).2))
      clear hgl hok
      unfold okR at hno hyes hwd
      have B1 := Lib.hid (bel_mark w (.stringIter s (pos + (Utf8.decode s pos).2)))
      generalize (Utf8.decode s pos).1 = r at *
      generalize (Utf8.decode s pos).2 = wd at *
      have HNO := Lib.hid hno
      have HYES := Lib.hid hyes
      have HWD := Lib.hid hwd
      clear hno hyes hwd
      cases hdg : (decide (48 ≤ (r : Int)) && decide ((r : Int) ≤ 57))
      · rw [hdg] at hd HNO HYES HWD
        cases hlg : (decide (97 ≤ (r : Int)) && decide ((r : Int) ≤ 122))
        · rw [hlg] at hl HNO HYES HWD
          by_cases h95 : r = 95
          · have n95 : ((r : Int) != 95) = false := by simp [h95]
            have w1 := HWD.out (by simp [h95])
            have HY := Lib.hid (HYES.out (by simp [h95]))
            subst w1
            clear hdg hlg h95 HNO HYES HWD
            go_wp2_with fail
            with_reducible refine hd.mono ?_
            rintro e w2 ⟨rfl, rfl⟩
            clear hd
            go_wp2_with fail
            with_reducible refine hl.mono ?_
            rintro e w2 ⟨rfl, rfl⟩
            clear hl
            go_wp2
            go_roundw
            case rel => exact ⟨pos + 1, rfl, hlt, HY⟩
            case measure => simp; omega
          · have n95 : ((r : Int) != 95) = true := by simp; omega
            have HF := Lib.hid (HNO.out (by simp [h95]))
            clear hdg hlg h95 HNO HYES HWD
            go_wp2_with fail
            with_reducible refine hd.mono ?_
            rintro e w2 ⟨rfl, rfl⟩
            clear hd
            go_wp2_with fail
            with_reducible refine hl.mono ?_
            rintro e w2 ⟨rfl, rfl⟩
            clear hl
            go_wp2
            go_ret
            exact ⟨by rw [HF.out]; rfl, B1.out⟩
        · rw [hlg] at hl HNO HYES HWD
          have w1 := HWD.out rfl
          have HY := Lib.hid (HYES.out rfl)
          subst w1
          clear hdg hlg HNO HYES HWD
          go_wp2_with fail
          with_reducible refine hd.mono ?_
          rintro e w2 ⟨rfl, rfl⟩
          clear hd
          go_wp2_with fail
          with_reducible refine hl.mono ?_
          rintro e w2 ⟨rfl, rfl⟩
          clear hl
          go_wp2
          go_roundw
          case rel => exact ⟨pos + 1, rfl, hlt, HY⟩
          case measure => simp; omega
      · rw [hdg] at hd HNO HYES HWD
        have w1 := HWD.out rfl
        have HY := Lib.hid (HYES.out rfl)
        subst w1
        clear hdg HNO HYES HWD hl
        go_wp2_with fail
        with_reducible refine hd.mono ?_
        rintro e w2 ⟨rfl, rfl⟩
        clear hd
        go_wp2
        go_roundw
        case rel => exact ⟨pos + 1, rfl, hlt, HY⟩
        case measure => simp; omega
    · have hnx : ∀ ty, (Instr.next (.pointer (some ⟨w.heap.size, 0, none⟩)) true ty).run Try.prog (w.iter s pos) = _ := fun ty => run_next_end w s pos ty hlt
      have HCT := Lib.hid (hct (w.iter s pos) (((bel_mark w _).cell (p := ⟨0, 0, none⟩) (World.block_lt_of_cell? w _ hm)).trans hm))
      have HAL := Lib.hid (show s.data.toList.all okcB = true by have h := HA.out; rw [List.take_of_length_le (by omega)] at h; exact h)
      clear hm hct
      go_wp2_with fail
      refine HCT.out.mono ?_
      rintro e w3 ⟨rfl, rfl⟩
      have HF := Lib.hid (show nameS s.data.toList = !(Lib.contains kwL ([32] ++ s.data.toList ++ [32])) by rw [HN.out, HAL.out]; rfl)
      go_wp2
      go_ret
      exact ⟨by rw [HF.out]; rfl, bel_mark w _⟩
end Go.Proofs.Yteihjneeiojgaaa
/-
  A set of names that a call keeps (map[string]bool). Conditions: names no longer than a string may be.
-/
namespace Go.Proofs.Yteihjneeiojgaaa
set_option maxRecDepth 100000
set_option linter.unusedVariables false
set_option linter.unusedSimpArgs false
open Go.RowKit Go.ChangeShapes Go.WideShapes Go.MapKept Go.ChangeMaps Go.WideElems
open Go.WideMaps (KeyLaw)
open Go.WideMaps

/-- The map in block b holds just the names ns, each true. -/
def MapS (w : World) (b : Nat) (ns : List (List UInt8)) : Prop :=
  ∃ (es : Array MapEntry) (clock : Nat), w.heap[b]? = some (.map es clock) ∧ (∀ x ∈ es.toList, ∃ s : ByteArray, x.key = .string s ∧ s.size ≤ maxLen ∧ s.data.toList ∈ ns ∧ x.val = .bool true) ∧ ∀ l ∈ ns, ∃ x ∈ es.toList, x.key = .string ⟨l.toArray⟩
theorem MapS.lt {w : World} {b : Nat} {ns : List (List UInt8)} (h : MapS w b ns) : b < w.heap.size := by
  obtain ⟨es, c, h1, _⟩ := h
  exact (Array.getElem?_eq_some_iff.1 h1).1
theorem MapS.below {B : Nat} {w w' : World} {b : Nat} {ns : List (List UInt8)} (h : MapS w b ns) (hb : Below B w w') (hg : b < B) : MapS w' b ns := by
  obtain ⟨es, c, h1, h2⟩ := h
  exact ⟨es, c, (hb.block b hg).trans h1, h2⟩
theorem MapS.new (w : World) : MapS (w.alloc (.map #[] 0)) w.heap.size [] := ⟨#[], 0, heap_alloc_new w _, fun x h => by simp at h, fun s h => by simp at h⟩
theorem lawS : KeyLaw Try.prog 9 := string_law Try.underlying9
theorem MapS.look {w : World} {b : Nat} {ns : List (List UInt8)} (h : MapS w b ns) (s : ByteArray) (hs : s.size ≤ maxLen) :
    (Instr.lookup 80 (.map (some b)) (.string s) false).run Try.prog w = .ok (.bool (decide (s.data.toList ∈ ns))) w := by
  obtain ⟨es, c, hb, h1, h2⟩ := h
  have hkey := keyOf_string_mk (P := Try.prog) Try.underlying9 hs
  have hz : (zeroValue 4).run Try.prog w = .ok (.bool false) w := rfl
  have hks : ∀ e ∈ es.toList, ∃ l, keyOf Try.prog 9 e.key = some l := fun e he => by
    obtain ⟨s2, e1, e2, _⟩ := h1 e he
    rw [e1]
    exact ⟨_, keyOf_string_mk Try.underlying9 e2⟩
  rcases lawS.find w hkey es.toList hks with ⟨f1, f2⟩ | ⟨j, e0, f1, f2, f3⟩
  · have hn : decide (s.data.toList ∈ ns) = false := decide_eq_false (fun hm => by
      obtain ⟨x, hx, hx2⟩ := h2 _ hm
      exact f2 x hx hx2)
    rw [hn]
    simp [Instr.lookup, run_underlying Try.underlying80, MapKept.run_getObj_map hb, lawS.check w _ hkey, f1, hz, Result.andThen]
  · have hm0 : e0 ∈ es.toList := List.mem_of_getElem? f2
    obtain ⟨s2, e1, e2, e3, e4⟩ := h1 e0 hm0
    rw [f3] at e1
    injection e1 with e1
    subst e1
    rw [decide_eq_true e3]
    simp [Instr.lookup, run_underlying Try.underlying80, MapKept.run_getObj_map hb, lawS.check w _ hkey, f1, e4, Result.andThen]
theorem MapS.put {w : World} {b : Nat} {ns : List (List UInt8)} (h : MapS w b ns) (s : ByteArray) (hs : s.size ≤ maxLen) (hn : s.data.toList ∉ ns) :
    ∃ w', (Instr.mapUpdate 80 (.map (some b)) (.string s) (.bool true)).run Try.prog w = .ok () w' ∧ MapS w' b (ns ++ [s.data.toList]) ∧ w.grownBy w' (some b) ∧ w'.heap.size = w.heap.size := by
  have hlt := h.lt
  obtain ⟨es, c, hb, h1, h2⟩ := h
  have hkey := keyOf_string_mk (P := Try.prog) Try.underlying9 hs
  have hks : ∀ e ∈ es.toList, ∃ l, keyOf Try.prog 9 e.key = some l := fun e he => by
    obtain ⟨s2, e1, e2, _⟩ := h1 e he
    rw [e1]
    exact ⟨_, keyOf_string_mk Try.underlying9 e2⟩
  rcases lawS.find w hkey es.toList hks with ⟨f1, f2⟩ | ⟨j, e0, f1, f2, f3⟩
  · refine ⟨setBlock w b (.map (es.push ⟨.string s, .bool true, c⟩) (c + 1)), ?_, ⟨es.push ⟨.string s, .bool true, c⟩, c + 1, ?_, ?_, ?_⟩, ⟨rfl, rfl, rfl, ?_, ?_⟩, ?_⟩
    · simp [Instr.mapUpdate, run_underlying Try.underlying80, MapKept.run_getObj_map hb, lawS.check w false hkey, f1, MapKept.run_setObj_map _ hb, Result.andThen, setBlock]
    · unfold setBlock
      simp [hlt]
    · intro x hx
      simp only [Array.toList_push, List.mem_append, List.mem_singleton] at hx
      rcases hx with hx | rfl
      · obtain ⟨s2, e1, e2, e3, e4⟩ := h1 x hx
        exact ⟨s2, e1, e2, List.mem_append_left _ e3, e4⟩
      · exact ⟨s, rfl, hs, by simp, rfl⟩
    · intro s2 hs2
      rcases List.mem_append.1 hs2 with hs2 | hs2
      · obtain ⟨x, hx, hx2⟩ := h2 s2 hs2
        exact ⟨x, by simp [hx], hx2⟩
      · exact ⟨⟨.string s, .bool true, c⟩, by simp, by rw [List.mem_singleton.1 hs2]⟩
    · unfold setBlock; simp
    · intro i hi hne
      have hne2 : b ≠ i := fun e => hne (by rw [e])
      unfold setBlock
      simp [hne2]
    · unfold setBlock; simp
  · have hm0 : e0 ∈ es.toList := List.mem_of_getElem? f2
    obtain ⟨s2, e1, e2, e3, e4⟩ := h1 e0 hm0
    rw [f3] at e1
    injection e1 with e1
    subst e1
    exact absurd e3 hn
end Go.Proofs.Yteihjneeiojgaaa
/-
  schema.checkColumns: what it answers. Conditions: the search's variable holds some number.
-/
namespace Go.Proofs.Yteihjneeiojgaaa
set_option maxRecDepth 100000
set_option linter.unusedVariables false
set_option linter.unusedSimpArgs false
open Go.RowKit

def nmC (c : Cl) : List UInt8 := c.1.data.toList
def colL (pre : List (List UInt8)) : List Cl → Int
  | [] => 0
  | c :: cs => if nameS (nmC c) = false then 1 else if c.2.1 < 1 ∨ 3 < c.2.1 then 7 else if nmC c ∈ pre then 10 else colL (pre ++ [nmC c]) cs
def clsE (cs : List Cl) : Int := if cs.length = 0 ∨ 12 < cs.length then 13 else colL [] cs
theorem colL_drop {cs : List Cl} {k : Nat} {c : Cl} (h : cs[k]? = some c) : colL ((cs.take k).map nmC) (cs.drop k) =
    if nameS (nmC c) = false then 1 else if c.2.1 < 1 ∨ 3 < c.2.1 then 7 else if nmC c ∈ (cs.take k).map nmC then 10 else colL ((cs.take (k + 1)).map nmC) (cs.drop (k + 1)) := by
  have h0 := h
  obtain ⟨h1, rfl⟩ := List.getElem?_eq_some_iff.1 h
  rw [List.drop_eq_getElem_cons h1, List.take_add_one, h0, List.map_append]
  rfl
theorem nameS_len {l : List UInt8} (h : nameS l = true) : l.length ≤ 24 := by
  unfold nameS at h
  simp only [Bool.and_eq_true, decide_eq_true_eq] at h
  omega
set_option maxRecDepth 100000 in
set_option maxHeartbeats 6400000 in
theorem checkColumns_any (vc : Value) (cs : List Cl) (m : Int) (w : World) (L : Nat) (hm : w.cell? ⟨0, 0, none⟩ = some (.int .i64 m)) (hc : RdK w L w.heap.size vc cs) :
    Calls Try.prog 23 #[vc] w fun e w' => e = .returned (.int .i64 (clsE cs)) ∧ Below w.heap.size w w' := by
  have HM := Lib.hid hm
  have hm0 := World.block_lt_of_cell? w _ hm
  obtain ⟨A, c, rfl, hl1, hc1⟩ := hc
  have HC := Lib.hid hc1
  have HB1 := Lib.hid (bel_mark w (.map #[] 0))
  have HS1 := Lib.hid (MapS.new w)
  clear hc1 hm
  by_cases hz : cs.length = 0
  · have hzi : ((cs.length : Int) == 0) = true := by rw [beq_iff_eq]; omega
    have HF := Lib.hid (show clsE cs = 13 from if_pos (.inl hz))
    go_enter Try.func23, Try.ntmps23
    go_wp2
    go_ret
    exact ⟨by rw [HF.out]; rfl, Below.refl _ _⟩
  have hzi : ((cs.length : Int) == 0) = false := by rw [beq_eq_false_iff_ne]; omega
  by_cases hx : 12 < cs.length
  · have hxi : (12 : Int) < cs.length := by omega
    have HF := Lib.hid (show clsE cs = 13 from if_pos (.inr hx))
    go_enter Try.func23, Try.ntmps23
    go_wp2
    go_ret
    exact ⟨by rw [HF.out]; rfl, Below.refl _ _⟩
  have hxi : ¬ (12 : Int) < cs.length := by omega
  have HE := Lib.hid (show clsE cs = colL ((cs.take 0).map nmC) (cs.drop 0) from if_neg (fun h => h.elim hz hx))
  clear hz hx
  have hmk : (Instr.makeMap 80 none).run Try.prog w = .ok (.map (some w.heap.size)) (w.alloc (.map #[] 0)) := rfl
  go_enter Try.func23, Try.ntmps23
  go_wp2_with fail
  go_loopw [17] (fun i wr => ∃ k : Nat, k ≤ cs.length ∧ i = .int .i64 k ∧ Hid (clsE cs = colL ((cs.take k).map nmC) (cs.drop k)) ∧ Hid (MapS wr w.heap.size ((cs.take k).map nmC)) ∧ Below w.heap.size w wr) (fun i _ => cs.length - (intOf i).toNat)
  case atStart => exact ⟨0, Nat.zero_le _, rfl, HE, HS1, HB1.out⟩
  case round =>
    obtain ⟨k, hk, rfl, HR, HS, hbr⟩ := hrel
    have hbz := hbr.size
    by_cases hlt : k < cs.length
    · have hki : (k : Int) < cs.length := by omega
      obtain ⟨ad, rfl, _, hab, a0, a1, a2⟩ := HC.out k _ (List.getElem?_eq_getElem hlt)
      have hcd := colL_drop (List.getElem?_eq_getElem hlt)
      rw [← HR.out] at hcd
      have htk : (cs.take (k + 1)).map nmC = (cs.take k).map nmC ++ [nmC cs[k]] := by rw [List.take_add_one, List.getElem?_eq_getElem hlt, List.map_append]; rfl
      generalize cs[k] = q at *
      obtain ⟨qn, qk, qb⟩ := q
      dsimp only at a0 a1 a2
      replace hcd : clsE cs = if nameS qn.data.toList = false then 1 else if qk < 1 ∨ 3 < qk then 7 else if qn.data.toList ∈ (cs.take k).map nmC then 10 else colL ((cs.take (k + 1)).map nmC) (cs.drop (k + 1)) := hcd
      replace htk : (cs.take (k + 1)).map nmC = (cs.take k).map nmC ++ [qn.data.toList] := htk
      have e0 := (hbr.cell (p := ad.add (k * 3)) (by rw [add_block]; exact hab)).trans a0
      have e1 := (hbr.cell (p := ⟨(ad.add (k * 3)).block, (ad.add (k * 3)).off + 1, none⟩) (by show (ad.add (k * 3)).block < _; rw [add_block]; exact hab)).trans a1
      have e2 := (hbr.cell (p := ⟨(ad.add (k * 3)).block, (ad.add (k * 3)).off + 2, none⟩) (by show (ad.add (k * 3)).block < _; rw [add_block]; exact hab)).trans a2
      have o1 := bel_mark wr (.cells #[.string qn, .int .i64 qk, .bool qb] 36)
      have ow1 := Own.new wr 36 #[.string qn, .int .i64 qk, .bool qb]
      have d0 := ow1.cell 0
      have HB2 := Lib.hid (hbr.trans (o1.mono hbz))
      have HS2 := Lib.hid (HS.out.below o1 HS.out.lt)
      have HN := Lib.hid (pName_any qn m (wr.alloc (.cells #[.string qn, .int .i64 qk, .bool qb] 36)) ((HB2.out.cell (p := ⟨0, 0, none⟩) hm0).trans HM.out))
      have OW1 := Lib.hid ow1
      have HCD := Lib.hid hcd
      have HTK := Lib.hid htk
      have hz0 := HB2.out.size
      clear a0 a1 a2 o1 ow1 hcd htk hmk
      have step : ∀ w2 : World, Below (wr.alloc (.cells #[.string qn, .int .i64 qk, .bool qb] 36)).heap.size (wr.alloc (.cells #[.string qn, .int .i64 qk, .bool qb] 36)) w2 → w2.cell? ⟨wr.heap.size, 0, none⟩ = some (.string qn) ∧ w2.cell? ⟨wr.heap.size, 1, none⟩ = some (.int .i64 qk) ∧ MapS w2 w.heap.size ((cs.take k).map nmC) ∧ Below w.heap.size w w2 := fun w2 hb =>
        ⟨(OW1.out.below hb OW1.out.lt).cell 0, (OW1.out.below hb OW1.out.lt).cell 1, HS2.out.below hb HS2.out.lt, HB2.out.trans (hb.mono hz0)⟩
      have STEP := Lib.hid step
      clear step
      cases hn : nameS qn.data.toList
      · rw [hn] at HN
        have HF := Lib.hid (HCD.out.trans (if_pos hn))
        clear hn
        go_wp2_with fail
        with_reducible refine HN.out.mono ?_
        rintro e w2 ⟨rfl, hb⟩
        go_wp2
        go_ret
        exact ⟨by rw [HF.out]; rfl, (STEP.out _ hb).2.2.2⟩
      rw [hn] at HN
      have hsz : qn.size ≤ maxLen := by
        have := nameS_len hn
        rw [size_list] at this
        unfold maxLen
        omega
      have HCD := Lib.hid (HCD.out.trans (if_neg (fun h => by rw [hn] at h; cases h)))
      clear hn
      by_cases hk1 : qk < 1
      · have HF := Lib.hid (HCD.out.trans (if_pos (.inl hk1)))
        go_wp2_with fail
        with_reducible refine HN.out.mono ?_
        rintro e w2 ⟨rfl, hb⟩
        obtain ⟨g0, g1, g2, g3⟩ := STEP.out _ hb
        have G3 := Lib.hid g3
        clear g2 g3 hb
        go_wp2
        go_ret
        exact ⟨by rw [HF.out]; rfl, G3.out⟩
      by_cases hk3 : 3 < qk
      · have HF := Lib.hid (HCD.out.trans (if_pos (.inr hk3)))
        go_wp2_with fail
        with_reducible refine HN.out.mono ?_
        rintro e w2 ⟨rfl, hb⟩
        obtain ⟨g0, g1, g2, g3⟩ := STEP.out _ hb
        have G3 := Lib.hid g3
        clear g2 g3 hb
        go_wp2
        go_ret
        exact ⟨by rw [HF.out]; rfl, G3.out⟩
      have HCD := Lib.hid (HCD.out.trans (if_neg (fun h => h.elim hk1 hk3)))
      by_cases hmem : qn.data.toList ∈ (cs.take k).map nmC
      · have HF := Lib.hid (HCD.out.trans (if_pos hmem))
        go_wp2_with fail
        with_reducible refine HN.out.mono ?_
        rintro e w2 ⟨rfl, hb⟩
        obtain ⟨g0, g1, g2, g3⟩ := STEP.out _ hb
        have G3 := Lib.hid g3
        have hlk := g2.look qn hsz
        rw [decide_eq_true hmem] at hlk
        clear g2 g3 hb hmem
        go_wp2
        go_ret
        exact ⟨by rw [HF.out]; rfl, G3.out⟩
      · have HF := Lib.hid (HCD.out.trans (if_neg hmem))
        have HMEM := Lib.hid hmem
        clear hmem
        go_wp2_with fail
        with_reducible refine HN.out.mono ?_
        rintro e w2 ⟨rfl, hb⟩
        obtain ⟨g0, g1, g2, g3⟩ := STEP.out _ hb
        have hlk := g2.look qn hsz
        rw [decide_eq_false HMEM.out] at hlk
        obtain ⟨w3, hpt, hs3, hg3, hz3⟩ := g2.put qn hsz HMEM.out
        rw [← HTK.out] at hs3
        have HS3 := Lib.hid hs3
        have G4 := Lib.hid (g3.grown hg3 g3.size (fun k hk => by injection hk with hk; omega))
        clear g2 g3 hb hs3 hg3 hz3
        go_wp2
        go_roundw
        case rel => exact ⟨k + 1, by omega, by go_num, HF, HS3, G4.out⟩
        case measure => simp [intOf]; omega
    · have hki : ¬ (k : Int) < cs.length := by omega
      have HF := Lib.hid (show clsE cs = 0 by rw [HR.out, List.drop_eq_nil_of_le (show cs.length ≤ k by omega)]; rfl)
      go_wp2
      go_ret
      exact ⟨by rw [HF.out]; rfl, hbr⟩
end Go.Proofs.Yteihjneeiojgaaa
/-
  Lists of numbers that lie in memory; schema.checkKey and what follows it. Conditions: none.
-/
namespace Go.Proofs.Yteihjneeiojgaaa
set_option maxRecDepth 100000
set_option linter.unusedVariables false
set_option linter.unusedSimpArgs false
open Go.RowKit

def keyT (cs : List Cl) : Int → List Int → Int
  | _, [] => 0
  | y, i :: ks => if i ≤ y ∨ (cs.length : Int) ≤ i then 25 else if ((cs[i.toNat]?).map (fun c => c.2.2)).getD false = true then 12 else keyT cs i ks
def keyE (cs : List Cl) (ks : List Int) : Int := if ks.length = 0 then 25 else keyT cs (-1) ks
theorem keyT_drop (cs : List Cl) (y : Int) {ks : List Int} {k : Nat} {i : Int} (h : ks[k]? = some i) : keyT cs y (ks.drop k) = if i ≤ y ∨ (cs.length : Int) ≤ i then 25 else if ((cs[i.toNat]?).map (fun c => c.2.2)).getD false = true then 12 else keyT cs i (ks.drop (k + 1)) := by
  obtain ⟨h1, rfl⟩ := List.getElem?_eq_some_iff.1 h
  rw [List.drop_eq_getElem_cons h1]
  rfl
set_option maxRecDepth 100000 in
set_option maxHeartbeats 6400000 in
theorem checkKey_any (nm vc vk vf vx : Value) (cs : List Cl) (ks : List Int) (w : World) (L L2 : Nat) (hc : RdK w L w.heap.size vc cs) (hk : RdI w L2 w.heap.size vk ks) :
    Calls Try.prog 24 #[.agg #[nm, vc, vk, vf, vx]] w fun e w' => e = .returned (.int .i64 (keyE cs ks)) ∧ Below w.heap.size w w' := by
  obtain ⟨A, c, rfl, hl1, hc1⟩ := hc
  obtain ⟨A2, c2, rfl, hl2, hc2⟩ := hk
  have HC := Lib.hid hc1
  have HC2 := Lib.hid hc2
  have HB1 := Lib.hid (bel_mark w (.cells #[nm, .slice A cs.length c, .slice A2 ks.length c2, vf, vx] 27))
  have HO1 := Lib.hid (Own.new w 27 #[nm, .slice A cs.length c, .slice A2 ks.length c2, vf, vx])
  have d2 := HO1.out.cell 2
  clear hc1 hc2
  by_cases hz : ks.length = 0
  · have hzi : ((ks.length : Int) == 0) = true := by rw [beq_iff_eq]; omega
    have HF := Lib.hid (show keyE cs ks = 25 from if_pos hz)
    clear hz
    go_enter Try.func24, Try.ntmps24
    go_wp2
    go_ret
    exact ⟨by rw [HF.out]; rfl, HB1.out⟩
  have hzi : ((ks.length : Int) == 0) = false := by rw [beq_eq_false_iff_ne]; omega
  have HE := Lib.hid (show keyE cs ks = keyT cs (-1) (ks.drop 0) from if_neg hz)
  clear hz
  go_enter Try.func24, Try.ntmps24
  go_wp2_with fail
  go_loopw [3, 13] (fun v i wr => ∃ (k : Nat) (y : Int), k ≤ ks.length ∧ i = .int .i64 k ∧ v = .int .i64 y ∧ -1 ≤ y ∧ Hid (keyE cs ks = keyT cs y (ks.drop k)) ∧ Hid (Own wr w.heap.size 27 #[nm, .slice A cs.length c, .slice A2 ks.length c2, vf, vx]) ∧ Below w.heap.size w wr) (fun _ i _ => ks.length - (intOf i).toNat)
  case atStart => exact ⟨0, -1, Nat.zero_le _, rfl, rfl, by omega, HE, HO1, HB1.out⟩
  case round =>
    obtain ⟨k, y, hk, rfl, rfl, hy, HR, HO, hbr⟩ := hrel
    have hbz := hbr.size
    clear d2
    by_cases hlt : k < ks.length
    · have hki : (k : Int) < ks.length := by omega
      obtain ⟨ad2, rfl, _, hab2, b0⟩ := HC2.out k _ (List.getElem?_eq_getElem hlt)
      have hcd := keyT_drop cs y (List.getElem?_eq_getElem hlt)
      rw [← HR.out] at hcd
      generalize ks[k] = i at *
      have f0 := (hbr.cell (p := ad2.add k) (by rw [add_block]; exact hab2)).trans b0
      have d1 := HO.out.cell 1
      have HCD := Lib.hid hcd
      clear b0 hcd
      by_cases hiy : i ≤ y
      · have HF := Lib.hid (HCD.out.trans (if_pos (.inl hiy)))
        go_wp2
        go_ret
        exact ⟨by rw [HF.out]; rfl, hbr⟩
      by_cases hin : (cs.length : Int) ≤ i
      · have HF := Lib.hid (HCD.out.trans (if_pos (.inr hin)))
        go_wp2
        go_ret
        exact ⟨by rw [HF.out]; rfl, hbr⟩
      have HCD := Lib.hid (HCD.out.trans (if_neg (fun h => h.elim hiy hin)))
      obtain ⟨j, rfl⟩ : ∃ j : Nat, i = j := ⟨i.toNat, by omega⟩
      have hjl : j < cs.length := by omega
      have hji : (j : Int) < cs.length := by omega
      obtain ⟨ad, rfl, _, hab, a0, a1, a2⟩ := HC.out j _ (List.getElem?_eq_getElem hjl)
      have e2 := (hbr.cell (p := ⟨(ad.add (j * 3)).block, (ad.add (j * 3)).off + 2, none⟩) (by show (ad.add (j * 3)).block < _; rw [add_block]; exact hab)).trans a2
      rw [Int.toNat_natCast, List.getElem?_eq_getElem hjl, Option.map_some, Option.getD_some] at HCD
      generalize cs[j] = q at *
      obtain ⟨qn, qk, qb⟩ := q
      dsimp only at e2 HCD
      clear a0 a1 a2
      cases qb
      · have HF := Lib.hid (HCD.out.trans (if_neg (by decide)))
        go_wp2
        go_roundw
        case rel => exact ⟨k + 1, j, by omega, by go_num, rfl, by omega, HF, HO, hbr⟩
        case measure => simp [intOf]; omega
      · have HF := Lib.hid (HCD.out.trans (if_pos rfl))
        go_wp2
        go_ret
        exact ⟨by rw [HF.out]; rfl, hbr⟩
    · have hki : ¬ (k : Int) < ks.length := by omega
      have HF := Lib.hid (show keyE cs ks = 0 by rw [HR.out, List.drop_eq_nil_of_le (show ks.length ≤ k by omega)]; rfl)
      go_wp2
      go_ret
      exact ⟨by rw [HF.out]; rfl, hbr⟩
set_option maxRecDepth 100000 in
set_option maxHeartbeats 1600000 in
/-- Without foreign keys. -/
theorem checkForeigns_none (nm vc vk vx : Value) (A : Option Addr) (c : Nat) (w : World) :
    Calls Try.prog 25 #[.agg #[nm, vc, vk, .slice A 0 c, vx]] w fun e w' => e = .returned (.int .i64 0) ∧ Below w.heap.size w w' := by
  have HB1 := Lib.hid (bel_mark w (.cells #[nm, vc, vk, .slice A 0 c, vx] 27))
  have d3 := (Own.new w 27 #[nm, vc, vk, .slice A 0 c, vx]).cell 3
  go_enter Try.func25, Try.ntmps25
  go_wp2
  go_loopw [12] (fun i wr => i = .int .i64 0 ∧ Below w.heap.size w wr) (fun i _ => 0)
  case atStart => exact ⟨rfl, HB1.out⟩
  case round =>
    obtain ⟨rfl, hbr⟩ := hrel
    go_wp2
    go_ret
    exact ⟨rfl, hbr⟩
def kdC (c : Cl) : Int := c.2.1
set_option maxRecDepth 100000 in
set_option maxHeartbeats 6400000 in
theorem pKinds_any (nm vc vk vf vx : Value) (cs : List Cl) (w : World) (L : Nat) (hc : RdK w L w.heap.size vc cs) (hlen : cs.length ≤ 1099511627776) :
    Calls Try.prog 48 #[.agg #[nm, vc, vk, vf, vx]] w (RetZ w (cs.map kdC)) := by
  obtain ⟨A, c, rfl, hl1, hc1⟩ := hc
  have HC := Lib.hid hc1
  have b1 := bel_mark w (.cells #[nm, .slice A cs.length c, vk, vf, vx] 27)
  have HO1 := Lib.hid ((Own.new w 27 #[nm, .slice A cs.length c, vk, vf, vx]))
  have d1 := HO1.out.cell 1
  have hmk := made_rowZ (w.alloc (.cells #[nm, .slice A cs.length c, vk, vf, vx] 27)) cs.length hlen
  rw [World.size_alloc] at hmk
  have d1b := (HO1.out.alloc (.cells (rowZ [] cs.length) 3)).cell 1
  have HO2 := Lib.hid (show Own ((w.alloc (.cells #[nm, .slice A cs.length c, vk, vf, vx] 27)).alloc (.cells (rowZ [] cs.length) 3)) (w.heap.size + 1) 3 (rowZ [] cs.length) from own_two2 _)
  have HB2 := Lib.hid (b1.trans ((bel_mark _ (.cells (rowZ [] cs.length) 3)).mono b1.size))
  clear hc1 b1
  go_enter Try.func48, Try.ntmps48
  go_wp2_with fail
  clear hmk
  go_loopw [13] (fun i wr => ∃ k : Nat, k ≤ cs.length ∧ i = .int .i64 k ∧ Hid (Own wr (w.heap.size + 1) 3 (rowZ ((cs.take k).map kdC) cs.length)) ∧ Below w.heap.size w wr) (fun i _ => cs.length - (intOf i).toNat)
  case atStart => exact ⟨0, Nat.zero_le _, rfl, HO2, HB2.out⟩
  case round =>
    obtain ⟨k, hk, rfl, HO, hbr⟩ := hrel
    have hbz := hbr.size
    clear d1 d1b
    by_cases hlt : k < cs.length
    · have hki : (k : Int) < cs.length := by omega
      obtain ⟨ad, rfl, _, hab, a0, a1, a2⟩ := HC.out k _ (List.getElem?_eq_getElem hlt)
      have htk : (cs.take (k + 1)).map kdC = (cs.take k).map kdC ++ [kdC cs[k]] := by rw [List.take_add_one, List.getElem?_eq_getElem hlt, List.map_append]; rfl
      generalize cs[k] = q at *
      obtain ⟨qn, qk, qb⟩ := q
      dsimp only at a0 a1 a2
      replace htk : (cs.take (k + 1)).map kdC = (cs.take k).map kdC ++ [qk] := htk
      have e0 := (hbr.cell (p := ad.add (k * 3)) (by rw [add_block]; exact hab)).trans a0
      have e1 := (hbr.cell (p := ⟨(ad.add (k * 3)).block, (ad.add (k * 3)).off + 1, none⟩) (by show (ad.add (k * 3)).block < _; rw [add_block]; exact hab)).trans a1
      have e2 := (hbr.cell (p := ⟨(ad.add (k * 3)).block, (ad.add (k * 3)).off + 2, none⟩) (by show (ad.add (k * 3)).block < _; rw [add_block]; exact hab)).trans a2
      have hlz : ((cs.take k).map kdC).length = k := by rw [List.length_map, List.length_take]; omega
      have o1 := HO.out.alloc (.cells #[.string qn, .int .i64 qk, .bool qb] 36)
      have z0 := rowZ_next ((cs.take k).map kdC) cs.length (by rw [hlz]; exact hlt)
      rw [hlz] at z0
      have f0 := (o1.cell k).trans z0
      have f1 := o1.free k
      have o2 := o1.store k (.int .i64 qk)
      have z1 := rowZ_set ((cs.take k).map kdC) cs.length qk (by rw [hlz]; exact hlt)
      rw [hlz] at z1
      rw [z1, ← htk] at o2
      have HO3 := Lib.hid o2
      have b3 := hbr.trans ((bel_mark wr (.cells #[.string qn, .int .i64 qk, .bool qb] 36)).mono hbz)
      have HB3 := Lib.hid (b3.setCell (p := ⟨w.heap.size + 1, k, none⟩) (Nat.le_succ _) (.int .i64 qk))
      have g1 := (Own.new wr 36 #[.string qn, .int .i64 qk, .bool qb]).cell 1
      clear a0 a1 a2 o1 o2 z0 z1 b3 htk hlz
      go_wp2
      go_roundw
      case rel => exact ⟨k + 1, by omega, by go_num, HO3, HB3.out⟩
      case measure => simp [intOf]; omega
    · have hki : ¬ (k : Int) < cs.length := by omega
      have HF := Lib.hid (show RdI wr w.heap.size wr.heap.size (.slice (some ⟨w.heap.size + 1, 0, none⟩) cs.length cs.length) (cs.map kdC) by
        have h := HO.out
        rw [List.take_of_length_le (by omega)] at h
        rw [show cs.length = (cs.map kdC).length from (List.length_map _).symm] at h ⊢
        exact rdI_row h (by omega) (by rw [List.length_map]; omega))
      go_wp2
      go_ret
      exact ⟨_, rfl, HF.out, hbr⟩
end Go.Proofs.Yteihjneeiojgaaa
/-
  schema.Check over tables without foreign keys and checks: what it answers. Conditions: the search's variable holds some number.
-/
namespace Go.Proofs.Yteihjneeiojgaaa
set_option maxRecDepth 100000
set_option linter.unusedVariables false
set_option linter.unusedSimpArgs false
open Go.RowKit

theorem Own.five {w : World} {g : Nat} {t : TypeId} {a b c d e : Value} (h : Own w g t #[a, b, c, d, e]) : w.cell? ⟨g, 0, none⟩ = some a ∧ w.cell? ⟨g, 1, none⟩ = some b ∧ w.cell? ⟨g, 2, none⟩ = some c ∧ w.cell? ⟨g, 3, none⟩ = some d ∧ w.cell? ⟨g, 4, none⟩ = some e :=
  ⟨h.cell 0, h.cell 1, h.cell 2, h.cell 3, h.cell 4⟩
set_option maxRecDepth 100000 in
set_option maxHeartbeats 3200000 in
/-- Without checks. -/
theorem checkChecks_none (nm vc vk vf : Value) (A : Option Addr) (c : Nat) (cs : List Cl) (w : World) (L : Nat) (hc : RdK w L w.heap.size vc cs) (hlen : cs.length ≤ 1099511627776) :
    Calls Try.prog 26 #[.agg #[nm, vc, vk, vf, .slice A 0 c]] w fun e w' => e = .returned (.int .i64 0) ∧ Below w.heap.size w w' := by
  have b1 := bel_mark w (.cells #[nm, vc, vk, vf, .slice A 0 c] 27)
  have HO1 := Lib.hid ((Own.new w 27 #[nm, vc, vk, vf, .slice A 0 c]))
  have HK := Lib.hid (pKinds_any nm vc vk vf (.slice A 0 c) cs (w.alloc (.cells #[nm, vc, vk, vf, .slice A 0 c] 27)) L (hc.step b1 (Nat.le_refl _)) hlen)
  obtain ⟨d0, d1, d2, d3, d4⟩ := HO1.out.five
  have HB1 := Lib.hid b1
  clear b1 hc
  go_enter Try.func26, Try.ntmps26
  go_wp2_with fail
  with_reducible refine HK.out.mono ?_
  rintro e w1 ⟨u, rfl, hu, hb⟩
  have HO2 := Lib.hid (HO1.out.below hb HO1.out.lt)
  have HB2 := Lib.hid (HB1.out.trans (hb.mono HB1.out.size))
  replace d4 := HO2.out.cell 4
  clear HK hu hb d0 d1 d2 d3
  go_wp2
  go_loopw [17] (fun i wr => i = .int .i64 0 ∧ Below w.heap.size w wr) (fun i _ => 0)
  case atStart => exact ⟨rfl, HB2.out⟩
  case round =>
    obtain ⟨rfl, hbr⟩ := hrel
    go_wp2
    go_ret
    exact ⟨rfl, hbr⟩
/-- What a table without foreign keys and checks is answered. -/
def chkS (nm : List UInt8) (cs : List Cl) (ks : List Int) : Int := if nameS nm = false then 1 else if clsE cs ≠ 0 then clsE cs else keyE cs ks
set_option maxRecDepth 100000 in
set_option maxHeartbeats 6400000 in
theorem check_none (nm : ByteArray) (vc vk : Value) (A A' : Option Addr) (c c' : Nat) (cs : List Cl) (ks : List Int) (m : Int) (w : World) (L L2 : Nat) (hm : w.cell? ⟨0, 0, none⟩ = some (.int .i64 m)) (hc : RdK w L w.heap.size vc cs) (hk : RdI w L2 w.heap.size vk ks) (hlen : cs.length ≤ 1099511627776) :
    Calls Try.prog 13 #[.agg #[.string nm, vc, vk, .slice A 0 c, .slice A' 0 c']] w fun e w' => e = .returned (.int .i64 (chkS nm.data.toList cs ks)) ∧ Below w.heap.size w w' := by
  have hm0 := World.block_lt_of_cell? w _ hm
  have b1 := bel_mark w (.cells #[.string nm, vc, vk, .slice A 0 c, .slice A' 0 c'] 27)
  have HO1 := Lib.hid ((Own.new w 27 #[.string nm, vc, vk, .slice A 0 c, .slice A' 0 c']))
  have HN := Lib.hid (pName_any nm m _ ((b1.cell (p := ⟨0, 0, none⟩) hm0).trans hm))
  have H1 := Lib.hid (fun W (h : Below w.heap.size w W) => checkColumns_any vc cs m W L ((h.cell (p := ⟨0, 0, none⟩) hm0).trans hm) (hc.step h (Nat.le_refl _)))
  have H2 := Lib.hid (fun W (h : Below w.heap.size w W) => checkKey_any (.string nm) vc vk (.slice A 0 c) (.slice A' 0 c') cs ks W L L2 (hc.step h (Nat.le_refl _)) (hk.step h (Nat.le_refl _)))
  have H3 := Lib.hid (fun W => checkForeigns_none (.string nm) vc vk (.slice A' 0 c') A c W)
  have H4 := Lib.hid (fun W (h : Below w.heap.size w W) => checkChecks_none (.string nm) vc vk (.slice A 0 c) A' c' cs W L (hc.step h (Nat.le_refl _)) hlen)
  obtain ⟨d0, d1, d2, d3, d4⟩ := HO1.out.five
  have HB1 := Lib.hid b1
  have HX := Lib.hid (show chkS nm.data.toList cs ks = if nameS nm.data.toList = false then 1 else if clsE cs ≠ 0 then clsE cs else keyE cs ks from rfl)
  generalize chkS nm.data.toList cs ks = R at *
  generalize nameS nm.data.toList = bn at *
  generalize hce : clsE cs = ce at *
  generalize hke : keyE cs ks = ke at *
  clear b1 hc hk hm hce hke
  cases bn
  · have HF := Lib.hid (HX.out.trans (if_pos rfl))
    go_enter Try.func13, Try.ntmps13
    go_wp2_with fail
    with_reducible refine HN.out.mono ?_
    rintro e w1 ⟨rfl, hb⟩
    go_wp2
    go_ret
    exact ⟨by rw [HF.out]; rfl, HB1.out.trans (hb.mono HB1.out.size)⟩
  have HX := Lib.hid (HX.out.trans (if_neg (by decide)))
  go_enter Try.func13, Try.ntmps13
  go_wp2_with fail
  with_reducible refine HN.out.mono ?_
  rintro e w1 ⟨rfl, hb⟩
  have HO2 := Lib.hid (HO1.out.below hb HO1.out.lt)
  have HB2 := Lib.hid (HB1.out.trans (hb.mono HB1.out.size))
  have h1 := H1.out w1 HB2.out
  clear HN H1 hb d0 d1 d2 d3 d4
  obtain ⟨d0, d1, d2, d3, d4⟩ := HO2.out.five
  by_cases hc0 : ce = 0
  rotate_left
  · have HF := Lib.hid (HX.out.trans (if_pos hc0))
    have c0 : (ce != 0) = true := by simp [hc0]
    clear hc0
    go_wp2_with fail
    with_reducible refine h1.mono ?_
    rintro e w2 ⟨rfl, hb⟩
    go_wp2
    go_ret
    exact ⟨by rw [HF.out]; rfl, HB2.out.trans (hb.mono HB2.out.size)⟩
  have HX := Lib.hid (HX.out.trans (if_neg (fun h => h hc0)))
  have c0 : (ce != 0) = false := by simp [hc0]
  clear hc0
  go_wp2_with fail
  with_reducible refine h1.mono ?_
  rintro e w2 ⟨rfl, hb⟩
  have HO3 := Lib.hid (HO2.out.below hb HO2.out.lt)
  have HB3 := Lib.hid (HB2.out.trans (hb.mono HB2.out.size))
  have h2 := H2.out w2 HB3.out
  clear h1 H2 hb d0 d1 d2 d3 d4
  obtain ⟨d0, d1, d2, d3, d4⟩ := HO3.out.five
  by_cases hk0 : ke = 0
  rotate_left
  · have k0 : (ke != 0) = true := by simp [hk0]
    clear hk0
    go_wp2_with fail
    with_reducible refine h2.mono ?_
    rintro e w3 ⟨rfl, hb⟩
    go_wp2
    go_ret
    exact ⟨by rw [HX.out]; rfl, HB3.out.trans (hb.mono HB3.out.size)⟩
  have k0 : (ke != 0) = false := by simp [hk0]
  have HX := Lib.hid (HX.out.trans hk0)
  clear hk0
  go_wp2_with fail
  with_reducible refine h2.mono ?_
  rintro e w3 ⟨rfl, hb⟩
  have HO4 := Lib.hid (HO3.out.below hb HO3.out.lt)
  have HB4 := Lib.hid (HB3.out.trans (hb.mono HB3.out.size))
  have h3 := H3.out w3
  clear h2 H3 hb d0 d1 d2 d3 d4
  obtain ⟨d0, d1, d2, d3, d4⟩ := HO4.out.five
  go_wp2_with fail
  with_reducible refine h3.mono ?_
  rintro e w4 ⟨rfl, hb⟩
  have HO5 := Lib.hid (HO4.out.below hb HO4.out.lt)
  have HB5 := Lib.hid (HB4.out.trans (hb.mono HB4.out.size))
  have h4 := H4.out w4 HB5.out
  clear h3 H4 hb d0 d1 d2 d3 d4
  obtain ⟨d0, d1, d2, d3, d4⟩ := HO5.out.five
  go_wp2_with fail
  with_reducible refine h4.mono ?_
  rintro e w5 ⟨rfl, hb⟩
  go_wp2
  go_ret
  exact ⟨by rw [HX.out]; rfl, HB5.out.trans (hb.mono HB5.out.size)⟩
end Go.Proofs.Yteihjneeiojgaaa
/-
  The reference's Accepts over tables: what it answers. Conditions: none.
-/
namespace Go.Proofs.Yteihjneeiojgaaa
set_option maxRecDepth 100000
set_option linter.unusedVariables false
set_option linter.unusedSimpArgs false
open Go.RowKit

end Go.Proofs.Yteihjneeiojgaaa
