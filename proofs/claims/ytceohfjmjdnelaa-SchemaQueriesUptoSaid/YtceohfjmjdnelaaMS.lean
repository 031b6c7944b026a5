import Derived.Test.YtceohfjmjdnelaaMC
import Derived.Test.YtceohfjmjdnelaaMA
import Derived.WalkKit
import Derived.WalkSpells
import Derived.WalkLawsBesides
import Derived.Deep.QuietTactic
import Derived.BigQuiet
import Derived.Handy
import Derived.Lib.Hide
import Derived.Test.YtceohfjmjdnelaaMB
import Derived.Lib.OthersKept
import Derived.Laws.RangeAny
import Derived.WideKeyElems
import Derived.StringKeys
import Derived.Test.YtceohfjmjdnelaaMT
import Derived.Test.YtceohfjmjdnelaaMV
/-
  Tables: columns that lie in memory; schema.Accepts and the reference's: what they answer. Conditions: none.
-/
namespace Go.Proofs.Ytceohfjmjdnelaa
set_option maxRecDepth 100000
open Go.RowKit

/-- A column: name, kind, may it be null. -/
abbrev Cl := ByteArray × Int × Bool
def RdK (w : World) (L B : Nat) (v : Value) (cs : List Cl) : Prop :=
  ∃ A c, v = .slice A cs.length c ∧ cs.length ≤ 9223372036854775807 ∧ ∀ (k : Nat) (q : Cl), cs[k]? = some q → ∃ ad : Addr, A = some ad ∧ L ≤ ad.block ∧ ad.block < B ∧
    w.cell? (ad.add (k * 3)) = some (.string q.1) ∧ w.cell? ⟨(ad.add (k * 3)).block, (ad.add (k * 3)).off + 1, none⟩ = some (.int .i64 q.2.1) ∧ w.cell? ⟨(ad.add (k * 3)).block, (ad.add (k * 3)).off + 2, none⟩ = some (.bool q.2.2)
theorem RdK.below {w w' : World} {L B : Nat} {v : Value} {cs : List Cl} (h : RdK w L B v cs) (hb : Below B w w') : RdK w' L B v cs := by
  obtain ⟨A, c, hv, hl, hc⟩ := h
  refine ⟨A, c, hv, hl, fun k n hk => ?_⟩
  obtain ⟨ad, h1, h0, h2, h3, h4, h5⟩ := hc k n hk
  exact ⟨ad, h1, h0, h2, (hb.cell (p := ad.add (k * 3)) (by rw [add_block]; exact h2)).trans h3, (hb.cell (p := ⟨(ad.add (k * 3)).block, (ad.add (k * 3)).off + 1, none⟩) (by show (ad.add (k * 3)).block < _; rw [add_block]; exact h2)).trans h4,
    (hb.cell (p := ⟨(ad.add (k * 3)).block, (ad.add (k * 3)).off + 2, none⟩) (by show (ad.add (k * 3)).block < _; rw [add_block]; exact h2)).trans h5⟩
theorem RdK.more {w : World} {L B B' : Nat} {v : Value} {cs : List Cl} (h : RdK w L B v cs) (hB : B ≤ B') : RdK w L B' v cs := by
  obtain ⟨A, c, hv, hl, hc⟩ := h
  exact ⟨A, c, hv, hl, fun k n hk => let ⟨ad, h1, h0, h2, h3⟩ := hc k n hk; ⟨ad, h1, h0, Nat.lt_of_lt_of_le h2 hB, h3⟩⟩
theorem RdK.low {w : World} {L L' B : Nat} {v : Value} {cs : List Cl} (h : RdK w L B v cs) (hL : L' ≤ L) : RdK w L' B v cs := by
  obtain ⟨A, c, hv, hl, hc⟩ := h
  exact ⟨A, c, hv, hl, fun k n hk => let ⟨ad, h1, h0, h2⟩ := hc k n hk; ⟨ad, h1, Nat.le_trans hL h0, h2⟩⟩
theorem RdK.step {w w' : World} {L B : Nat} {v : Value} {cs : List Cl} (h : RdK w L B v cs) (hb : Below w.heap.size w w') (hB : B ≤ w.heap.size) : RdK w' L w'.heap.size v cs :=
  ((h.more hB).below hb).more hb.size
/-- What a row that is as long as the columns is answered. -/
def accL : List Cl → List Vl → Int
  | c :: cs, p :: ps => if okP p = false then 8 else if p.1 = 0 then (if c.2.2 = false then 12 else accL cs ps) else if p.1 ≠ c.2.1 then 7 else accL cs ps
  | _, _ => 0
def accS (cs : List Cl) (ps : List Vl) : Int := if ps.length ≠ cs.length then 13 else accL cs ps
theorem accL_drop {cs : List Cl} {ps : List Vl} {k : Nat} {c : Cl} {p : Vl} (hc : cs[k]? = some c) (hp : ps[k]? = some p) :
    accL (cs.drop k) (ps.drop k) = if okP p = false then 8 else if p.1 = 0 then (if c.2.2 = false then 12 else accL (cs.drop (k + 1)) (ps.drop (k + 1))) else if p.1 ≠ c.2.1 then 7 else accL (cs.drop (k + 1)) (ps.drop (k + 1)) := by
  obtain ⟨h1, rfl⟩ := List.getElem?_eq_some_iff.1 hc
  obtain ⟨h2, rfl⟩ := List.getElem?_eq_some_iff.1 hp
  rw [List.drop_eq_getElem_cons h1, List.drop_eq_getElem_cons h2]
  rfl
theorem own_two2 {w : World} {t : TypeId} {cs : Array Value} (o : Obj) : Own ((w.alloc o).alloc (.cells cs t)) (w.heap.size + 1) t cs := by
  have h := Own.new (w.alloc o) t cs
  rwa [World.size_alloc] at h
set_option maxRecDepth 100000 in
set_option maxHeartbeats 6400000 in
theorem pAccepts_any (nm vc vk vf vx u : Value) (cs : List Cl) (ps : List Vl) (w : World) (L L2 : Nat) (hc : RdK w L w.heap.size vc cs) (hu : RdV w L2 w.heap.size u ps) :
    Calls Try.prog 22 #[.agg #[nm, vc, vk, vf, vx], u] w fun e w' => e = .returned (.int .i64 (accS cs ps)) ∧ Below w.heap.size w w' := by
  obtain ⟨A, c, rfl, hl1, hc1⟩ := hc
  obtain ⟨A2, c2, rfl, hl2, hc2⟩ := hu
  have HC := Lib.hid hc1
  have HC2 := Lib.hid hc2
  have HB1 := Lib.hid (bel_mark w (.cells #[nm, .slice A cs.length c, vk, vf, vx] 27))
  have HO1 := Lib.hid (Own.new w 27 #[nm, .slice A cs.length c, vk, vf, vx])
  have d1 := HO1.out.cell 1
  clear hc1 hc2
  by_cases hln : ps.length = cs.length
  rotate_left
  · have hne : ((ps.length : Int) != (cs.length : Int)) = true := by simp; omega
    have HF := Lib.hid (show accS cs ps = 13 from if_pos hln)
    go_enter Try.func22, Try.ntmps22
    go_wp2
    go_ret
    exact ⟨by rw [HF.out]; rfl, HB1.out⟩
  have hne : ((ps.length : Int) != (cs.length : Int)) = false := by simp; omega
  have HLN := Lib.hid hln
  have HS := Lib.hid (show accS cs ps = accL cs ps from if_neg (fun h => h hln))
  clear hln
  go_enter Try.func22, Try.ntmps22
  go_wp2
  go_loopw [17] (fun i wr => ∃ k : Nat, k ≤ cs.length ∧ i = .int .i64 k ∧ Hid (accS cs ps = accL (cs.drop k) (ps.drop k)) ∧ Below w.heap.size w wr) (fun i _ => cs.length - (intOf i).toNat)
  case atStart => exact ⟨0, Nat.zero_le _, rfl, HS, HB1.out⟩
  case round =>
    obtain ⟨k, hk, rfl, HR, hbr⟩ := hrel
    have hbz := hbr.size
    by_cases hlt : k < cs.length
    · have hki : (k : Int) < cs.length := by omega
      have hlt2 : k < ps.length := by have := HLN.out; omega
      have hki2 : (k : Int) < ps.length := by omega
      obtain ⟨ad, rfl, _, hab, a0, a1, a2⟩ := HC.out k _ (List.getElem?_eq_getElem hlt)
      obtain ⟨ad2, rfl, _, hab2, b0, b1, b2⟩ := HC2.out k _ (List.getElem?_eq_getElem hlt2)
      have hcd := accL_drop (List.getElem?_eq_getElem hlt) (List.getElem?_eq_getElem hlt2)
      rw [← HR.out] at hcd
      generalize cs[k] = q at *
      generalize ps[k] = p at *
      obtain ⟨qn, qk, qb⟩ := q
      obtain ⟨kd, n, s⟩ := p
      dsimp only at a0 a1 a2 b0 b1 b2 hcd
      have e0 := (hbr.cell (p := ad.add (k * 3)) (by rw [add_block]; exact hab)).trans a0
      have e1 := (hbr.cell (p := ⟨(ad.add (k * 3)).block, (ad.add (k * 3)).off + 1, none⟩) (by show (ad.add (k * 3)).block < _; rw [add_block]; exact hab)).trans a1
      have e2 := (hbr.cell (p := ⟨(ad.add (k * 3)).block, (ad.add (k * 3)).off + 2, none⟩) (by show (ad.add (k * 3)).block < _; rw [add_block]; exact hab)).trans a2
      have o1 := bel_mark wr (.cells #[.string qn, .int .i64 qk, .bool qb] 48)
      have B1 := hbr.trans (o1.mono hbz)
      have f0 := (B1.cell (p := ad2.add (k * 3)) (by rw [add_block]; exact hab2)).trans b0
      have f1 := (B1.cell (p := ⟨(ad2.add (k * 3)).block, (ad2.add (k * 3)).off + 1, none⟩) (by show (ad2.add (k * 3)).block < _; rw [add_block]; exact hab2)).trans b1
      have f2 := (B1.cell (p := ⟨(ad2.add (k * 3)).block, (ad2.add (k * 3)).off + 2, none⟩) (by show (ad2.add (k * 3)).block < _; rw [add_block]; exact hab2)).trans b2
      have o2 := bel_mark (wr.alloc (.cells #[.string qn, .int .i64 qk, .bool qb] 48)) (.cells #[.int .i64 kd, .int .i64 n, .string s] 45)
      have ow1 := (Own.new wr 48 #[.string qn, .int .i64 qk, .bool qb]).alloc (.cells #[.int .i64 kd, .int .i64 n, .string s] 45)
      have ow2 := own_two2 (w := wr) (t := 45) (cs := #[.int .i64 kd, .int .i64 n, .string s]) (.cells #[.string qn, .int .i64 qk, .bool qb] 48)
      have B2 := B1.trans (o2.mono B1.size)
      have z2 := B2.size
      have hv0 := pValid_any kd n s ((wr.alloc (.cells #[.string qn, .int .i64 qk, .bool qb] 48)).alloc (.cells #[.int .i64 kd, .int .i64 n, .string s] 45))
      unfold valV at hv0
      dsimp only at hv0
      have HV := Lib.hid hv0
      have HB2 := Lib.hid B2
      have OW1 := Lib.hid ow1
      have OW2 := Lib.hid ow2
      have HCD := Lib.hid hcd
      clear a0 a1 a2 b0 b1 b2 o1 o2 B1 B2 ow1 ow2 hcd hv0
      by_cases hv : okP (kd, n, s) = false
      · rw [hv] at HV
        have HF := Lib.hid (HCD.out.trans (if_pos hv))
        clear hv
        go_wp2_with fail
        with_reducible refine HV.out.mono ?_
        rintro e w2 ⟨rfl, hb3⟩
        go_wp2
        go_ret
        exact ⟨by rw [HF.out]; rfl, HB2.out.trans (hb3.mono z2)⟩
      rw [show okP (kd, n, s) = true by simpa using hv] at HV
      have HCD := Lib.hid (HCD.out.trans (if_neg hv))
      clear hv
      by_cases h0 : kd = 0
      · have HCD := Lib.hid (HCD.out.trans (if_pos h0))
        have k0 : (kd == 0) = true := by simp [h0]
        have k1 : (kd != 0) = false := by simp [h0]
        cases qb
        · have HF := Lib.hid (HCD.out.trans (if_pos rfl))
          clear h0
          go_wp2_with fail
          with_reducible refine HV.out.mono ?_
          rintro e w2 ⟨rfl, hb3⟩
          have g0 := ((OW2.out.below hb3 OW2.out.lt).cell 0)
          have g1 := ((OW1.out.below hb3 OW1.out.lt).cell 2)
          go_wp2
          go_ret
          exact ⟨by rw [HF.out]; rfl, HB2.out.trans (hb3.mono z2)⟩
        · have HF := Lib.hid (HCD.out.trans (if_neg (by decide)))
          clear h0
          go_wp2_with fail
          with_reducible refine HV.out.mono ?_
          rintro e w2 ⟨rfl, hb3⟩
          have g0 := ((OW2.out.below hb3 OW2.out.lt).cell 0)
          have g1 := ((OW1.out.below hb3 OW1.out.lt).cell 2)
          go_wp2
          go_roundw
          case rel => exact ⟨k + 1, by omega, by go_num, HF, HB2.out.trans (hb3.mono z2)⟩
          case measure => simp [intOf]; omega
      · have HCD := Lib.hid (HCD.out.trans (if_neg h0))
        have k0 : (kd == 0) = false := by simp [h0]
        have k1 : (kd != 0) = true := by simp [h0]
        by_cases hq : kd = qk
        · have HF := Lib.hid (HCD.out.trans (if_neg (fun h => h hq)))
          have k2 : (kd != qk) = false := by simp [hq]
          clear h0 hq
          go_wp2_with fail
          with_reducible refine HV.out.mono ?_
          rintro e w2 ⟨rfl, hb3⟩
          have g0 := ((OW2.out.below hb3 OW2.out.lt).cell 0)
          have g1 := ((OW1.out.below hb3 OW1.out.lt).cell 1)
          go_wp2
          go_roundw
          case rel => exact ⟨k + 1, by omega, by go_num, HF, HB2.out.trans (hb3.mono z2)⟩
          case measure => simp [intOf]; omega
        · have HF := Lib.hid (HCD.out.trans (if_pos hq))
          have k2 : (kd != qk) = true := by simp [hq]
          clear h0 hq
          go_wp2_with fail
          with_reducible refine HV.out.mono ?_
          rintro e w2 ⟨rfl, hb3⟩
          have g0 := ((OW2.out.below hb3 OW2.out.lt).cell 0)
          have g1 := ((OW1.out.below hb3 OW1.out.lt).cell 1)
          go_wp2
          go_ret
          exact ⟨by rw [HF.out]; rfl, HB2.out.trans (hb3.mono z2)⟩
    · have hki : ¬ (k : Int) < cs.length := by omega
      have HF := Lib.hid (show accS cs ps = 0 by rw [HR.out, List.drop_eq_nil_of_le (show cs.length ≤ k by omega)]; rfl)
      go_wp2
      go_ret
      exact ⟨by rw [HF.out]; rfl, hbr⟩
end Go.Proofs.Ytceohfjmjdnelaa
/-
  The reference's Accepts over tables: what it answers. Conditions: none.
-/
namespace Go.Proofs.Ytceohfjmjdnelaa
set_option maxRecDepth 100000
open Go.RowKit

set_option maxRecDepth 100000 in
set_option maxHeartbeats 6400000 in
theorem rAccepts_any (nm vc vk vf vx u : Value) (cs : List Cl) (ps : List Vl) (w : World) (L L2 : Nat) (hc : RdK w L w.heap.size vc cs) (hu : RdV w L2 w.heap.size u ps) :
    Calls Try.prog 23 #[.agg #[nm, vc, vk, vf, vx], u] w fun e w' => e = .returned (.int .i64 (accS cs ps)) ∧ Below w.heap.size w w' := by
  obtain ⟨A, c, rfl, hl1, hc1⟩ := hc
  obtain ⟨A2, c2, rfl, hl2, hc2⟩ := hu
  have HC := Lib.hid hc1
  have HC2 := Lib.hid hc2
  have HB1 := Lib.hid (bel_mark w (.cells #[nm, .slice A cs.length c, vk, vf, vx] 27))
  have HO1 := Lib.hid (Own.new w 27 #[nm, .slice A cs.length c, vk, vf, vx])
  have d1 := HO1.out.cell 1
  clear hc1 hc2
  by_cases hln : ps.length = cs.length
  rotate_left
  · have hne : ((ps.length : Int) != (cs.length : Int)) = true := by simp; omega
    have HF := Lib.hid (show accS cs ps = 13 from if_pos hln)
    go_enter Try.func23, Try.ntmps23
    go_wp2
    go_ret
    exact ⟨by rw [HF.out]; rfl, HB1.out⟩
  have hne : ((ps.length : Int) != (cs.length : Int)) = false := by simp; omega
  have HLN := Lib.hid hln
  have HS := Lib.hid (show accS cs ps = accL cs ps from if_neg (fun h => h hln))
  clear hln
  go_enter Try.func23, Try.ntmps23
  go_wp2
  go_loopw [5] (fun i wr => ∃ k : Nat, k ≤ cs.length ∧ i = .int .i64 k ∧ Hid (accS cs ps = accL (cs.drop k) (ps.drop k)) ∧ Hid (Own wr w.heap.size 27 #[nm, .slice A cs.length c, vk, vf, vx]) ∧ Below w.heap.size w wr) (fun i _ => cs.length - (intOf i).toNat)
  case atStart => exact ⟨0, Nat.zero_le _, rfl, HS, HO1, HB1.out⟩
  case round =>
    obtain ⟨k, hk, rfl, HR, HO, hbr⟩ := hrel
    have hbz := hbr.size
    clear d1
    by_cases hlt : k < cs.length
    · have hki : (k : Int) < cs.length := by omega
      have hlt2 : k < ps.length := by have := HLN.out; omega
      have hki2 : (k : Int) < ps.length := by omega
      obtain ⟨ad, rfl, _, hab, a0, a1, a2⟩ := HC.out k _ (List.getElem?_eq_getElem hlt)
      obtain ⟨ad2, rfl, _, hab2, b0, b1, b2⟩ := HC2.out k _ (List.getElem?_eq_getElem hlt2)
      have hcd := accL_drop (List.getElem?_eq_getElem hlt) (List.getElem?_eq_getElem hlt2)
      rw [← HR.out] at hcd
      generalize cs[k] = q at *
      generalize ps[k] = p at *
      obtain ⟨qn, qk, qb⟩ := q
      obtain ⟨kd, n, s⟩ := p
      dsimp only at a0 a1 a2 b0 b1 b2 hcd
      have e1 := (hbr.cell (p := ⟨(ad.add (k * 3)).block, (ad.add (k * 3)).off + 1, none⟩) (by show (ad.add (k * 3)).block < _; rw [add_block]; exact hab)).trans a1
      have e2 := (hbr.cell (p := ⟨(ad.add (k * 3)).block, (ad.add (k * 3)).off + 2, none⟩) (by show (ad.add (k * 3)).block < _; rw [add_block]; exact hab)).trans a2
      have f0 := (hbr.cell (p := ad2.add (k * 3)) (by rw [add_block]; exact hab2)).trans b0
      have f1 := (hbr.cell (p := ⟨(ad2.add (k * 3)).block, (ad2.add (k * 3)).off + 1, none⟩) (by show (ad2.add (k * 3)).block < _; rw [add_block]; exact hab2)).trans b1
      have f2 := (hbr.cell (p := ⟨(ad2.add (k * 3)).block, (ad2.add (k * 3)).off + 2, none⟩) (by show (ad2.add (k * 3)).block < _; rw [add_block]; exact hab2)).trans b2
      have hv0 := rValid7_any kd n s wr
      unfold valV at hv0
      dsimp only at hv0
      have HV := Lib.hid hv0
      have E1 := Lib.hid e1
      have E2 := Lib.hid e2
      have F0 := Lib.hid f0
      have HCD := Lib.hid hcd
      have hz1 : (ad.add (k * 3)).block < wr.heap.size := by rw [add_block]; omega
      have hz2 : (ad2.add (k * 3)).block < wr.heap.size := by rw [add_block]; omega
      clear a0 a1 a2 b0 b1 b2 hcd hv0 e1 e2
      by_cases hv : okP (kd, n, s) = false
      · rw [hv] at HV
        have HF := Lib.hid (HCD.out.trans (if_pos hv))
        clear hv
        go_wp2_with fail
        with_reducible refine HV.out.mono ?_
        rintro e w2 ⟨rfl, hb3⟩
        go_wp2
        go_ret
        exact ⟨by rw [HF.out]; rfl, hbr.trans (hb3.mono hbz)⟩
      rw [show okP (kd, n, s) = true by simpa using hv] at HV
      have HCD := Lib.hid (HCD.out.trans (if_neg hv))
      clear hv
      by_cases h0 : kd = 0
      · have HCD := Lib.hid (HCD.out.trans (if_pos h0))
        have k0 : (kd == 0) = true := by simp [h0]
        cases qb
        · have HF := Lib.hid (HCD.out.trans (if_pos rfl))
          clear h0
          go_wp2_with fail
          with_reducible refine HV.out.mono ?_
          rintro e w2 ⟨rfl, hb3⟩
          have g0 := (hb3.cell (p := ad2.add (k * 3)) hz2).trans F0.out
          have g1 := ((HO.out.below hb3 HO.out.lt).cell 1)
          have g2 := (hb3.cell (p := ⟨(ad.add (k * 3)).block, (ad.add (k * 3)).off + 2, none⟩) hz1).trans E2.out
          go_wp2
          go_ret
          exact ⟨by rw [HF.out]; rfl, hbr.trans (hb3.mono hbz)⟩
        · have HF := Lib.hid (HCD.out.trans (if_neg (by decide)))
          clear h0
          go_wp2_with fail
          with_reducible refine HV.out.mono ?_
          rintro e w2 ⟨rfl, hb3⟩
          have g0 := (hb3.cell (p := ad2.add (k * 3)) hz2).trans F0.out
          have g1 := ((HO.out.below hb3 HO.out.lt).cell 1)
          have g2 := (hb3.cell (p := ⟨(ad.add (k * 3)).block, (ad.add (k * 3)).off + 2, none⟩) hz1).trans E2.out
          have HO2 := Lib.hid (HO.out.below hb3 HO.out.lt)
          go_wp2
          go_roundw
          case rel => exact ⟨k + 1, by omega, by go_num, HF, HO2, hbr.trans (hb3.mono hbz)⟩
          case measure => simp [intOf]; omega
      · have HCD := Lib.hid (HCD.out.trans (if_neg h0))
        have k0 : (kd == 0) = false := by simp [h0]
        by_cases hq : kd = qk
        · have HF := Lib.hid (HCD.out.trans (if_neg (fun h => h hq)))
          have k2 : (kd != qk) = false := by simp [hq]
          clear h0 hq
          go_wp2_with fail
          with_reducible refine HV.out.mono ?_
          rintro e w2 ⟨rfl, hb3⟩
          have g0 := (hb3.cell (p := ad2.add (k * 3)) hz2).trans F0.out
          have g1 := ((HO.out.below hb3 HO.out.lt).cell 1)
          have g2 := (hb3.cell (p := ⟨(ad.add (k * 3)).block, (ad.add (k * 3)).off + 1, none⟩) hz1).trans E1.out
          have hlt3 := (HO.out.below hb3 HO.out.lt).lt
          have x0 : ∀ r : After w2, r.w.cell? (ad2.add (k * 3)) = some (.int .i64 kd) := after_cell (Nat.lt_of_lt_of_le hz2 hb3.size) g0
          have x1 : ∀ r : After w2, r.w.cell? ⟨w.heap.size, 1, none⟩ = some (.slice (some ad) cs.length c) := after_cell hlt3 g1
          have x2 : ∀ r : After w2, r.w.cell? ⟨(ad.add (k * 3)).block, (ad.add (k * 3)).off + 1, none⟩ = some (.int .i64 qk) := after_cell (Nat.lt_of_lt_of_le hz1 hb3.size) g2
          have HO2 := Lib.hid (HO.out.below hb3 HO.out.lt)
          have HB3 := Lib.hid (hbr.trans (hb3.mono hbz))
          go_wp2_with fail
          (refine wp_region_after (by kernel_rfl) (by kernel_rfl) ?_; (repeat (go_big_quiet_step (fail))); refine wpQuiet_nil ?_; intro wq hw0; obtain ⟨⟨wq0, hbq⟩, hw1⟩ := hw0; subst hw1; (try dsimp only))
          have HO3 := Lib.hid (HO2.out.below hbq HO2.out.lt)
          clear x0 x1 x2
          go_wp2
          go_roundw
          case rel => exact ⟨k + 1, by omega, by go_num, HF, HO3, HB3.out.trans (hbq.mono HB3.out.size)⟩
          case measure => simp [intOf]; omega
        · have HF := Lib.hid (HCD.out.trans (if_pos hq))
          have k2 : (kd != qk) = true := by simp [hq]
          clear h0 hq
          go_wp2_with fail
          with_reducible refine HV.out.mono ?_
          rintro e w2 ⟨rfl, hb3⟩
          have g0 := (hb3.cell (p := ad2.add (k * 3)) hz2).trans F0.out
          have g1 := ((HO.out.below hb3 HO.out.lt).cell 1)
          have g2 := (hb3.cell (p := ⟨(ad.add (k * 3)).block, (ad.add (k * 3)).off + 1, none⟩) hz1).trans E1.out
          have hlt3 := (HO.out.below hb3 HO.out.lt).lt
          have x0 : ∀ r : After w2, r.w.cell? (ad2.add (k * 3)) = some (.int .i64 kd) := after_cell (Nat.lt_of_lt_of_le hz2 hb3.size) g0
          have x1 : ∀ r : After w2, r.w.cell? ⟨w.heap.size, 1, none⟩ = some (.slice (some ad) cs.length c) := after_cell hlt3 g1
          have x2 : ∀ r : After w2, r.w.cell? ⟨(ad.add (k * 3)).block, (ad.add (k * 3)).off + 1, none⟩ = some (.int .i64 qk) := after_cell (Nat.lt_of_lt_of_le hz1 hb3.size) g2
          have HB3 := Lib.hid (hbr.trans (hb3.mono hbz))
          go_wp2_with fail
          (refine wp_region_after (by kernel_rfl) (by kernel_rfl) ?_; (repeat (go_big_quiet_step (fail))); refine wpQuiet_nil ?_; intro wq hw0; obtain ⟨⟨wq0, hbq⟩, hw1⟩ := hw0; subst hw1; (try dsimp only))
          clear x0 x1 x2
          go_wp2
          go_ret
          exact ⟨by rw [HF.out]; rfl, HB3.out.trans (hbq.mono HB3.out.size)⟩
    · have hki : ¬ (k : Int) < cs.length := by omega
      have hki2 : ¬ (k : Int) < ps.length := by have := HLN.out; omega
      have HF := Lib.hid (show accS cs ps = 0 by rw [HR.out, List.drop_eq_nil_of_le (show cs.length ≤ k by omega)]; rfl)
      go_wp2
      go_ret
      exact ⟨by rw [HF.out]; rfl, hbr⟩
end Go.Proofs.Ytceohfjmjdnelaa
/-
  schema.Name: what it answers. Conditions: the search's variable holds some number.
-/
namespace Go.Proofs.Ytceohfjmjdnelaa
set_option maxRecDepth 100000
open Go.RowKit

def digB (b : UInt8) : Bool := decide (48 ≤ b.toNat) && decide (b.toNat ≤ 57)
def lowB (b : UInt8) : Bool := decide (97 ≤ b.toNat) && decide (b.toNat ≤ 122)
def okcB (b : UInt8) : Bool := digB b || lowB b || decide (b.toNat = 95)
/-- The text of the keywords, each between two blanks. -/
def kwL : List UInt8 := [32, 97, 100, 100, 32, 97, 102, 116, 101, 114, 32, 97, 108, 108, 32, 97, 108, 116, 101, 114, 32, 97, 110, 100, 32, 97, 115, 32, 98, 101, 102, 111, 114, 101, 32, 98, 101, 103, 105, 110, 32, 98, 101, 116, 119, 101, 101, 110, 32, 98, 111, 111, 108, 32, 98, 121, 32, 99, 104, 101, 99, 107, 32, 99, 111, 97, 108, 101, 115, 99, 101, 32, 99, 111, 109, 109, 105, 116, 32, 99, 111, 110, 116, 97, 105, 110, 115, 32, 99, 111, 117, 110, 116, 32, 99, 114, 101, 97, 116, 101, 32, 100, 101, 102, 97, 117, 108, 116, 32, 100, 101, 108, 101, 116, 101, 32, 100, 101, 115, 99, 32, 100, 105, 115, 116, 105, 110, 99, 116, 32, 100, 114, 111, 112, 32, 100, 117, 114, 105, 110, 103, 32, 101, 113, 117, 97, 108, 115, 32, 101, 120, 99, 101, 112, 116, 32, 102, 97, 108, 115, 101, 32, 102, 105, 110, 105, 115, 104, 101, 100, 98, 121, 32, 102, 105, 110, 105, 115, 104, 101, 115, 32, 102, 111, 114, 101, 105, 103, 110, 32, 102, 111, 114, 101, 118, 101, 114, 32, 102, 114, 111, 109, 32, 103, 114, 111, 117, 112, 32, 104, 111, 108, 100, 32, 105, 102, 32, 105, 110, 115, 101, 114, 116, 32, 105, 110, 116, 32, 105, 110, 116, 101, 114, 115, 101, 99, 116, 32, 105, 110, 116, 111, 32, 105, 115, 32, 106, 111, 105, 110, 32, 107, 101, 121, 32, 108, 101, 102, 116, 32, 108, 101, 110, 103, 116, 104, 32, 108, 105, 109, 105, 116, 32, 109, 97, 120, 32, 109, 101, 101, 116, 115, 32, 109, 101, 116, 98, 121, 32, 109, 105, 110, 32, 110, 111, 110, 115, 101, 113, 117, 101, 110, 99, 101, 100, 32, 110, 111, 116, 32, 110, 111, 119, 32, 110, 117, 108, 108, 32, 111, 102, 32, 111, 110, 32, 111, 114, 32, 111, 114, 100, 101, 114, 32, 111, 118, 101, 114, 108, 97, 112, 112, 101, 100, 98, 121, 32, 111, 118, 101, 114, 108, 97, 112, 115, 32, 112, 114, 105, 109, 97, 114, 121, 32, 112, 114, 117, 110, 101, 32, 114, 101, 102, 101, 114, 101, 110, 99, 101, 115, 32, 114, 101, 108, 101, 97, 115, 101, 32, 114, 101, 110, 97, 109, 101, 32, 114, 101, 116, 97, 105, 110, 32, 114, 111, 108, 108, 98, 97, 99, 107, 32, 115, 101, 108, 101, 99, 116, 32, 115, 101, 113, 117, 101, 110, 99, 101, 100, 32, 115, 101, 116, 32, 115, 116, 97, 114, 116, 101, 100, 98, 121, 32, 115, 116, 97, 114, 116, 115, 32, 115, 117, 109, 32, 115, 121, 115, 116, 101, 109, 32, 115, 121, 115, 116, 101, 109, 102, 114, 111, 109, 32, 115, 121, 115, 116, 101, 109, 116, 111, 32, 116, 97, 98, 108, 101, 32, 116, 101, 120, 116, 32, 116, 111, 32, 116, 114, 117, 101, 32, 116, 120, 32, 117, 110, 100, 101, 114, 32, 117, 110, 105, 111, 110, 32, 117, 112, 100, 97, 116, 101, 32, 118, 97, 108, 105, 100, 32, 118, 97, 108, 105, 100, 102, 114, 111, 109, 32, 118, 97, 108, 105, 100, 116, 111, 32, 118, 97, 108, 117, 101, 115, 32, 119, 104, 101, 114, 101, 32]
def nameS (l : List UInt8) : Bool := decide (0 < l.length) && decide (l.length ≤ 24) && !(digB (l.getD 0 0)) && l.all okcB && !(Lib.contains kwL ([32] ++ l ++ [32]))
theorem wrap32_byte (b : UInt8) : wrap32 (b.toNat : Int) = (b.toNat : Int) := by
  have := b.toNat_lt
  unfold wrap32
  omega
theorem dig_byte (b : UInt8) : (decide (48 ≤ (b.toNat : Int)) && decide ((b.toNat : Int) ≤ 57)) = digB b := by
  unfold digB
  rw [show decide ((48 : Int) ≤ (b.toNat : Int)) = decide (48 ≤ b.toNat) from decide_eq_decide.2 (by omega), show decide ((b.toNat : Int) ≤ 57) = decide (b.toNat ≤ 57) from decide_eq_decide.2 (by omega)]
theorem low_byte (b : UInt8) : (decide (97 ≤ (b.toNat : Int)) && decide ((b.toNat : Int) ≤ 122)) = lowB b := by
  unfold lowB
  rw [show decide ((97 : Int) ≤ (b.toNat : Int)) = decide (97 ≤ b.toNat) from decide_eq_decide.2 (by omega), show decide ((b.toNat : Int) ≤ 122) = decide (b.toNat ≤ 122) from decide_eq_decide.2 (by omega)]
def okR (r : Nat) : Bool := (decide (48 ≤ (r : Int)) && decide ((r : Int) ≤ 57)) || (decide (97 ≤ (r : Int)) && decide ((r : Int) ≤ 122)) || decide (r = 95)
/-- The rune at a place is a name's letter just where the byte is; it is then of one byte. -/
theorem okR_at (s : ByteArray) (pos : Nat) (h : pos < s.size) : okR (Utf8.decode s pos).1 = okcB (s[pos]'h) ∧ (okR (Utf8.decode s pos).1 = true → (Utf8.decode s pos).2 = 1) := by
  by_cases ha : (s[pos]'h).toNat < 128
  · rw [decode_ascii s pos h ha]
    refine ⟨?_, fun _ => rfl⟩
    unfold okR okcB
    rw [dig_byte, low_byte]
  · have hd := (decode_high s pos h (by omega)).1
    have e1 : okR (Utf8.decode s pos).1 = false := by
      unfold okR
      generalize (Utf8.decode s pos).1 = r at *
      simp only [Bool.or_eq_false_iff, Bool.and_eq_false_iff, decide_eq_false_iff_not]
      omega
    have e2 : okcB (s[pos]'h) = false := by
      unfold okcB digB lowB
      simp only [Bool.or_eq_false_iff, Bool.and_eq_false_iff, decide_eq_false_iff_not]
      omega
    rw [e1, e2]
    exact ⟨rfl, fun h => by cases h⟩
theorem getS_list (s : ByteArray) (pos : Nat) (h : pos < s.size) : s.data.toList[pos]? = some (s[pos]'h) := by
  rw [List.getElem?_eq_getElem (by rw [size_list]; exact h)]
  rfl
theorem isDigit_any (c : Int) (w : World) : Calls Try.prog 28 #[.int .i32 c] w fun e w' => e = .returned (.bool (decide (48 ≤ c) && decide (c ≤ 57))) ∧ w' = w := by
  by_cases h1 : 48 ≤ c
  · by_cases h2 : c ≤ 57
    · rw [decide_eq_true h1, decide_eq_true h2]
      go_enter Try.func28, Try.ntmps28
      go_wp2
      go_ret
      exact ⟨rfl, rfl⟩
    · rw [decide_eq_true h1, decide_eq_false h2]
      go_enter Try.func28, Try.ntmps28
      go_wp2
      go_ret
      exact ⟨rfl, rfl⟩
  · rw [decide_eq_false h1]
    go_enter Try.func28, Try.ntmps28
    go_wp2
    go_ret
    exact ⟨rfl, rfl⟩
theorem isLower_any (c : Int) (w : World) : Calls Try.prog 29 #[.int .i32 c] w fun e w' => e = .returned (.bool (decide (97 ≤ c) && decide (c ≤ 122))) ∧ w' = w := by
  by_cases h1 : 97 ≤ c
  · by_cases h2 : c ≤ 122
    · rw [decide_eq_true h1, decide_eq_true h2]
      go_enter Try.func29, Try.ntmps29
      go_wp2
      go_ret
      exact ⟨rfl, rfl⟩
    · rw [decide_eq_true h1, decide_eq_false h2]
      go_enter Try.func29, Try.ntmps29
      go_wp2
      go_ret
      exact ⟨rfl, rfl⟩
  · rw [decide_eq_false h1]
    go_enter Try.func29, Try.ntmps29
    go_wp2
    go_ret
    exact ⟨rfl, rfl⟩
set_option maxRecDepth 100000 in
set_option maxHeartbeats 6400000 in
theorem pName_any (s : ByteArray) (m : Int) (w : World) (hm : w.cell? ⟨0, 0, none⟩ = some (.int .i64 m)) :
    Calls Try.prog 9 #[.string s] w fun e w' => e = .returned (.bool (nameS s.data.toList)) ∧ Below w.heap.size w w' := by
  have hls := size_list s
  by_cases h0 : s.size = 0
  · have he : s.toList.isEmpty = true := by rw [Lib.toList_data]; rw [List.isEmpty_iff]; exact List.eq_nil_of_length_eq_zero (by omega)
    have HF := Lib.hid (show nameS s.data.toList = false by unfold nameS; rw [show decide (0 < s.data.toList.length) = false from decide_eq_false (by omega)]; rfl)
    clear hls h0
    go_enter Try.func9, Try.ntmps9
    go_wp2
    go_ret
    exact ⟨by rw [HF.out]; rfl, Below.refl _ _⟩
  have he : s.toList.isEmpty = false := by rw [Lib.toList_data]; rw [Bool.eq_false_iff]; intro h; rw [List.isEmpty_iff] at h; rw [h] at hls; exact h0 hls.symm
  by_cases h1 : 24 < s.size
  · have h1i : (24 : Int) < (s.size : Int) := by omega
    have HF := Lib.hid (show nameS s.data.toList = false by unfold nameS; rw [show decide (s.data.toList.length ≤ 24) = false from decide_eq_false (by omega)]; rw [Bool.and_false]; rfl)
    clear hls h0 h1
    go_enter Try.func9, Try.ntmps9
    go_wp2
    go_ret
    exact ⟨by rw [HF.out]; rfl, Below.refl _ _⟩
  have h1i : ¬ (24 : Int) < (s.size : Int) := by omega
  have hp : 0 < s.size := by omega
  have hpi : (0 : Int) < s.size := by omega
  have hg0 : s.data.toList.getD 0 0 = s[0]'hp := by rw [List.getD_eq_getElem?_getD, getS_list s 0 hp]; rfl
  have hd0 := isDigit_any (wrap32 ((s[0]'hp).toNat : Int)) w
  rw [wrap32_byte, dig_byte] at hd0
  have HN := Lib.hid (show nameS s.data.toList = (!(digB (s[0]'hp)) && s.data.toList.all okcB && !(Lib.contains kwL ([32] ++ s.data.toList ++ [32]))) by
    unfold nameS
    rw [hg0, show decide (0 < s.data.toList.length) = true from decide_eq_true (by omega), show decide (s.data.toList.length ≤ 24) = true from decide_eq_true (by omega), Bool.true_and, Bool.true_and])
  have hw0 := wrap32_byte (s[0]'hp)
  generalize digB (s[0]'hp) = dg at *
  clear hg0
  have hct : ∀ W : World, W.cell? ⟨0, 0, none⟩ = some (.int .i64 m) → Calls Try.prog 30 #[.string ⟨kwL.toArray⟩, .string ((⟨#[32]⟩ : ByteArray) ++ s ++ ⟨#[32]⟩)] W fun e w' => e = .returned (.bool (Lib.contains kwL ([32] ++ s.data.toList ++ [32]))) ∧ w' = W := fun W h => by
    have h2 := Try.strings_Contains ⟨kwL.toArray⟩ ((⟨#[32]⟩ : ByteArray) ++ s ++ ⟨#[32]⟩) m W (by decide +kernel) h
    rw [show ((⟨#[32]⟩ : ByteArray) ++ s ++ ⟨#[32]⟩).data.toList = [32] ++ s.data.toList ++ [32] by simp [ByteArray.data_append]] at h2
    exact h2
  cases dg
  rotate_left
  · have HF := Lib.hid (show nameS s.data.toList = false from HN.out)
    clear HN
    go_enter Try.func9, Try.ntmps9
    go_wp2_with fail
    with_reducible refine hd0.mono ?_
    rintro e w2 ⟨rfl, rfl⟩
    go_wp2
    go_ret
    exact ⟨by rw [HF.out]; rfl, Below.refl _ _⟩
  go_enter Try.func9, Try.ntmps9
  go_wp2_with fail
  with_reducible refine hd0.mono ?_
  rintro e w2 ⟨rfl, h2⟩
  subst w2
  clear hd0
  go_wp2_with fail
  go_loopw [4] (fun c wr => ∃ pos : Nat, wr = w.iter s pos ∧ pos ≤ s.size ∧ Hid ((s.data.toList.take pos).all okcB = true)) (fun _ wr => s.size - wr.iterPos w.heap.size)
  case atStart => exact ⟨0, rfl, Nat.zero_le _, Lib.hid rfl⟩
  case round =>
    obtain ⟨pos, rfl, hpl, HA⟩ := hrel
    by_cases hlt : pos < s.size
    · have hnx : ∀ ty, (Instr.next (.pointer (some ⟨w.heap.size, 0, none⟩)) true ty).run Try.prog (w.iter s pos) = _ := fun ty => run_next_any w s pos ty hlt
      obtain ⟨hok, hwd⟩ := okR_at s pos hlt
      have hgl := getS_list s pos hlt
      have hno : okR (Utf8.decode s pos).1 = false → nameS s.data.toList = false := fun h => by
        rw [HN.out]
        have h2 : s.data.toList.all okcB = false := by
          rw [Bool.eq_false_iff]
          intro h3
          rw [List.all_eq_true] at h3
          have h4 := h3 _ (List.mem_of_getElem? hgl)
          rw [← hok, h] at h4
          cases h4
        rw [h2]
        rfl
      have hyes : okR (Utf8.decode s pos).1 = true → (s.data.toList.take (pos + 1)).all okcB = true := fun h => by
        rw [List.take_add_one, hgl, List.all_append, HA.out, Bool.true_and, Option.toList_some, List.all_cons, List.all_nil, Bool.and_true, ← hok]
        exact h
      have hd := isDigit_any ((Utf8.decode s pos).1 : Int) (w.iter s (pos + (Utf8.decode s pos).2))
      have hl := isLower_any ((Utf8.decode s pos).1 : Int) (w.iter s (pos + (Utf8.decode s pos).2))
      clear hgl hok
      unfold okR at hno hyes hwd
      have B1 := Lib.hid (bel_mark w (.stringIter s (pos + (Utf8.decode s pos).2)))
      generalize (Utf8.decode s pos).1 = r at *
      generalize (Utf8.decode s pos).2 = wd at *
      have HNO := Lib.hid hno
      have HYES := Lib.hid hyes
      have HWD := Lib.hid hwd
      clear hno hyes hwd
      cases hdg : (decide (48 ≤ (r : Int)) && decide ((r : Int) ≤ 57))
      · rw [hdg] at hd HNO HYES HWD
        cases hlg : (decide (97 ≤ (r : Int)) && decide ((r : Int) ≤ 122))
        · rw [hlg] at hl HNO HYES HWD
          by_cases h95 : r = 95
          · have n95 : ((r : Int) != 95) = false := by simp [h95]
            have w1 := HWD.out (by simp [h95])
            have HY := Lib.hid (HYES.out (by simp [h95]))
            subst w1
            clear hdg hlg h95 HNO HYES HWD
            go_wp2_with fail
            with_reducible refine hd.mono ?_
            rintro e w2 ⟨rfl, rfl⟩
            clear hd
            go_wp2_with fail
            with_reducible refine hl.mono ?_
            rintro e w2 ⟨rfl, rfl⟩
            clear hl
            go_wp2
            go_roundw
            case rel => exact ⟨pos + 1, rfl, hlt, HY⟩
            case measure => simp; omega
          · have n95 : ((r : Int) != 95) = true := by simp; omega
            have HF := Lib.hid (HNO.out (by simp [h95]))
            clear hdg hlg h95 HNO HYES HWD
            go_wp2_with fail
            with_reducible refine hd.mono ?_
            rintro e w2 ⟨rfl, rfl⟩
            clear hd
            go_wp2_with fail
            with_reducible refine hl.mono ?_
            rintro e w2 ⟨rfl, rfl⟩
            clear hl
            go_wp2
            go_ret
            exact ⟨by rw [HF.out]; rfl, B1.out⟩
        · rw [hlg] at hl HNO HYES HWD
          have w1 := HWD.out rfl
          have HY := Lib.hid (HYES.out rfl)
          subst w1
          clear hdg hlg HNO HYES HWD
          go_wp2_with fail
          with_reducible refine hd.mono ?_
          rintro e w2 ⟨rfl, rfl⟩
          clear hd
          go_wp2_with fail
          with_reducible refine hl.mono ?_
          rintro e w2 ⟨rfl, rfl⟩
          clear hl
          go_wp2
          go_roundw
          case rel => exact ⟨pos + 1, rfl, hlt, HY⟩
          case measure => simp; omega
      · rw [hdg] at hd HNO HYES HWD
        have w1 := HWD.out rfl
        have HY := Lib.hid (HYES.out rfl)
        subst w1
        clear hdg HNO HYES HWD hl
        go_wp2_with fail
        with_reducible refine hd.mono ?_
        rintro e w2 ⟨rfl, rfl⟩
        clear hd
        go_wp2
        go_roundw
        case rel => exact ⟨pos + 1, rfl, hlt, HY⟩
        case measure => simp; omega
    · have hnx : ∀ ty, (Instr.next (.pointer (some ⟨w.heap.size, 0, none⟩)) true ty).run Try.prog (w.iter s pos) = _ := fun ty => run_next_end w s pos ty hlt
      have HCT := Lib.hid (hct (w.iter s pos) (((bel_mark w _).cell (p := ⟨0, 0, none⟩) (World.block_lt_of_cell? w _ hm)).trans hm))
      have HAL := Lib.hid (show s.data.toList.all okcB = true by have h := HA.out; rw [List.take_of_length_le (by omega)] at h; exact h)
      clear hm hct
      go_wp2_with fail
      refine HCT.out.mono ?_
      rintro e w3 ⟨rfl, rfl⟩
      have HF := Lib.hid (show nameS s.data.toList = !(Lib.contains kwL ([32] ++ s.data.toList ++ [32])) by rw [HN.out, HAL.out]; rfl)
      go_wp2
      go_ret
      exact ⟨by rw [HF.out]; rfl, bel_mark w _⟩
end Go.Proofs.Ytceohfjmjdnelaa
/-
  A set of names that a call keeps (map[string]bool). Conditions: names no longer than a string may be.
-/
namespace Go.Proofs.Ytceohfjmjdnelaa
set_option maxRecDepth 100000
open Go.RowKit Go.ChangeShapes Go.WideShapes Go.MapKept Go.ChangeMaps Go.WideElems
open Go.WideMaps (KeyLaw)
open Go.WideMaps

/-- The map in block b holds just the names ns, each true. -/
def MapS (w : World) (b : Nat) (ns : List (List UInt8)) : Prop :=
  ∃ (es : Array MapEntry) (clock : Nat), w.heap[b]? = some (.map es clock) ∧ (∀ x ∈ es.toList, ∃ s : ByteArray, x.key = .string s ∧ s.size ≤ maxLen ∧ s.data.toList ∈ ns ∧ x.val = .bool true) ∧ ∀ l ∈ ns, ∃ x ∈ es.toList, x.key = .string ⟨l.toArray⟩
theorem MapS.lt {w : World} {b : Nat} {ns : List (List UInt8)} (h : MapS w b ns) : b < w.heap.size := by
  obtain ⟨es, c, h1, _⟩ := h
  exact (Array.getElem?_eq_some_iff.1 h1).1
theorem MapS.below {B : Nat} {w w' : World} {b : Nat} {ns : List (List UInt8)} (h : MapS w b ns) (hb : Below B w w') (hg : b < B) : MapS w' b ns := by
  obtain ⟨es, c, h1, h2⟩ := h
  exact ⟨es, c, (hb.block b hg).trans h1, h2⟩
theorem MapS.new (w : World) : MapS (w.alloc (.map #[] 0)) w.heap.size [] := ⟨#[], 0, heap_alloc_new w _, fun x h => by simp at h, fun s h => by simp at h⟩
theorem lawS : KeyLaw Try.prog 9 := string_law Try.underlying9
theorem MapS.look {w : World} {b : Nat} {ns : List (List UInt8)} (h : MapS w b ns) (s : ByteArray) (hs : s.size ≤ maxLen) :
    (Instr.lookup 81 (.map (some b)) (.string s) false).run Try.prog w = .ok (.bool (decide (s.data.toList ∈ ns))) w := by
  obtain ⟨es, c, hb, h1, h2⟩ := h
  have hkey := keyOf_string_mk (P := Try.prog) Try.underlying9 hs
  have hz : (zeroValue 4).run Try.prog w = .ok (.bool false) w := rfl
  have hks : ∀ e ∈ es.toList, ∃ l, keyOf Try.prog 9 e.key = some l := fun e he => by
    obtain ⟨s2, e1, e2, _⟩ := h1 e he
    rw [e1]
    exact ⟨_, keyOf_string_mk Try.underlying9 e2⟩
  rcases lawS.find w hkey es.toList hks with ⟨f1, f2⟩ | ⟨j, e0, f1, f2, f3⟩
  · have hn : decide (s.data.toList ∈ ns) = false := decide_eq_false (fun hm => by
      obtain ⟨x, hx, hx2⟩ := h2 _ hm
      exact f2 x hx hx2)
    rw [hn]
    simp [Instr.lookup, run_underlying Try.underlying81, MapKept.run_getObj_map hb, lawS.check w _ hkey, f1, hz, Result.andThen]
  · have hm0 : e0 ∈ es.toList := List.mem_of_getElem? f2
    obtain ⟨s2, e1, e2, e3, e4⟩ := h1 e0 hm0
    rw [f3] at e1
    injection e1 with e1
    subst e1
    rw [decide_eq_true e3]
    simp [Instr.lookup, run_underlying Try.underlying81, MapKept.run_getObj_map hb, lawS.check w _ hkey, f1, e4, Result.andThen]
theorem MapS.put {w : World} {b : Nat} {ns : List (List UInt8)} (h : MapS w b ns) (s : ByteArray) (hs : s.size ≤ maxLen) (hn : s.data.toList ∉ ns) :
    ∃ w', (Instr.mapUpdate 81 (.map (some b)) (.string s) (.bool true)).run Try.prog w = .ok () w' ∧ MapS w' b (ns ++ [s.data.toList]) ∧ w.grownBy w' (some b) ∧ w'.heap.size = w.heap.size := by
  have hlt := h.lt
  obtain ⟨es, c, hb, h1, h2⟩ := h
  have hkey := keyOf_string_mk (P := Try.prog) Try.underlying9 hs
  have hks : ∀ e ∈ es.toList, ∃ l, keyOf Try.prog 9 e.key = some l := fun e he => by
    obtain ⟨s2, e1, e2, _⟩ := h1 e he
    rw [e1]
    exact ⟨_, keyOf_string_mk Try.underlying9 e2⟩
  rcases lawS.find w hkey es.toList hks with ⟨f1, f2⟩ | ⟨j, e0, f1, f2, f3⟩
  · refine ⟨setBlock w b (.map (es.push ⟨.string s, .bool true, c⟩) (c + 1)), ?_, ⟨es.push ⟨.string s, .bool true, c⟩, c + 1, ?_, ?_, ?_⟩, ⟨rfl, rfl, rfl, ?_, ?_⟩, ?_⟩
    · simp [Instr.mapUpdate, run_underlying Try.underlying81, MapKept.run_getObj_map hb, lawS.check w false hkey, f1, MapKept.run_setObj_map _ hb, Result.andThen, setBlock]
    · unfold setBlock
      simp [hlt]
    · intro x hx
      simp only [Array.toList_push, List.mem_append, List.mem_singleton] at hx
      rcases hx with hx | rfl
      · obtain ⟨s2, e1, e2, e3, e4⟩ := h1 x hx
        exact ⟨s2, e1, e2, List.mem_append_left _ e3, e4⟩
      · exact ⟨s, rfl, hs, by simp, rfl⟩
    · intro s2 hs2
      rcases List.mem_append.1 hs2 with hs2 | hs2
      · obtain ⟨x, hx, hx2⟩ := h2 s2 hs2
        exact ⟨x, by simp [hx], hx2⟩
      · exact ⟨⟨.string s, .bool true, c⟩, by simp, by rw [List.mem_singleton.1 hs2]⟩
    · unfold setBlock; simp
    · intro i hi hne
      have hne2 : b ≠ i := fun e => hne (by rw [e])
      unfold setBlock
      simp [hne2]
    · unfold setBlock; simp
  · have hm0 : e0 ∈ es.toList := List.mem_of_getElem? f2
    obtain ⟨s2, e1, e2, e3, e4⟩ := h1 e0 hm0
    rw [f3] at e1
    injection e1 with e1
    subst e1
    exact absurd e3 hn
end Go.Proofs.Ytceohfjmjdnelaa
/-
  schema.checkColumns: what it answers. Conditions: the search's variable holds some number.
-/
namespace Go.Proofs.Ytceohfjmjdnelaa
set_option maxRecDepth 100000
open Go.RowKit

def nmC (c : Cl) : List UInt8 := c.1.data.toList
def colL (pre : List (List UInt8)) : List Cl → Int
  | [] => 0
  | c :: cs => if nameS (nmC c) = false then 1 else if c.2.1 < 1 ∨ 3 < c.2.1 then 7 else if nmC c ∈ pre then 10 else colL (pre ++ [nmC c]) cs
def colE (cs : List Cl) : Int := if cs.length = 0 ∨ 12 < cs.length then 13 else colL [] cs
theorem colL_drop {cs : List Cl} {k : Nat} {c : Cl} (h : cs[k]? = some c) : colL ((cs.take k).map nmC) (cs.drop k) =
    if nameS (nmC c) = false then 1 else if c.2.1 < 1 ∨ 3 < c.2.1 then 7 else if nmC c ∈ (cs.take k).map nmC then 10 else colL ((cs.take (k + 1)).map nmC) (cs.drop (k + 1)) := by
  have h0 := h
  obtain ⟨h1, rfl⟩ := List.getElem?_eq_some_iff.1 h
  rw [List.drop_eq_getElem_cons h1, List.take_add_one, h0, List.map_append]
  rfl
theorem nameS_len {l : List UInt8} (h : nameS l = true) : l.length ≤ 24 := by
  unfold nameS at h
  simp only [Bool.and_eq_true, decide_eq_true_eq] at h
  omega
set_option maxRecDepth 100000 in
set_option maxHeartbeats 6400000 in
theorem checkColumns_any (vc : Value) (cs : List Cl) (m : Int) (w : World) (L : Nat) (hm : w.cell? ⟨0, 0, none⟩ = some (.int .i64 m)) (hc : RdK w L w.heap.size vc cs) :
    Calls Try.prog 33 #[vc] w fun e w' => e = .returned (.int .i64 (colE cs)) ∧ Below w.heap.size w w' := by
  have HM := Lib.hid hm
  have hm0 := World.block_lt_of_cell? w _ hm
  obtain ⟨A, c, rfl, hl1, hc1⟩ := hc
  have HC := Lib.hid hc1
  have HB1 := Lib.hid (bel_mark w (.map #[] 0))
  have HS1 := Lib.hid (MapS.new w)
  clear hc1 hm
  by_cases hz : cs.length = 0
  · have hzi : ((cs.length : Int) == 0) = true := by rw [beq_iff_eq]; omega
    have HF := Lib.hid (show colE cs = 13 from if_pos (.inl hz))
    go_enter Try.func33, Try.ntmps33
    go_wp2
    go_ret
    exact ⟨by rw [HF.out]; rfl, Below.refl _ _⟩
  have hzi : ((cs.length : Int) == 0) = false := by rw [beq_eq_false_iff_ne]; omega
  by_cases hx : 12 < cs.length
  · have hxi : (12 : Int) < cs.length := by omega
    have HF := Lib.hid (show colE cs = 13 from if_pos (.inr hx))
    go_enter Try.func33, Try.ntmps33
    go_wp2
    go_ret
    exact ⟨by rw [HF.out]; rfl, Below.refl _ _⟩
  have hxi : ¬ (12 : Int) < cs.length := by omega
  have HE := Lib.hid (show colE cs = colL ((cs.take 0).map nmC) (cs.drop 0) from if_neg (fun h => h.elim hz hx))
  clear hz hx
  have hmk : (Instr.makeMap 81 none).run Try.prog w = .ok (.map (some w.heap.size)) (w.alloc (.map #[] 0)) := rfl
  go_enter Try.func33, Try.ntmps33
  go_wp2_with fail
  go_loopw [17] (fun i wr => ∃ k : Nat, k ≤ cs.length ∧ i = .int .i64 k ∧ Hid (colE cs = colL ((cs.take k).map nmC) (cs.drop k)) ∧ Hid (MapS wr w.heap.size ((cs.take k).map nmC)) ∧ Below w.heap.size w wr) (fun i _ => cs.length - (intOf i).toNat)
  case atStart => exact ⟨0, Nat.zero_le _, rfl, HE, HS1, HB1.out⟩
  case round =>
    obtain ⟨k, hk, rfl, HR, HS, hbr⟩ := hrel
    have hbz := hbr.size
    by_cases hlt : k < cs.length
    · have hki : (k : Int) < cs.length := by omega
      obtain ⟨ad, rfl, _, hab, a0, a1, a2⟩ := HC.out k _ (List.getElem?_eq_getElem hlt)
      have hcd := colL_drop (List.getElem?_eq_getElem hlt)
      rw [← HR.out] at hcd
      have htk : (cs.take (k + 1)).map nmC = (cs.take k).map nmC ++ [nmC cs[k]] := by rw [List.take_add_one, List.getElem?_eq_getElem hlt, List.map_append]; rfl
      generalize cs[k] = q at *
      obtain ⟨qn, qk, qb⟩ := q
      dsimp only at a0 a1 a2
      replace hcd : colE cs = if nameS qn.data.toList = false then 1 else if qk < 1 ∨ 3 < qk then 7 else if qn.data.toList ∈ (cs.take k).map nmC then 10 else colL ((cs.take (k + 1)).map nmC) (cs.drop (k + 1)) := hcd
      replace htk : (cs.take (k + 1)).map nmC = (cs.take k).map nmC ++ [qn.data.toList] := htk
      have e0 := (hbr.cell (p := ad.add (k * 3)) (by rw [add_block]; exact hab)).trans a0
      have e1 := (hbr.cell (p := ⟨(ad.add (k * 3)).block, (ad.add (k * 3)).off + 1, none⟩) (by show (ad.add (k * 3)).block < _; rw [add_block]; exact hab)).trans a1
      have e2 := (hbr.cell (p := ⟨(ad.add (k * 3)).block, (ad.add (k * 3)).off + 2, none⟩) (by show (ad.add (k * 3)).block < _; rw [add_block]; exact hab)).trans a2
      have o1 := bel_mark wr (.cells #[.string qn, .int .i64 qk, .bool qb] 48)
      have ow1 := Own.new wr 48 #[.string qn, .int .i64 qk, .bool qb]
      have d0 := ow1.cell 0
      have HB2 := Lib.hid (hbr.trans (o1.mono hbz))
      have HS2 := Lib.hid (HS.out.below o1 HS.out.lt)
      have HN := Lib.hid (pName_any qn m (wr.alloc (.cells #[.string qn, .int .i64 qk, .bool qb] 48)) ((HB2.out.cell (p := ⟨0, 0, none⟩) hm0).trans HM.out))
      have OW1 := Lib.hid ow1
      have HCD := Lib.hid hcd
      have HTK := Lib.hid htk
      have hz0 := HB2.out.size
      clear a0 a1 a2 o1 ow1 hcd htk hmk
      have step : ∀ w2 : World, Below (wr.alloc (.cells #[.string qn, .int .i64 qk, .bool qb] 48)).heap.size (wr.alloc (.cells #[.string qn, .int .i64 qk, .bool qb] 48)) w2 → w2.cell? ⟨wr.heap.size, 0, none⟩ = some (.string qn) ∧ w2.cell? ⟨wr.heap.size, 1, none⟩ = some (.int .i64 qk) ∧ MapS w2 w.heap.size ((cs.take k).map nmC) ∧ Below w.heap.size w w2 := fun w2 hb =>
        ⟨(OW1.out.below hb OW1.out.lt).cell 0, (OW1.out.below hb OW1.out.lt).cell 1, HS2.out.below hb HS2.out.lt, HB2.out.trans (hb.mono hz0)⟩
      have STEP := Lib.hid step
      clear step
      cases hn : nameS qn.data.toList
      · rw [hn] at HN
        have HF := Lib.hid (HCD.out.trans (if_pos hn))
        clear hn
        go_wp2_with fail
        with_reducible refine HN.out.mono ?_
        rintro e w2 ⟨rfl, hb⟩
        go_wp2
        go_ret
        exact ⟨by rw [HF.out]; rfl, (STEP.out _ hb).2.2.2⟩
      rw [hn] at HN
      have hsz : qn.size ≤ maxLen := by
        have := nameS_len hn
        rw [size_list] at this
        unfold maxLen
        omega
      have HCD := Lib.hid (HCD.out.trans (if_neg (fun h => by rw [hn] at h; cases h)))
      clear hn
      by_cases hk1 : qk < 1
      · have HF := Lib.hid (HCD.out.trans (if_pos (.inl hk1)))
        go_wp2_with fail
        with_reducible refine HN.out.mono ?_
        rintro e w2 ⟨rfl, hb⟩
        obtain ⟨g0, g1, g2, g3⟩ := STEP.out _ hb
        have G3 := Lib.hid g3
        clear g2 g3 hb
        go_wp2
        go_ret
        exact ⟨by rw [HF.out]; rfl, G3.out⟩
      by_cases hk3 : 3 < qk
      · have HF := Lib.hid (HCD.out.trans (if_pos (.inr hk3)))
        go_wp2_with fail
        with_reducible refine HN.out.mono ?_
        rintro e w2 ⟨rfl, hb⟩
        obtain ⟨g0, g1, g2, g3⟩ := STEP.out _ hb
        have G3 := Lib.hid g3
        clear g2 g3 hb
        go_wp2
        go_ret
        exact ⟨by rw [HF.out]; rfl, G3.out⟩
      have HCD := Lib.hid (HCD.out.trans (if_neg (fun h => h.elim hk1 hk3)))
      by_cases hmem : qn.data.toList ∈ (cs.take k).map nmC
      · have HF := Lib.hid (HCD.out.trans (if_pos hmem))
        go_wp2_with fail
        with_reducible refine HN.out.mono ?_
        rintro e w2 ⟨rfl, hb⟩
        obtain ⟨g0, g1, g2, g3⟩ := STEP.out _ hb
        have G3 := Lib.hid g3
        have hlk := g2.look qn hsz
        rw [decide_eq_true hmem] at hlk
        clear g2 g3 hb hmem
        go_wp2
        go_ret
        exact ⟨by rw [HF.out]; rfl, G3.out⟩
      · have HF := Lib.hid (HCD.out.trans (if_neg hmem))
        have HMEM := Lib.hid hmem
        clear hmem
        go_wp2_with fail
        with_reducible refine HN.out.mono ?_
        rintro e w2 ⟨rfl, hb⟩
        obtain ⟨g0, g1, g2, g3⟩ := STEP.out _ hb
        have hlk := g2.look qn hsz
        rw [decide_eq_false HMEM.out] at hlk
        obtain ⟨w3, hpt, hs3, hg3, hz3⟩ := g2.put qn hsz HMEM.out
        rw [← HTK.out] at hs3
        have HS3 := Lib.hid hs3
        have G4 := Lib.hid (g3.grown hg3 g3.size (fun k hk => by injection hk with hk; omega))
        clear g2 g3 hb hs3 hg3 hz3
        go_wp2
        go_roundw
        case rel => exact ⟨k + 1, by omega, by go_num, HF, HS3, G4.out⟩
        case measure => simp [intOf]; omega
    · have hki : ¬ (k : Int) < cs.length := by omega
      have HF := Lib.hid (show colE cs = 0 by rw [HR.out, List.drop_eq_nil_of_le (show cs.length ≤ k by omega)]; rfl)
      go_wp2
      go_ret
      exact ⟨by rw [HF.out]; rfl, hbr⟩
end Go.Proofs.Ytceohfjmjdnelaa
/-
  Lists of numbers that lie in memory; schema.checkKey and what follows it. Conditions: none.
-/
namespace Go.Proofs.Ytceohfjmjdnelaa
set_option maxRecDepth 100000
open Go.RowKit

def keyT (cs : List Cl) : Int → List Int → Int
  | _, [] => 0
  | y, i :: ks => if i ≤ y ∨ (cs.length : Int) ≤ i then 25 else if ((cs[i.toNat]?).map (fun c => c.2.2)).getD false = true then 12 else keyT cs i ks
def keyE (cs : List Cl) (ks : List Int) : Int := if ks.length = 0 then 25 else keyT cs (-1) ks
theorem keyT_drop (cs : List Cl) (y : Int) {ks : List Int} {k : Nat} {i : Int} (h : ks[k]? = some i) : keyT cs y (ks.drop k) = if i ≤ y ∨ (cs.length : Int) ≤ i then 25 else if ((cs[i.toNat]?).map (fun c => c.2.2)).getD false = true then 12 else keyT cs i (ks.drop (k + 1)) := by
  obtain ⟨h1, rfl⟩ := List.getElem?_eq_some_iff.1 h
  rw [List.drop_eq_getElem_cons h1]
  rfl
set_option maxRecDepth 100000 in
set_option maxHeartbeats 6400000 in
theorem checkKey_any (nm vc vk vf vx : Value) (cs : List Cl) (ks : List Int) (w : World) (L L2 : Nat) (hc : RdK w L w.heap.size vc cs) (hk : RdI w L2 w.heap.size vk ks) :
    Calls Try.prog 34 #[.agg #[nm, vc, vk, vf, vx]] w fun e w' => e = .returned (.int .i64 (keyE cs ks)) ∧ Below w.heap.size w w' := by
  obtain ⟨A, c, rfl, hl1, hc1⟩ := hc
  obtain ⟨A2, c2, rfl, hl2, hc2⟩ := hk
  have HC := Lib.hid hc1
  have HC2 := Lib.hid hc2
  have HB1 := Lib.hid (bel_mark w (.cells #[nm, .slice A cs.length c, .slice A2 ks.length c2, vf, vx] 27))
  have HO1 := Lib.hid (Own.new w 27 #[nm, .slice A cs.length c, .slice A2 ks.length c2, vf, vx])
  have d2 := HO1.out.cell 2
  clear hc1 hc2
  by_cases hz : ks.length = 0
  · have hzi : ((ks.length : Int) == 0) = true := by rw [beq_iff_eq]; omega
    have HF := Lib.hid (show keyE cs ks = 25 from if_pos hz)
    clear hz
    go_enter Try.func34, Try.ntmps34
    go_wp2
    go_ret
    exact ⟨by rw [HF.out]; rfl, HB1.out⟩
  have hzi : ((ks.length : Int) == 0) = false := by rw [beq_eq_false_iff_ne]; omega
  have HE := Lib.hid (show keyE cs ks = keyT cs (-1) (ks.drop 0) from if_neg hz)
  clear hz
  go_enter Try.func34, Try.ntmps34
  go_wp2_with fail
  go_loopw [3, 13] (fun v i wr => ∃ (k : Nat) (y : Int), k ≤ ks.length ∧ i = .int .i64 k ∧ v = .int .i64 y ∧ -1 ≤ y ∧ Hid (keyE cs ks = keyT cs y (ks.drop k)) ∧ Hid (Own wr w.heap.size 27 #[nm, .slice A cs.length c, .slice A2 ks.length c2, vf, vx]) ∧ Below w.heap.size w wr) (fun _ i _ => ks.length - (intOf i).toNat)
  case atStart => exact ⟨0, -1, Nat.zero_le _, rfl, rfl, by omega, HE, HO1, HB1.out⟩
  case round =>
    obtain ⟨k, y, hk, rfl, rfl, hy, HR, HO, hbr⟩ := hrel
    have hbz := hbr.size
    clear d2
    by_cases hlt : k < ks.length
    · have hki : (k : Int) < ks.length := by omega
      obtain ⟨ad2, rfl, _, hab2, b0⟩ := HC2.out k _ (List.getElem?_eq_getElem hlt)
      have hcd := keyT_drop cs y (List.getElem?_eq_getElem hlt)
      rw [← HR.out] at hcd
      generalize ks[k] = i at *
      have f0 := (hbr.cell (p := ad2.add k) (by rw [add_block]; exact hab2)).trans b0
      have d1 := HO.out.cell 1
      have HCD := Lib.hid hcd
      clear b0 hcd
      by_cases hiy : i ≤ y
      · have HF := Lib.hid (HCD.out.trans (if_pos (.inl hiy)))
        go_wp2
        go_ret
        exact ⟨by rw [HF.out]; rfl, hbr⟩
      by_cases hin : (cs.length : Int) ≤ i
      · have HF := Lib.hid (HCD.out.trans (if_pos (.inr hin)))
        go_wp2
        go_ret
        exact ⟨by rw [HF.out]; rfl, hbr⟩
      have HCD := Lib.hid (HCD.out.trans (if_neg (fun h => h.elim hiy hin)))
      obtain ⟨j, rfl⟩ : ∃ j : Nat, i = j := ⟨i.toNat, by omega⟩
      have hjl : j < cs.length := by omega
      have hji : (j : Int) < cs.length := by omega
      obtain ⟨ad, rfl, _, hab, a0, a1, a2⟩ := HC.out j _ (List.getElem?_eq_getElem hjl)
      have e2 := (hbr.cell (p := ⟨(ad.add (j * 3)).block, (ad.add (j * 3)).off + 2, none⟩) (by show (ad.add (j * 3)).block < _; rw [add_block]; exact hab)).trans a2
      rw [Int.toNat_natCast, List.getElem?_eq_getElem hjl, Option.map_some, Option.getD_some] at HCD
      generalize cs[j] = q at *
      obtain ⟨qn, qk, qb⟩ := q
      dsimp only at e2 HCD
      clear a0 a1 a2
      cases qb
      · have HF := Lib.hid (HCD.out.trans (if_neg (by decide)))
        go_wp2
        go_roundw
        case rel => exact ⟨k + 1, j, by omega, by go_num, rfl, by omega, HF, HO, hbr⟩
        case measure => simp [intOf]; omega
      · have HF := Lib.hid (HCD.out.trans (if_pos rfl))
        go_wp2
        go_ret
        exact ⟨by rw [HF.out]; rfl, hbr⟩
    · have hki : ¬ (k : Int) < ks.length := by omega
      have HF := Lib.hid (show keyE cs ks = 0 by rw [HR.out, List.drop_eq_nil_of_le (show ks.length ≤ k by omega)]; rfl)
      go_wp2
      go_ret
      exact ⟨by rw [HF.out]; rfl, hbr⟩
set_option maxRecDepth 100000 in
set_option maxHeartbeats 1600000 in
/-- Without foreign keys. -/
theorem checkForeigns_none (nm vc vk vx : Value) (A : Option Addr) (c : Nat) (w : World) :
    Calls Try.prog 35 #[.agg #[nm, vc, vk, .slice A 0 c, vx]] w fun e w' => e = .returned (.int .i64 0) ∧ Below w.heap.size w w' := by
  have HB1 := Lib.hid (bel_mark w (.cells #[nm, vc, vk, .slice A 0 c, vx] 27))
  have d3 := (Own.new w 27 #[nm, vc, vk, .slice A 0 c, vx]).cell 3
  go_enter Try.func35, Try.ntmps35
  go_wp2
  go_loopw [12] (fun i wr => i = .int .i64 0 ∧ Below w.heap.size w wr) (fun i _ => 0)
  case atStart => exact ⟨rfl, HB1.out⟩
  case round =>
    obtain ⟨rfl, hbr⟩ := hrel
    go_wp2
    go_ret
    exact ⟨rfl, hbr⟩
theorem infoI13 : (Try.prog.info? 3).map (fun i => (i.zero, i.size, i.bytes)) = some (some (.int .i64 0), 1, 8) := by kernel_rfl
/-- The cells of n numbers of which those of zs are set. -/
def rowZ (zs : List Int) (n : Nat) : Array Value := (zs.map (Value.int .i64) ++ List.replicate (n - zs.length) (Value.int .i64 0)).toArray
theorem rowZ_next (zs : List Int) (n : Nat) (h : zs.length < n) : (rowZ zs n)[zs.length]? = some (Value.int .i64 0) := by
  unfold rowZ
  simp only [List.getElem?_toArray]
  rw [List.getElem?_append_right (by simp), List.length_map, Nat.sub_self, List.getElem?_replicate, if_pos (by omega)]
theorem rowZ_set (zs : List Int) (n : Nat) (z : Int) (h : zs.length < n) : (rowZ zs n).setIfInBounds zs.length (.int .i64 z) = rowZ (zs ++ [z]) n := by
  unfold rowZ
  rw [List.setIfInBounds_toArray]
  congr 1
  rw [List.set_append_right _ _ (by simp), List.length_map, Nat.sub_self, show n - zs.length = (n - (zs ++ [z]).length) + 1 by rw [List.length_append]; simp; omega]
  simp [List.replicate_succ]
theorem made_rowZ (W : World) (n : Nat) (hn : n ≤ 1099511627776) :
    (Instr.makeSlice 23 (.int .i64 (n : Nat)) (.int .i64 (n : Nat))).run Try.prog W = .ok (.slice (some ⟨W.heap.size, 0, none⟩) n n) (W.alloc (.cells (rowZ [] n) 3)) := by
  obtain ⟨i0, hi, hz0, hz1, hz2⟩ := info_partsB infoI13
  have h := run_make (P := Try.prog) (w := W) 23 3 i0 (.int .i64 0) Try.underlying23 hi hz0 .i64 .i64 (n : Int) (n : Int) (by omega) (Int.le_refl _) (by rw [hz2]; omega) (by omega)
  rw [h, Int.toNat_natCast, hz1]
  have hr : madeCells (Value.int .i64 0).cells (n * 1) = rowZ [] n := by
    unfold rowZ
    rw [Nat.mul_one]
    unfold madeCells
    apply Array.ext
    · simp [Value.cells]
    · intro i h1 h2; simp [Value.cells, Nat.mod_one]
  rw [hr]
theorem addZ13 (g j : Nat) : (⟨g, 0, none⟩ : Addr).add j = ⟨g, j, none⟩ := by
  unfold Addr.add
  split <;> simp_all
/-- A list of numbers of the call's own is returned. -/
def RetZ (w : World) (zs : List Int) (e : Ending) (w' : World) : Prop := ∃ u, e = .returned u ∧ RdI w' w.heap.size w'.heap.size u zs ∧ Below w.heap.size w w'
theorem rdI_row {w : World} {g L : Nat} {zs : List Int} (h : Own w g 3 (rowZ zs zs.length)) (hg : L ≤ g) (hl : zs.length ≤ 9223372036854775807) : RdI w L w.heap.size (.slice (some ⟨g, 0, none⟩) zs.length zs.length) zs := by
  refine ⟨_, _, rfl, hl, fun k z hk => ⟨⟨g, 0, none⟩, rfl, hg, h.lt, ?_⟩⟩
  rw [addZ13, h.cell k]
  unfold rowZ
  simp [hk]
def kdC (c : Cl) : Int := c.2.1
set_option maxRecDepth 100000 in
set_option maxHeartbeats 6400000 in
theorem pKinds_any (nm vc vk vf vx : Value) (cs : List Cl) (w : World) (L : Nat) (hc : RdK w L w.heap.size vc cs) (hlen : cs.length ≤ 1099511627776) :
    Calls Try.prog 15 #[.agg #[nm, vc, vk, vf, vx]] w (RetZ w (cs.map kdC)) := by
  obtain ⟨A, c, rfl, hl1, hc1⟩ := hc
  have HC := Lib.hid hc1
  have b1 := bel_mark w (.cells #[nm, .slice A cs.length c, vk, vf, vx] 27)
  have HO1 := Lib.hid ((Own.new w 27 #[nm, .slice A cs.length c, vk, vf, vx]))
  have d1 := HO1.out.cell 1
  have hmk := made_rowZ (w.alloc (.cells #[nm, .slice A cs.length c, vk, vf, vx] 27)) cs.length hlen
  rw [World.size_alloc] at hmk
  have d1b := (HO1.out.alloc (.cells (rowZ [] cs.length) 3)).cell 1
  have HO2 := Lib.hid (show Own ((w.alloc (.cells #[nm, .slice A cs.length c, vk, vf, vx] 27)).alloc (.cells (rowZ [] cs.length) 3)) (w.heap.size + 1) 3 (rowZ [] cs.length) from own_two2 _)
  have HB2 := Lib.hid (b1.trans ((bel_mark _ (.cells (rowZ [] cs.length) 3)).mono b1.size))
  clear hc1 b1
  go_enter Try.func15, Try.ntmps15
  go_wp2_with fail
  clear hmk
  go_loopw [13] (fun i wr => ∃ k : Nat, k ≤ cs.length ∧ i = .int .i64 k ∧ Hid (Own wr (w.heap.size + 1) 3 (rowZ ((cs.take k).map kdC) cs.length)) ∧ Below w.heap.size w wr) (fun i _ => cs.length - (intOf i).toNat)
  case atStart => exact ⟨0, Nat.zero_le _, rfl, HO2, HB2.out⟩
  case round =>
    obtain ⟨k, hk, rfl, HO, hbr⟩ := hrel
    have hbz := hbr.size
    clear d1 d1b
    by_cases hlt : k < cs.length
    · have hki : (k : Int) < cs.length := by omega
      obtain ⟨ad, rfl, _, hab, a0, a1, a2⟩ := HC.out k _ (List.getElem?_eq_getElem hlt)
      have htk : (cs.take (k + 1)).map kdC = (cs.take k).map kdC ++ [kdC cs[k]] := by rw [List.take_add_one, List.getElem?_eq_getElem hlt, List.map_append]; rfl
      generalize cs[k] = q at *
      obtain ⟨qn, qk, qb⟩ := q
      dsimp only at a0 a1 a2
      replace htk : (cs.take (k + 1)).map kdC = (cs.take k).map kdC ++ [qk] := htk
      have e0 := (hbr.cell (p := ad.add (k * 3)) (by rw [add_block]; exact hab)).trans a0
      have e1 := (hbr.cell (p := ⟨(ad.add (k * 3)).block, (ad.add (k * 3)).off + 1, none⟩) (by show (ad.add (k * 3)).block < _; rw [add_block]; exact hab)).trans a1
      have e2 := (hbr.cell (p := ⟨(ad.add (k * 3)).block, (ad.add (k * 3)).off + 2, none⟩) (by show (ad.add (k * 3)).block < _; rw [add_block]; exact hab)).trans a2
      have hlz : ((cs.take k).map kdC).length = k := by rw [List.length_map, List.length_take]; omega
      have o1 := HO.out.alloc (.cells #[.string qn, .int .i64 qk, .bool qb] 48)
      have z0 := rowZ_next ((cs.take k).map kdC) cs.length (by rw [hlz]; exact hlt)
      rw [hlz] at z0
      have f0 := (o1.cell k).trans z0
      have f1 := o1.free k
      have o2 := o1.store k (.int .i64 qk)
      have z1 := rowZ_set ((cs.take k).map kdC) cs.length qk (by rw [hlz]; exact hlt)
      rw [hlz] at z1
      rw [z1, ← htk] at o2
      have HO3 := Lib.hid o2
      have b3 := hbr.trans ((bel_mark wr (.cells #[.string qn, .int .i64 qk, .bool qb] 48)).mono hbz)
      have HB3 := Lib.hid (b3.setCell (p := ⟨w.heap.size + 1, k, none⟩) (Nat.le_succ _) (.int .i64 qk))
      have g1 := (Own.new wr 48 #[.string qn, .int .i64 qk, .bool qb]).cell 1
      clear a0 a1 a2 o1 o2 z0 z1 b3 htk hlz
      go_wp2
      go_roundw
      case rel => exact ⟨k + 1, by omega, by go_num, HO3, HB3.out⟩
      case measure => simp [intOf]; omega
    · have hki : ¬ (k : Int) < cs.length := by omega
      have HF := Lib.hid (show RdI wr w.heap.size wr.heap.size (.slice (some ⟨w.heap.size + 1, 0, none⟩) cs.length cs.length) (cs.map kdC) by
        have h := HO.out
        rw [List.take_of_length_le (by omega)] at h
        rw [show cs.length = (cs.map kdC).length from (List.length_map _).symm] at h ⊢
        exact rdI_row h (by omega) (by rw [List.length_map]; omega))
      go_wp2
      go_ret
      exact ⟨_, rfl, HF.out, hbr⟩
end Go.Proofs.Ytceohfjmjdnelaa
/-
  schema.Check over tables without foreign keys and checks: what it answers. Conditions: the search's variable holds some number.
-/
namespace Go.Proofs.Ytceohfjmjdnelaa
set_option maxRecDepth 100000
open Go.RowKit

theorem Own.five {w : World} {g : Nat} {t : TypeId} {a b c d e : Value} (h : Own w g t #[a, b, c, d, e]) : w.cell? ⟨g, 0, none⟩ = some a ∧ w.cell? ⟨g, 1, none⟩ = some b ∧ w.cell? ⟨g, 2, none⟩ = some c ∧ w.cell? ⟨g, 3, none⟩ = some d ∧ w.cell? ⟨g, 4, none⟩ = some e :=
  ⟨h.cell 0, h.cell 1, h.cell 2, h.cell 3, h.cell 4⟩
set_option maxRecDepth 100000 in
set_option maxHeartbeats 3200000 in
/-- Without checks. -/
theorem checkChecks_none (nm vc vk vf : Value) (A : Option Addr) (c : Nat) (cs : List Cl) (w : World) (L : Nat) (hc : RdK w L w.heap.size vc cs) (hlen : cs.length ≤ 1099511627776) :
    Calls Try.prog 36 #[.agg #[nm, vc, vk, vf, .slice A 0 c]] w fun e w' => e = .returned (.int .i64 0) ∧ Below w.heap.size w w' := by
  have b1 := bel_mark w (.cells #[nm, vc, vk, vf, .slice A 0 c] 27)
  have HO1 := Lib.hid ((Own.new w 27 #[nm, vc, vk, vf, .slice A 0 c]))
  have HK := Lib.hid (pKinds_any nm vc vk vf (.slice A 0 c) cs (w.alloc (.cells #[nm, vc, vk, vf, .slice A 0 c] 27)) L (hc.step b1 (Nat.le_refl _)) hlen)
  obtain ⟨d0, d1, d2, d3, d4⟩ := HO1.out.five
  have HB1 := Lib.hid b1
  clear b1 hc
  go_enter Try.func36, Try.ntmps36
  go_wp2_with fail
  with_reducible refine HK.out.mono ?_
  rintro e w1 ⟨u, rfl, hu, hb⟩
  have HO2 := Lib.hid (HO1.out.below hb HO1.out.lt)
  have HB2 := Lib.hid (HB1.out.trans (hb.mono HB1.out.size))
  replace d4 := HO2.out.cell 4
  clear HK hu hb d0 d1 d2 d3
  go_wp2
  go_loopw [17] (fun i wr => i = .int .i64 0 ∧ Below w.heap.size w wr) (fun i _ => 0)
  case atStart => exact ⟨rfl, HB2.out⟩
  case round =>
    obtain ⟨rfl, hbr⟩ := hrel
    go_wp2
    go_ret
    exact ⟨rfl, hbr⟩
/-- What a table without foreign keys and checks is answered. -/
def chkS (nm : List UInt8) (cs : List Cl) (ks : List Int) : Int := if nameS nm = false then 1 else if colE cs ≠ 0 then colE cs else keyE cs ks
set_option maxRecDepth 100000 in
set_option maxHeartbeats 6400000 in
theorem check_none (nm : ByteArray) (vc vk : Value) (A A' : Option Addr) (c c' : Nat) (cs : List Cl) (ks : List Int) (m : Int) (w : World) (L L2 : Nat) (hm : w.cell? ⟨0, 0, none⟩ = some (.int .i64 m)) (hc : RdK w L w.heap.size vc cs) (hk : RdI w L2 w.heap.size vk ks) (hlen : cs.length ≤ 1099511627776) :
    Calls Try.prog 11 #[.agg #[.string nm, vc, vk, .slice A 0 c, .slice A' 0 c']] w fun e w' => e = .returned (.int .i64 (chkS nm.data.toList cs ks)) ∧ Below w.heap.size w w' := by
  have hm0 := World.block_lt_of_cell? w _ hm
  have b1 := bel_mark w (.cells #[.string nm, vc, vk, .slice A 0 c, .slice A' 0 c'] 27)
  have HO1 := Lib.hid ((Own.new w 27 #[.string nm, vc, vk, .slice A 0 c, .slice A' 0 c']))
  have HN := Lib.hid (pName_any nm m _ ((b1.cell (p := ⟨0, 0, none⟩) hm0).trans hm))
  have H1 := Lib.hid (fun W (h : Below w.heap.size w W) => checkColumns_any vc cs m W L ((h.cell (p := ⟨0, 0, none⟩) hm0).trans hm) (hc.step h (Nat.le_refl _)))
  have H2 := Lib.hid (fun W (h : Below w.heap.size w W) => checkKey_any (.string nm) vc vk (.slice A 0 c) (.slice A' 0 c') cs ks W L L2 (hc.step h (Nat.le_refl _)) (hk.step h (Nat.le_refl _)))
  have H3 := Lib.hid (fun W => checkForeigns_none (.string nm) vc vk (.slice A' 0 c') A c W)
  have H4 := Lib.hid (fun W (h : Below w.heap.size w W) => checkChecks_none (.string nm) vc vk (.slice A 0 c) A' c' cs W L (hc.step h (Nat.le_refl _)) hlen)
  obtain ⟨d0, d1, d2, d3, d4⟩ := HO1.out.five
  have HB1 := Lib.hid b1
  have HX := Lib.hid (show chkS nm.data.toList cs ks = if nameS nm.data.toList = false then 1 else if colE cs ≠ 0 then colE cs else keyE cs ks from rfl)
  generalize chkS nm.data.toList cs ks = R at *
  generalize nameS nm.data.toList = bn at *
  generalize hce : colE cs = ce at *
  generalize hke : keyE cs ks = ke at *
  clear b1 hc hk hm hce hke
  cases bn
  · have HF := Lib.hid (HX.out.trans (if_pos rfl))
    go_enter Try.func11, Try.ntmps11
    go_wp2_with fail
    with_reducible refine HN.out.mono ?_
    rintro e w1 ⟨rfl, hb⟩
    go_wp2
    go_ret
    exact ⟨by rw [HF.out]; rfl, HB1.out.trans (hb.mono HB1.out.size)⟩
  have HX := Lib.hid (HX.out.trans (if_neg (by decide)))
  go_enter Try.func11, Try.ntmps11
  go_wp2_with fail
  with_reducible refine HN.out.mono ?_
  rintro e w1 ⟨rfl, hb⟩
  have HO2 := Lib.hid (HO1.out.below hb HO1.out.lt)
  have HB2 := Lib.hid (HB1.out.trans (hb.mono HB1.out.size))
  have h1 := H1.out w1 HB2.out
  clear HN H1 hb d0 d1 d2 d3 d4
  obtain ⟨d0, d1, d2, d3, d4⟩ := HO2.out.five
  by_cases hc0 : ce = 0
  rotate_left
  · have HF := Lib.hid (HX.out.trans (if_pos hc0))
    have c0 : (ce != 0) = true := by simp [hc0]
    clear hc0
    go_wp2_with fail
    with_reducible refine h1.mono ?_
    rintro e w2 ⟨rfl, hb⟩
    go_wp2
    go_ret
    exact ⟨by rw [HF.out]; rfl, HB2.out.trans (hb.mono HB2.out.size)⟩
  have HX := Lib.hid (HX.out.trans (if_neg (fun h => h hc0)))
  have c0 : (ce != 0) = false := by simp [hc0]
  clear hc0
  go_wp2_with fail
  with_reducible refine h1.mono ?_
  rintro e w2 ⟨rfl, hb⟩
  have HO3 := Lib.hid (HO2.out.below hb HO2.out.lt)
  have HB3 := Lib.hid (HB2.out.trans (hb.mono HB2.out.size))
  have h2 := H2.out w2 HB3.out
  clear h1 H2 hb d0 d1 d2 d3 d4
  obtain ⟨d0, d1, d2, d3, d4⟩ := HO3.out.five
  by_cases hk0 : ke = 0
  rotate_left
  · have k0 : (ke != 0) = true := by simp [hk0]
    clear hk0
    go_wp2_with fail
    with_reducible refine h2.mono ?_
    rintro e w3 ⟨rfl, hb⟩
    go_wp2
    go_ret
    exact ⟨by rw [HX.out]; rfl, HB3.out.trans (hb.mono HB3.out.size)⟩
  have k0 : (ke != 0) = false := by simp [hk0]
  have HX := Lib.hid (HX.out.trans hk0)
  clear hk0
  go_wp2_with fail
  with_reducible refine h2.mono ?_
  rintro e w3 ⟨rfl, hb⟩
  have HO4 := Lib.hid (HO3.out.below hb HO3.out.lt)
  have HB4 := Lib.hid (HB3.out.trans (hb.mono HB3.out.size))
  have h3 := H3.out w3
  clear h2 H3 hb d0 d1 d2 d3 d4
  obtain ⟨d0, d1, d2, d3, d4⟩ := HO4.out.five
  go_wp2_with fail
  with_reducible refine h3.mono ?_
  rintro e w4 ⟨rfl, hb⟩
  have HO5 := Lib.hid (HO4.out.below hb HO4.out.lt)
  have HB5 := Lib.hid (HB4.out.trans (hb.mono HB4.out.size))
  have h4 := H4.out w4 HB5.out
  clear h3 H4 hb d0 d1 d2 d3 d4
  obtain ⟨d0, d1, d2, d3, d4⟩ := HO5.out.five
  go_wp2_with fail
  with_reducible refine h4.mono ?_
  rintro e w5 ⟨rfl, hb⟩
  go_wp2
  go_ret
  exact ⟨by rw [HX.out]; rfl, HB5.out.trans (hb.mono HB5.out.size)⟩
end Go.Proofs.Ytceohfjmjdnelaa
/-
  The table of the examples. Conditions: none.
-/
namespace Go.Proofs.Ytceohfjmjdnelaa
set_option maxRecDepth 100000
open Go.RowKit

def smC : List Cl := [(⟨#[97]⟩, 1, false), (⟨#[98]⟩, 2, true)]
def smV (h g : Nat) : Value := .agg #[.string ⟨#[116]⟩, .slice (some ⟨h, 0, none⟩) 2 2, .slice (some ⟨g, 0, none⟩) 1 1, .slice none 0 0, .slice none 0 0]
theorem load_tab {w : World} {g : Nat} {a b c d e : Value} (h : Own w g 27 #[a, b, c, d, e]) : (loadVar 27 ⟨g, 0, none⟩).run Try.prog w = .ok (.agg #[a, b, c, d, e]) w :=
  run_loadVar_row w g 27 27 #[a, b, c, d, e] (0, 0) _ h Try.underlying27 rfl (by kernel_rfl)
set_option maxRecDepth 100000 in
set_option maxHeartbeats 3200000 in
theorem sample_any (w : World) : Calls Try.prog 40 #[] w fun e w' => ∃ h g, e = .returned (smV h g) ∧ w.heap.size ≤ h ∧ h < g ∧ Own w' h 48 #[.string ⟨#[97]⟩, .int .i64 1, .bool false, .string ⟨#[98]⟩, .int .i64 2, .bool true] ∧ Own w' g 3 #[.int .i64 0] ∧ Below w.heap.size w w' := by
  go_enter Try.func40, Try.ntmps40
  go_wp2_with fail
  (try simp only [Exit.inBlock, Exit.then])
  refine bodyPost_ret_by (results_cell_row1 (by rfl) _ _ w.heap.size _ (by rfl) (load_tab (((Own.new w _ _).alloc _).alloc _))) ?_ ?_
  · rfl
  refine ⟨w.heap.size + 1, w.heap.size + 1 + 1, rfl, Nat.le_succ _, Nat.lt_succ_self _, (own_two2 _).alloc _, ?_, ?_⟩
  · have h := own_two2 (w := w.alloc (.cells #[.string ⟨#[116]⟩, .slice (some ⟨w.heap.size + 1, 0, none⟩) 2 2, .slice (some ⟨w.heap.size + 1 + 1, 0, none⟩) 1 1, .slice none 0 0, .slice none 0 0] 27)) (t := 3) (cs := #[.int .i64 0]) (.cells #[.string ⟨#[97]⟩, .int .i64 1, .bool false, .string ⟨#[98]⟩, .int .i64 2, .bool true] 48)
    rw [World.size_alloc] at h
    exact h
  · have b1 := bel_mark w (.cells #[.string ⟨#[116]⟩, .slice (some ⟨w.heap.size + 1, 0, none⟩) 2 2, .slice (some ⟨w.heap.size + 1 + 1, 0, none⟩) 1 1, .slice none 0 0, .slice none 0 0] 27)
    have b2 := b1.trans ((bel_mark _ (.cells #[.string ⟨#[97]⟩, .int .i64 1, .bool false, .string ⟨#[98]⟩, .int .i64 2, .bool true] 48)).mono b1.size)
    exact b2.trans ((bel_mark _ _).mono b2.size)
end Go.Proofs.Ytceohfjmjdnelaa
/-
  The examples of the chapter hold. Conditions: the search's variable holds some number.
-/
namespace Go.Proofs.Ytceohfjmjdnelaa
set_option maxRecDepth 100000
open Go.RowKit

theorem rdK_sm {w : World} {h : Nat} (ho : Own w h 48 #[.string ⟨#[97]⟩, .int .i64 1, .bool false, .string ⟨#[98]⟩, .int .i64 2, .bool true]) : RdK w 0 w.heap.size (.slice (some ⟨h, 0, none⟩) 2 2) smC := by
  refine ⟨_, _, rfl, by simp [smC], fun k q hk => ⟨_, rfl, Nat.zero_le _, ho.lt, ?_⟩⟩
  rw [addZ13]
  have hk2 : k = 0 ∨ k = 1 := by have := (List.getElem?_eq_some_iff.1 hk).1; simp [smC] at this; omega
  rcases hk2 with rfl | rfl
  · obtain rfl := Option.some.inj hk
    exact ⟨ho.cell 0, ho.cell 1, ho.cell 2⟩
  · obtain rfl := Option.some.inj hk
    exact ⟨ho.cell 3, ho.cell 4, ho.cell 5⟩
theorem rdV_two {w : World} {g : Nat} {p q : Vl} (h : Own w g 45 #[.int .i64 p.1, .int .i64 p.2.1, .string p.2.2, .int .i64 q.1, .int .i64 q.2.1, .string q.2.2]) : RdV w 0 w.heap.size (.slice (some ⟨g, 0, none⟩) 2 2) [p, q] := by
  refine ⟨_, _, rfl, by simp, fun k r hk => ⟨_, rfl, Nat.zero_le _, h.lt, ?_⟩⟩
  rw [addZ13]
  have hk2 : k = 0 ∨ k = 1 := by have := (List.getElem?_eq_some_iff.1 hk).1; simp at this; omega
  rcases hk2 with rfl | rfl
  · obtain rfl := Option.some.inj hk
    exact ⟨h.cell 0, h.cell 1, h.cell 2⟩
  · obtain rfl := Option.some.inj hk
    exact ⟨h.cell 3, h.cell 4, h.cell 5⟩
theorem rdI_one {w : World} {g : Nat} {z : Int} (h : Own w g 3 #[.int .i64 z]) : RdI w 0 w.heap.size (.slice (some ⟨g, 0, none⟩) 1 1) [z] := by
  refine ⟨_, _, rfl, by simp, fun k r hk => ⟨_, rfl, Nat.zero_le _, h.lt, ?_⟩⟩
  rw [addZ13]
  have hk2 : k = 0 := by have := (List.getElem?_eq_some_iff.1 hk).1; simp at this; omega
  subst hk2
  obtain rfl := Option.some.inj hk
  exact h.cell 0
theorem ex_n1 : nameS [120, 95, 49] = true := by decide +kernel
theorem ex_n2 : nameS [115, 101, 108, 101, 99, 116] = false := by decide +kernel
theorem ex_n3 : nameS [83, 101, 108, 101, 99, 116] = false := by decide +kernel
theorem ex_c1 : chkS [116] smC [0] = 0 := by decide +kernel
theorem ex_c2 : chkS [116] smC [1] = 12 := by decide +kernel
theorem ex_a1 : accS smC [(1, 1, ⟨#[]⟩), (0, 0, ⟨#[]⟩)] = 0 := by decide +kernel
theorem ex_a2 : accS smC [(0, 0, ⟨#[]⟩), (2, 0, ⟨#[120]⟩)] = 12 := by decide +kernel
theorem ex_a3 : accS smC [(2, 0, ⟨#[120]⟩), (2, 0, ⟨#[120]⟩)] = 7 := by decide +kernel
theorem ex_v1 : Va.nrm 1 1 ⟨#[]⟩ = .agg #[.int .i64 1, .int .i64 1, .string ⟨#[]⟩] := by kernel_rfl
theorem ex_v2 : Va.nrm 2 0 ⟨#[120]⟩ = .agg #[.int .i64 2, .int .i64 0, .string ⟨#[120]⟩] := by kernel_rfl
set_option maxRecDepth 100000 in
set_option maxHeartbeats 25600000 in
theorem awake13_any (m : Int) (w : World) (hm : w.cell? ⟨0, 0, none⟩ = some (.int .i64 m)) :
    Calls Try.prog 13 #[] w fun e w' => e = .returned (.bool true) ∧ Below w.heap.size w w' := by
  have hm0 := World.block_lt_of_cell? w _ hm
  have HM := Lib.hid (fun W (h : Below w.heap.size w W) => (h.cell (p := ⟨0, 0, none⟩) hm0).trans hm)
  have HSA := Lib.hid (fun W => sample_any W)
  have HI := Lib.hid (fun W => ex_v1 ▸ Va.rInt_any 1 W)
  have HT := Lib.hid (fun W => ex_v2 ▸ Va.rText_any ⟨#[120]⟩ W)
  have HNU := Lib.hid (fun W => Va.rNull_any W)
  have s1 := sample_any w
  clear hm
  go_enter Try.func13, Try.ntmps13
  go_wp2_with fail
  with_reducible refine s1.mono ?_
  rintro e w1 ⟨h1, g1, rfl, hz1, hz2, oh, og, hb1⟩
  clear s1
  unfold smV
  have OH := Lib.hid (oh.alloc (.cells #[.string ⟨#[116]⟩, .slice (some ⟨h1, 0, none⟩) 2 2, .slice (some ⟨g1, 0, none⟩) 1 1, .slice none 0 0, .slice none 0 0] 27))
  have OG := Lib.hid (og.alloc (.cells #[.string ⟨#[116]⟩, .slice (some ⟨h1, 0, none⟩) 2 2, .slice (some ⟨g1, 0, none⟩) 1 1, .slice none 0 0, .slice none 0 0] 27))
  have OT := Lib.hid (Own.new w1 27 #[.string ⟨#[116]⟩, .slice (some ⟨h1, 0, none⟩) 2 2, .slice (some ⟨g1, 0, none⟩) 1 1, .slice none 0 0, .slice none 0 0])
  have B1 := Lib.hid (hb1.trans ((bel_mark w1 (.cells #[.string ⟨#[116]⟩, .slice (some ⟨h1, 0, none⟩) 2 2, .slice (some ⟨g1, 0, none⟩) 1 1, .slice none 0 0, .slice none 0 0] 27)).mono hb1.size))
  clear oh og hb1 hz1 hz2
  go_wp2_with fail
  with_reducible refine (HI.out _).mono ?_
  rintro e w2 ⟨rfl, hb⟩
  have OH := Lib.hid (OH.out.below hb OH.out.lt)
  have OG := Lib.hid (OG.out.below hb OG.out.lt)
  have OT := Lib.hid (OT.out.below hb OT.out.lt)
  have B1 := Lib.hid (B1.out.trans (hb.mono B1.out.size))
  clear hb
  go_wp2_with fail
  with_reducible refine (HT.out _).mono ?_
  rintro e w3 ⟨rfl, hb⟩
  have OH := Lib.hid (OH.out.below hb OH.out.lt)
  have OG := Lib.hid (OG.out.below hb OG.out.lt)
  have OT := Lib.hid (OT.out.below hb OT.out.lt)
  have B1 := Lib.hid (B1.out.trans (hb.mono B1.out.size))
  clear hb
  go_wp2_with fail
  with_reducible refine (HNU.out _).mono ?_
  rintro e w4 ⟨rfl, hb⟩
  unfold Va.vV
  have OH := Lib.hid (OH.out.below hb OH.out.lt)
  have OG := Lib.hid (OG.out.below hb OG.out.lt)
  have OT := Lib.hid (OT.out.below hb OT.out.lt)
  have B1 := Lib.hid (B1.out.trans (hb.mono B1.out.size))
  clear hb
  have OH := Lib.hid (OH.out.alloc (.cells #[.int .i64 1, .int .i64 1, .string ⟨#[]⟩] 45))
  have OG := Lib.hid (OG.out.alloc (.cells #[.int .i64 1, .int .i64 1, .string ⟨#[]⟩] 45))
  have OT := Lib.hid (OT.out.alloc (.cells #[.int .i64 1, .int .i64 1, .string ⟨#[]⟩] 45))
  have OH := Lib.hid (OH.out.alloc (.cells #[.int .i64 2, .int .i64 0, .string ⟨#[120]⟩] 45))
  have OG := Lib.hid (OG.out.alloc (.cells #[.int .i64 2, .int .i64 0, .string ⟨#[120]⟩] 45))
  have OT := Lib.hid (OT.out.alloc (.cells #[.int .i64 2, .int .i64 0, .string ⟨#[120]⟩] 45))
  have OH := Lib.hid (OH.out.alloc (.cells #[.int .i64 0, .int .i64 0, .string ⟨#[]⟩] 45))
  have OG := Lib.hid (OG.out.alloc (.cells #[.int .i64 0, .int .i64 0, .string ⟨#[]⟩] 45))
  have OT := Lib.hid (OT.out.alloc (.cells #[.int .i64 0, .int .i64 0, .string ⟨#[]⟩] 45))
  have OV1 := Lib.hid (((Own.new w4 45 #[.int .i64 1, .int .i64 1, .string ⟨#[]⟩]).alloc (.cells #[.int .i64 2, .int .i64 0, .string ⟨#[120]⟩] 45)).alloc (.cells #[.int .i64 0, .int .i64 0, .string ⟨#[]⟩] 45))
  have OV2 := Lib.hid ((own_two2 (w := w4) (t := 45) (cs := #[.int .i64 2, .int .i64 0, .string ⟨#[120]⟩]) (.cells #[.int .i64 1, .int .i64 1, .string ⟨#[]⟩] 45)).alloc (.cells #[.int .i64 0, .int .i64 0, .string ⟨#[]⟩] 45))
  have ov3 := own_two2 (w := w4.alloc (.cells #[.int .i64 1, .int .i64 1, .string ⟨#[]⟩] 45)) (t := 45) (cs := #[.int .i64 0, .int .i64 0, .string ⟨#[]⟩]) (.cells #[.int .i64 2, .int .i64 0, .string ⟨#[120]⟩] 45)
  rw [World.size_alloc] at ov3
  have OV3 := Lib.hid ov3
  have B1 := Lib.hid (B1.out.trans ((bel_mark w4 (.cells #[.int .i64 1, .int .i64 1, .string ⟨#[]⟩] 45)).mono B1.out.size))
  have B1 := Lib.hid (B1.out.trans ((bel_mark _ (.cells #[.int .i64 2, .int .i64 0, .string ⟨#[120]⟩] 45)).mono B1.out.size))
  have B1 := Lib.hid (B1.out.trans ((bel_mark _ (.cells #[.int .i64 0, .int .i64 0, .string ⟨#[]⟩] 45)).mono B1.out.size))
  clear ov3
  generalize w1.heap.size = n1 at *
  go_wp2_with fail
  with_reducible refine (HSA.out _).mono ?_
  rintro e w5 ⟨h2, g2, rfl, hz1, hz2, oh2, og2, hb⟩
  unfold smV
  have HZ0 := Lib.hid (show w.heap.size ≤ h2 from Nat.le_trans B1.out.size hz1)
  have LT := Lib.hid (show h1 < g2 ∧ g1 < g2 ∧ n1 < g2 ∧ w4.heap.size < g2 ∧ w4.heap.size + 1 < g2 ∧ w4.heap.size + 1 + 1 < g2 ∧ h2 < g2 by
    have q1 := OH.out.lt; have q2 := OG.out.lt; have q3 := OT.out.lt; have q4 := OV1.out.lt; have q5 := OV2.out.lt; have q6 := OV3.out.lt; omega)
  have OH := Lib.hid (OH.out.below hb OH.out.lt)
  have OG := Lib.hid (OG.out.below hb OG.out.lt)
  have OT := Lib.hid (OT.out.below hb OT.out.lt)
  have OV1 := Lib.hid (OV1.out.below hb OV1.out.lt)
  have OV2 := Lib.hid (OV2.out.below hb OV2.out.lt)
  have OV3 := Lib.hid (OV3.out.below hb OV3.out.lt)
  have B1 := Lib.hid (B1.out.trans (hb.mono B1.out.size))
  clear hb
  have OH := Lib.hid (OH.out.alloc (.cells #[.string ⟨#[116]⟩, .slice (some ⟨h2, 0, none⟩) 2 2, .slice (some ⟨g2, 0, none⟩) 1 1, .slice none 0 0, .slice none 0 0] 27))
  have OG := Lib.hid (OG.out.alloc (.cells #[.string ⟨#[116]⟩, .slice (some ⟨h2, 0, none⟩) 2 2, .slice (some ⟨g2, 0, none⟩) 1 1, .slice none 0 0, .slice none 0 0] 27))
  have OT := Lib.hid (OT.out.alloc (.cells #[.string ⟨#[116]⟩, .slice (some ⟨h2, 0, none⟩) 2 2, .slice (some ⟨g2, 0, none⟩) 1 1, .slice none 0 0, .slice none 0 0] 27))
  have OV1 := Lib.hid (OV1.out.alloc (.cells #[.string ⟨#[116]⟩, .slice (some ⟨h2, 0, none⟩) 2 2, .slice (some ⟨g2, 0, none⟩) 1 1, .slice none 0 0, .slice none 0 0] 27))
  have OV2 := Lib.hid (OV2.out.alloc (.cells #[.string ⟨#[116]⟩, .slice (some ⟨h2, 0, none⟩) 2 2, .slice (some ⟨g2, 0, none⟩) 1 1, .slice none 0 0, .slice none 0 0] 27))
  have OV3 := Lib.hid (OV3.out.alloc (.cells #[.string ⟨#[116]⟩, .slice (some ⟨h2, 0, none⟩) 2 2, .slice (some ⟨g2, 0, none⟩) 1 1, .slice none 0 0, .slice none 0 0] 27))
  have OH2 := Lib.hid (oh2.alloc (.cells #[.string ⟨#[116]⟩, .slice (some ⟨h2, 0, none⟩) 2 2, .slice (some ⟨g2, 0, none⟩) 1 1, .slice none 0 0, .slice none 0 0] 27))
  have OG2 := Lib.hid (og2.alloc (.cells #[.string ⟨#[116]⟩, .slice (some ⟨h2, 0, none⟩) 2 2, .slice (some ⟨g2, 0, none⟩) 1 1, .slice none 0 0, .slice none 0 0] 27))
  have OT2 := Lib.hid (Own.new w5 27 #[.string ⟨#[116]⟩, .slice (some ⟨h2, 0, none⟩) 2 2, .slice (some ⟨g2, 0, none⟩) 1 1, .slice none 0 0, .slice none 0 0])
  have B1 := Lib.hid (B1.out.trans ((bel_mark w5 (.cells #[.string ⟨#[116]⟩, .slice (some ⟨h2, 0, none⟩) 2 2, .slice (some ⟨g2, 0, none⟩) 1 1, .slice none 0 0, .slice none 0 0] 27)).mono B1.out.size))
  have LT2 := Lib.hid (og2.lt)
  have d2 := OT2.out.cell 2
  have k0 := OG2.out.cell 0
  have f0 := OG2.out.free 0
  clear oh2 og2
  have LT4 := Lib.hid (show g2 < w5.heap.size from LT2.out)
  have hwg : w.heap.size ≤ g2 := by have := HZ0.out; have := LT.out; omega
  have OH := Lib.hid (OH.out.far (p := ⟨g2, 0, none⟩) (show h1 ≠ g2 by have := LT.out; omega) (.int .i64 1))
  have OG := Lib.hid (OG.out.far (p := ⟨g2, 0, none⟩) (show g1 ≠ g2 by have := LT.out; omega) (.int .i64 1))
  have OT := Lib.hid (OT.out.far (p := ⟨g2, 0, none⟩) (show n1 ≠ g2 by have := LT.out; omega) (.int .i64 1))
  have OV1 := Lib.hid (OV1.out.far (p := ⟨g2, 0, none⟩) (show w4.heap.size ≠ g2 by have := LT.out; omega) (.int .i64 1))
  have OV2 := Lib.hid (OV2.out.far (p := ⟨g2, 0, none⟩) (show w4.heap.size + 1 ≠ g2 by have := LT.out; omega) (.int .i64 1))
  have OV3 := Lib.hid (OV3.out.far (p := ⟨g2, 0, none⟩) (show w4.heap.size + 1 + 1 ≠ g2 by have := LT.out; omega) (.int .i64 1))
  have OH2 := Lib.hid (OH2.out.far (p := ⟨g2, 0, none⟩) (show h2 ≠ g2 by have := LT.out; omega) (.int .i64 1))
  have OT2 := Lib.hid (OT2.out.far (p := ⟨g2, 0, none⟩) (show w5.heap.size ≠ g2 by have := LT4.out; omega) (.int .i64 1))
  have OG2 := Lib.hid (show Own ((w5.alloc (.cells #[.string ⟨#[116]⟩, .slice (some ⟨h2, 0, none⟩) 2 2, .slice (some ⟨g2, 0, none⟩) 1 1, .slice none 0 0, .slice none 0 0] 27)).setCell ⟨g2, 0, none⟩ (.int .i64 1)) g2 3 #[.int .i64 1] from OG2.out.store 0 (.int .i64 1))
  have B1 := Lib.hid (B1.out.setCell (p := ⟨g2, 0, none⟩) hwg (.int .i64 1))
  have c6 := pName_any ⟨#[120, 95, 49]⟩ m ((w5.alloc (.cells #[.string ⟨#[116]⟩, .slice (some ⟨h2, 0, none⟩) 2 2, .slice (some ⟨g2, 0, none⟩) 1 1, .slice none 0 0, .slice none 0 0] 27)).setCell ⟨g2, 0, none⟩ (.int .i64 1)) (HM.out _ B1.out)
  rw [show nameS (⟨#[120, 95, 49]⟩ : ByteArray).data.toList = true from ex_n1] at c6
  go_wp2_with fail
  with_reducible refine c6.mono ?_
  rintro e w6 ⟨rfl, hb⟩
  clear c6 d2 k0 f0
  have OH := Lib.hid (OH.out.below hb OH.out.lt)
  have OG := Lib.hid (OG.out.below hb OG.out.lt)
  have OT := Lib.hid (OT.out.below hb OT.out.lt)
  have OV1 := Lib.hid (OV1.out.below hb OV1.out.lt)
  have OV2 := Lib.hid (OV2.out.below hb OV2.out.lt)
  have OV3 := Lib.hid (OV3.out.below hb OV3.out.lt)
  have OH2 := Lib.hid (OH2.out.below hb OH2.out.lt)
  have OG2 := Lib.hid (OG2.out.below hb OG2.out.lt)
  have OT2 := Lib.hid (OT2.out.below hb OT2.out.lt)
  have B1 := Lib.hid (B1.out.trans (hb.mono B1.out.size))
  clear hb
  have c7 := pName_any ⟨#[115, 101, 108, 101, 99, 116]⟩ m w6 (HM.out _ B1.out)
  rw [show nameS (⟨#[115, 101, 108, 101, 99, 116]⟩ : ByteArray).data.toList = false from ex_n2] at c7
  go_wp2_with fail
  with_reducible refine c7.mono ?_
  rintro e w7 ⟨rfl, hb⟩
  clear c7 
  have OH := Lib.hid (OH.out.below hb OH.out.lt)
  have OG := Lib.hid (OG.out.below hb OG.out.lt)
  have OT := Lib.hid (OT.out.below hb OT.out.lt)
  have OV1 := Lib.hid (OV1.out.below hb OV1.out.lt)
  have OV2 := Lib.hid (OV2.out.below hb OV2.out.lt)
  have OV3 := Lib.hid (OV3.out.below hb OV3.out.lt)
  have OH2 := Lib.hid (OH2.out.below hb OH2.out.lt)
  have OG2 := Lib.hid (OG2.out.below hb OG2.out.lt)
  have OT2 := Lib.hid (OT2.out.below hb OT2.out.lt)
  have B1 := Lib.hid (B1.out.trans (hb.mono B1.out.size))
  clear hb
  have c8 := pName_any ⟨#[83, 101, 108, 101, 99, 116]⟩ m w7 (HM.out _ B1.out)
  rw [show nameS (⟨#[83, 101, 108, 101, 99, 116]⟩ : ByteArray).data.toList = false from ex_n3] at c8
  go_wp2_with fail
  with_reducible refine c8.mono ?_
  rintro e w8 ⟨rfl, hb⟩
  clear c8 
  have OH := Lib.hid (OH.out.below hb OH.out.lt)
  have OG := Lib.hid (OG.out.below hb OG.out.lt)
  have OT := Lib.hid (OT.out.below hb OT.out.lt)
  have OV1 := Lib.hid (OV1.out.below hb OV1.out.lt)
  have OV2 := Lib.hid (OV2.out.below hb OV2.out.lt)
  have OV3 := Lib.hid (OV3.out.below hb OV3.out.lt)
  have OH2 := Lib.hid (OH2.out.below hb OH2.out.lt)
  have OG2 := Lib.hid (OG2.out.below hb OG2.out.lt)
  have OT2 := Lib.hid (OT2.out.below hb OT2.out.lt)
  have B1 := Lib.hid (B1.out.trans (hb.mono B1.out.size))
  clear hb
  have c9 := check_none ⟨#[116]⟩ (.slice (some ⟨h1, 0, none⟩) 2 2) (.slice (some ⟨g1, 0, none⟩) 1 1) none none 0 0 smC [0] m w8 0 0 (HM.out _ B1.out) (rdK_sm OH.out) (rdI_one OG.out) (by decide)
  rw [show chkS (⟨#[116]⟩ : ByteArray).data.toList smC [0] = 0 from ex_c1] at c9
  obtain ⟨d0, d1, d2, d3, d4⟩ := OT.out.five
  go_wp2_with fail
  with_reducible refine c9.mono ?_
  rintro e w9 ⟨rfl, hb⟩
  clear c9 d0 d1 d2 d3 d4
  have OH := Lib.hid (OH.out.below hb OH.out.lt)
  have OG := Lib.hid (OG.out.below hb OG.out.lt)
  have OT := Lib.hid (OT.out.below hb OT.out.lt)
  have OV1 := Lib.hid (OV1.out.below hb OV1.out.lt)
  have OV2 := Lib.hid (OV2.out.below hb OV2.out.lt)
  have OV3 := Lib.hid (OV3.out.below hb OV3.out.lt)
  have OH2 := Lib.hid (OH2.out.below hb OH2.out.lt)
  have OG2 := Lib.hid (OG2.out.below hb OG2.out.lt)
  have OT2 := Lib.hid (OT2.out.below hb OT2.out.lt)
  have B1 := Lib.hid (B1.out.trans (hb.mono B1.out.size))
  clear hb
  have c10 := check_none ⟨#[116]⟩ (.slice (some ⟨h2, 0, none⟩) 2 2) (.slice (some ⟨g2, 0, none⟩) 1 1) none none 0 0 smC [1] m w9 0 0 (HM.out _ B1.out) (rdK_sm OH2.out) (rdI_one OG2.out) (by decide)
  rw [show chkS (⟨#[116]⟩ : ByteArray).data.toList smC [1] = 12 from ex_c2] at c10
  obtain ⟨d0, d1, d2, d3, d4⟩ := OT2.out.five
  go_wp2_with fail
  with_reducible refine c10.mono ?_
  rintro e w10 ⟨rfl, hb⟩
  clear c10 d0 d1 d2 d3 d4
  have OH := Lib.hid (OH.out.below hb OH.out.lt)
  have OG := Lib.hid (OG.out.below hb OG.out.lt)
  have OT := Lib.hid (OT.out.below hb OT.out.lt)
  have OV1 := Lib.hid (OV1.out.below hb OV1.out.lt)
  have OV2 := Lib.hid (OV2.out.below hb OV2.out.lt)
  have OV3 := Lib.hid (OV3.out.below hb OV3.out.lt)
  have OH2 := Lib.hid (OH2.out.below hb OH2.out.lt)
  have OG2 := Lib.hid (OG2.out.below hb OG2.out.lt)
  have OT2 := Lib.hid (OT2.out.below hb OT2.out.lt)
  have B1 := Lib.hid (B1.out.trans (hb.mono B1.out.size))
  clear hb
  obtain ⟨d0, d1, d2, d3, d4⟩ := OT.out.five
  have p0 := OV1.out.cell 0
  have p1 := OV1.out.cell 1
  have p2 := OV1.out.cell 2
  have q0 := OV3.out.cell 0
  have q1 := OV3.out.cell 1
  have q2 := OV3.out.cell 2
  have c11 := pAccepts_any (.string ⟨#[116]⟩) (.slice (some ⟨h1, 0, none⟩) 2 2) (.slice (some ⟨g1, 0, none⟩) 1 1) (.slice none 0 0) (.slice none 0 0) (.slice (some ⟨w10.heap.size, 0, none⟩) 2 2) smC [(1, 1, ⟨#[]⟩), (0, 0, ⟨#[]⟩)] (w10.alloc (.cells #[.int .i64 1, .int .i64 1, .string ⟨#[]⟩, .int .i64 0, .int .i64 0, .string ⟨#[]⟩] 45)) 0 0 (rdK_sm (OH.out.alloc _)) (rdV_two (Own.new w10 _ #[.int .i64 1, .int .i64 1, .string ⟨#[]⟩, .int .i64 0, .int .i64 0, .string ⟨#[]⟩]))
  rw [ex_a1] at c11
  have OH := Lib.hid (OH.out.alloc (.cells #[.int .i64 1, .int .i64 1, .string ⟨#[]⟩, .int .i64 0, .int .i64 0, .string ⟨#[]⟩] 45))
  have OG := Lib.hid (OG.out.alloc (.cells #[.int .i64 1, .int .i64 1, .string ⟨#[]⟩, .int .i64 0, .int .i64 0, .string ⟨#[]⟩] 45))
  have OT := Lib.hid (OT.out.alloc (.cells #[.int .i64 1, .int .i64 1, .string ⟨#[]⟩, .int .i64 0, .int .i64 0, .string ⟨#[]⟩] 45))
  have OV1 := Lib.hid (OV1.out.alloc (.cells #[.int .i64 1, .int .i64 1, .string ⟨#[]⟩, .int .i64 0, .int .i64 0, .string ⟨#[]⟩] 45))
  have OV2 := Lib.hid (OV2.out.alloc (.cells #[.int .i64 1, .int .i64 1, .string ⟨#[]⟩, .int .i64 0, .int .i64 0, .string ⟨#[]⟩] 45))
  have OV3 := Lib.hid (OV3.out.alloc (.cells #[.int .i64 1, .int .i64 1, .string ⟨#[]⟩, .int .i64 0, .int .i64 0, .string ⟨#[]⟩] 45))
  have OH2 := Lib.hid (OH2.out.alloc (.cells #[.int .i64 1, .int .i64 1, .string ⟨#[]⟩, .int .i64 0, .int .i64 0, .string ⟨#[]⟩] 45))
  have OG2 := Lib.hid (OG2.out.alloc (.cells #[.int .i64 1, .int .i64 1, .string ⟨#[]⟩, .int .i64 0, .int .i64 0, .string ⟨#[]⟩] 45))
  have OT2 := Lib.hid (OT2.out.alloc (.cells #[.int .i64 1, .int .i64 1, .string ⟨#[]⟩, .int .i64 0, .int .i64 0, .string ⟨#[]⟩] 45))
  have B1 := Lib.hid (B1.out.trans ((bel_mark w10 (.cells #[.int .i64 1, .int .i64 1, .string ⟨#[]⟩, .int .i64 0, .int .i64 0, .string ⟨#[]⟩] 45)).mono B1.out.size))
  go_wp2_with fail
  with_reducible refine c11.mono ?_
  rintro e w11 ⟨rfl, hb⟩
  clear c11 d0 d1 d2 d3 d4 p0 p1 p2 q0 q1 q2
  have OH := Lib.hid (OH.out.below hb OH.out.lt)
  have OG := Lib.hid (OG.out.below hb OG.out.lt)
  have OT := Lib.hid (OT.out.below hb OT.out.lt)
  have OV1 := Lib.hid (OV1.out.below hb OV1.out.lt)
  have OV2 := Lib.hid (OV2.out.below hb OV2.out.lt)
  have OV3 := Lib.hid (OV3.out.below hb OV3.out.lt)
  have OH2 := Lib.hid (OH2.out.below hb OH2.out.lt)
  have OG2 := Lib.hid (OG2.out.below hb OG2.out.lt)
  have OT2 := Lib.hid (OT2.out.below hb OT2.out.lt)
  have B1 := Lib.hid (B1.out.trans (hb.mono B1.out.size))
  clear hb
  obtain ⟨d0, d1, d2, d3, d4⟩ := OT.out.five
  have p0 := OV3.out.cell 0
  have p1 := OV3.out.cell 1
  have p2 := OV3.out.cell 2
  have q0 := OV2.out.cell 0
  have q1 := OV2.out.cell 1
  have q2 := OV2.out.cell 2
  have c12 := pAccepts_any (.string ⟨#[116]⟩) (.slice (some ⟨h1, 0, none⟩) 2 2) (.slice (some ⟨g1, 0, none⟩) 1 1) (.slice none 0 0) (.slice none 0 0) (.slice (some ⟨w11.heap.size, 0, none⟩) 2 2) smC [(0, 0, ⟨#[]⟩), (2, 0, ⟨#[120]⟩)] (w11.alloc (.cells #[.int .i64 0, .int .i64 0, .string ⟨#[]⟩, .int .i64 2, .int .i64 0, .string ⟨#[120]⟩] 45)) 0 0 (rdK_sm (OH.out.alloc _)) (rdV_two (Own.new w11 _ #[.int .i64 0, .int .i64 0, .string ⟨#[]⟩, .int .i64 2, .int .i64 0, .string ⟨#[120]⟩]))
  rw [ex_a2] at c12
  have OH := Lib.hid (OH.out.alloc (.cells #[.int .i64 0, .int .i64 0, .string ⟨#[]⟩, .int .i64 2, .int .i64 0, .string ⟨#[120]⟩] 45))
  have OG := Lib.hid (OG.out.alloc (.cells #[.int .i64 0, .int .i64 0, .string ⟨#[]⟩, .int .i64 2, .int .i64 0, .string ⟨#[120]⟩] 45))
  have OT := Lib.hid (OT.out.alloc (.cells #[.int .i64 0, .int .i64 0, .string ⟨#[]⟩, .int .i64 2, .int .i64 0, .string ⟨#[120]⟩] 45))
  have OV1 := Lib.hid (OV1.out.alloc (.cells #[.int .i64 0, .int .i64 0, .string ⟨#[]⟩, .int .i64 2, .int .i64 0, .string ⟨#[120]⟩] 45))
  have OV2 := Lib.hid (OV2.out.alloc (.cells #[.int .i64 0, .int .i64 0, .string ⟨#[]⟩, .int .i64 2, .int .i64 0, .string ⟨#[120]⟩] 45))
  have OV3 := Lib.hid (OV3.out.alloc (.cells #[.int .i64 0, .int .i64 0, .string ⟨#[]⟩, .int .i64 2, .int .i64 0, .string ⟨#[120]⟩] 45))
  have OH2 := Lib.hid (OH2.out.alloc (.cells #[.int .i64 0, .int .i64 0, .string ⟨#[]⟩, .int .i64 2, .int .i64 0, .string ⟨#[120]⟩] 45))
  have OG2 := Lib.hid (OG2.out.alloc (.cells #[.int .i64 0, .int .i64 0, .string ⟨#[]⟩, .int .i64 2, .int .i64 0, .string ⟨#[120]⟩] 45))
  have OT2 := Lib.hid (OT2.out.alloc (.cells #[.int .i64 0, .int .i64 0, .string ⟨#[]⟩, .int .i64 2, .int .i64 0, .string ⟨#[120]⟩] 45))
  have B1 := Lib.hid (B1.out.trans ((bel_mark w11 (.cells #[.int .i64 0, .int .i64 0, .string ⟨#[]⟩, .int .i64 2, .int .i64 0, .string ⟨#[120]⟩] 45)).mono B1.out.size))
  go_wp2_with fail
  with_reducible refine c12.mono ?_
  rintro e w12 ⟨rfl, hb⟩
  clear c12 d0 d1 d2 d3 d4 p0 p1 p2 q0 q1 q2
  have OH := Lib.hid (OH.out.below hb OH.out.lt)
  have OG := Lib.hid (OG.out.below hb OG.out.lt)
  have OT := Lib.hid (OT.out.below hb OT.out.lt)
  have OV1 := Lib.hid (OV1.out.below hb OV1.out.lt)
  have OV2 := Lib.hid (OV2.out.below hb OV2.out.lt)
  have OV3 := Lib.hid (OV3.out.below hb OV3.out.lt)
  have OH2 := Lib.hid (OH2.out.below hb OH2.out.lt)
  have OG2 := Lib.hid (OG2.out.below hb OG2.out.lt)
  have OT2 := Lib.hid (OT2.out.below hb OT2.out.lt)
  have B1 := Lib.hid (B1.out.trans (hb.mono B1.out.size))
  clear hb
  obtain ⟨d0, d1, d2, d3, d4⟩ := OT.out.five
  have p0 := OV2.out.cell 0
  have p1 := OV2.out.cell 1
  have p2 := OV2.out.cell 2
  have q0 := OV2.out.cell 0
  have q1 := OV2.out.cell 1
  have q2 := OV2.out.cell 2
  have c13 := pAccepts_any (.string ⟨#[116]⟩) (.slice (some ⟨h1, 0, none⟩) 2 2) (.slice (some ⟨g1, 0, none⟩) 1 1) (.slice none 0 0) (.slice none 0 0) (.slice (some ⟨w12.heap.size, 0, none⟩) 2 2) smC [(2, 0, ⟨#[120]⟩), (2, 0, ⟨#[120]⟩)] (w12.alloc (.cells #[.int .i64 2, .int .i64 0, .string ⟨#[120]⟩, .int .i64 2, .int .i64 0, .string ⟨#[120]⟩] 45)) 0 0 (rdK_sm (OH.out.alloc _)) (rdV_two (Own.new w12 _ #[.int .i64 2, .int .i64 0, .string ⟨#[120]⟩, .int .i64 2, .int .i64 0, .string ⟨#[120]⟩]))
  rw [ex_a3] at c13
  have OH := Lib.hid (OH.out.alloc (.cells #[.int .i64 2, .int .i64 0, .string ⟨#[120]⟩, .int .i64 2, .int .i64 0, .string ⟨#[120]⟩] 45))
  have OG := Lib.hid (OG.out.alloc (.cells #[.int .i64 2, .int .i64 0, .string ⟨#[120]⟩, .int .i64 2, .int .i64 0, .string ⟨#[120]⟩] 45))
  have OT := Lib.hid (OT.out.alloc (.cells #[.int .i64 2, .int .i64 0, .string ⟨#[120]⟩, .int .i64 2, .int .i64 0, .string ⟨#[120]⟩] 45))
  have OV1 := Lib.hid (OV1.out.alloc (.cells #[.int .i64 2, .int .i64 0, .string ⟨#[120]⟩, .int .i64 2, .int .i64 0, .string ⟨#[120]⟩] 45))
  have OV2 := Lib.hid (OV2.out.alloc (.cells #[.int .i64 2, .int .i64 0, .string ⟨#[120]⟩, .int .i64 2, .int .i64 0, .string ⟨#[120]⟩] 45))
  have OV3 := Lib.hid (OV3.out.alloc (.cells #[.int .i64 2, .int .i64 0, .string ⟨#[120]⟩, .int .i64 2, .int .i64 0, .string ⟨#[120]⟩] 45))
  have OH2 := Lib.hid (OH2.out.alloc (.cells #[.int .i64 2, .int .i64 0, .string ⟨#[120]⟩, .int .i64 2, .int .i64 0, .string ⟨#[120]⟩] 45))
  have OG2 := Lib.hid (OG2.out.alloc (.cells #[.int .i64 2, .int .i64 0, .string ⟨#[120]⟩, .int .i64 2, .int .i64 0, .string ⟨#[120]⟩] 45))
  have OT2 := Lib.hid (OT2.out.alloc (.cells #[.int .i64 2, .int .i64 0, .string ⟨#[120]⟩, .int .i64 2, .int .i64 0, .string ⟨#[120]⟩] 45))
  have B1 := Lib.hid (B1.out.trans ((bel_mark w12 (.cells #[.int .i64 2, .int .i64 0, .string ⟨#[120]⟩, .int .i64 2, .int .i64 0, .string ⟨#[120]⟩] 45)).mono B1.out.size))
  go_wp2_with fail
  with_reducible refine c13.mono ?_
  rintro e w13 ⟨rfl, hb⟩
  clear c13 d0 d1 d2 d3 d4 p0 p1 p2 q0 q1 q2
  have OH := Lib.hid (OH.out.below hb OH.out.lt)
  have OG := Lib.hid (OG.out.below hb OG.out.lt)
  have OT := Lib.hid (OT.out.below hb OT.out.lt)
  have OV1 := Lib.hid (OV1.out.below hb OV1.out.lt)
  have OV2 := Lib.hid (OV2.out.below hb OV2.out.lt)
  have OV3 := Lib.hid (OV3.out.below hb OV3.out.lt)
  have OH2 := Lib.hid (OH2.out.below hb OH2.out.lt)
  have OG2 := Lib.hid (OG2.out.below hb OG2.out.lt)
  have OT2 := Lib.hid (OT2.out.below hb OT2.out.lt)
  have B1 := Lib.hid (B1.out.trans (hb.mono B1.out.size))
  clear hb
  go_wp2
  go_ret
  exact ⟨rfl, B1.out⟩
end Go.Proofs.Ytceohfjmjdnelaa
/-
  How tables are opened; the walk of the statement SchemaAccepts. Conditions: none.
-/
namespace Go.Proofs.Ytceohfjmjdnelaa
set_option maxRecDepth 100000
open Go.ChangeShapes Go.WideShapes Go.ChangeAt Go.RowKit Go.Joins Go.Deep

theorem cellsCol : Try.prog.cellsOf 48 = 3 := by kernel_rfl
theorem cellsTab : Try.prog.cellsOf 27 = 5 := by kernel_rfl
theorem cellsBool1 : Try.prog.cellsOf 4 = 1 := by kernel_rfl
theorem cellsCols1 : Try.prog.cellsOf 22 = 1 := by kernel_rfl
section
variable {H : Type} {enc : TypeId × Value → H} {W : World} {base : Nat}
set_option maxRecDepth 100000 in
theorem open_cols {fuel : Nat} {cs : List Value} {d : DataW H} {p : List MemPlace} (hf : DataW.trod enc Try.prog W 0 (fun _ => true) true fuel 22 cs = some (d, p)) :
    ∃ (v : Value) (ps : List Cl), cs = [v] ∧ RdK W 0 W.heap.size v ps := by
  rcases open_slice Try.underlying22 hf with ⟨hcs, _⟩ | ⟨a, len, cap, m, n, D, Pl, hcs, _, hl, hm, hmm, hxx, hx⟩
  · subst hcs
    exact ⟨_, [], rfl, none, 0, rfl, by simp, by simp⟩
  · subst hcs
    rw [if_pos rfl] at hmm
    subst hmm
    have hml := maxLen_le
    have each : ∀ i, i < len → ∃ q : Cl, W.cell? (a.add (i * 3)) = some (.string q.1) ∧ W.cell? ⟨(a.add (i * 3)).block, (a.add (i * 3)).off + 1, none⟩ = some (.int .i64 q.2.1) ∧ W.cell? ⟨(a.add (i * 3)).block, (a.add (i * 3)).off + 2, none⟩ = some (.bool q.2.2) := by
      intro i hi
      obtain ⟨cs', hc, ht⟩ := hx i (by omega)
      rw [cellsCol] at hc
      obtain ⟨_, hcl, hat⟩ := World.cells?_some hc
      obtain ⟨xs, n', _, hxy, _, hxl, hfl⟩ := DataW.trod_struct Try.underlying48 ht
      match xs, hxl, cs', hcl with
      | [y0, y1, y2], _, [v0, v1, v2], _ =>
        have g0 := hfl 0 _ rfl
        have g1 := hfl 1 _ rfl
        have g2 := hfl 2 _ rfl
        simp [cellsInt1, cellsStr1, cellsBool1] at g0 g1 g2
        have e0 := hat 0 (by omega)
        have e1 := hat 1 (by omega)
        have e2 := hat 2 (by omega)
        rw [addr_add1] at e1
        rw [addr_add2] at e2
        obtain ⟨s, f0, hy0, _⟩ := DataW.trod_string Try.underlying9 g0
        obtain ⟨y, f1, hy1, _⟩ := DataW.trod_int Try.underlying3 g1
        obtain ⟨b, f2, hy2⟩ := DataW.trod_bool Try.underlying4 g2
        simp at f0 f1 f2
        subst f0 f1 f2
        exact ⟨(s, y, b), by simpa [show (a.add (i * 3)).add 0 = a.add (i * 3) by unfold Addr.add; simp] using e0, by simpa using e1, by simpa using e2⟩
    obtain ⟨q, hq⟩ := choose_lt each
    refine ⟨_, (List.range len).map q, rfl, some a, _, by rw [List.length_map, List.length_range], by rw [List.length_map, List.length_range]; omega, fun k p hk => ?_⟩
    obtain ⟨hk1, hk2⟩ := List.getElem?_eq_some_iff.1 hk
    simp at hk1 hk2
    subst hk2
    obtain ⟨g0, g1, g2⟩ := hq k hk1
    have hb := cell_lt g0
    rw [add_block] at hb
    exact ⟨a, rfl, Nat.zero_le _, hb, g0, g1, g2⟩
set_option maxRecDepth 100000 in
theorem open_tab {v : Value} {d : DataW H} {p : List MemPlace} (hv : Value.okWide Try.prog W .any base 27 v) (h : DataW.Trod enc Try.prog W 0 (fun _ => true) true 27 v d p) :
    ∃ (nm v1 v2 v3 v4 : Value) (cs : List Cl), v = .agg #[nm, v1, v2, v3, v4] ∧ RdK W 0 W.heap.size v1 cs := by
  obtain ⟨cs, rfl, hsz⟩ := okWide_struct Try.underlying27 hv
  rw [cellsTab] at hsz
  obtain ⟨l⟩ := cs
  match l, hsz with
  | [c0, c1, c2, c3, c4], _ =>
    obtain ⟨fuel, hf⟩ := h
    obtain ⟨xs, n', _, hxy, _, hxl, hfl⟩ := DataW.trod_struct Try.underlying27 hf
    match xs, hxl with
    | [y0, y1, y2, y3, y4], _ =>
      have g1 := hfl 1 _ rfl
      simp [cellsCols1, Value.cells] at g1
      obtain ⟨y1a, y1b⟩ := y1
      obtain ⟨v1, ps, e1, h1⟩ := open_cols g1
      injection e1 with e1 _
      subst e1
      exact ⟨c0, c1, c2, c3, c4, ps, rfl, h1⟩
end
theorem maxLen_cell {w : World} (h : w.ShapedOpen Try.prog) : ∃ m : Int, w.cell? ⟨0, 0, none⟩ = some (.int .i64 m) := Try.laysM144.s1_3 w h
set_option maxRecDepth 100000 in
set_option maxHeartbeats 3200000 in
theorem law_accepts (nm vc vk vf vx u : Value) (cs : List Cl) (ps : List Vl) (m : Int) (w : World) (hm : w.cell? ⟨0, 0, none⟩ = some (.int .i64 m)) (hc : RdK w 0 w.heap.size vc cs) (hu : RdV w 0 w.heap.size u ps) :
    Calls Try.prog 5 #[.agg #[nm, vc, vk, vf, vx], u] w fun e w' => e = .returned (.bool true) ∧ Below w.heap.size w w' := by
  have hm0 := World.block_lt_of_cell? w _ hm
  have b1 := bel_mark w (.cells #[nm, vc, vk, vf, vx] 27)
  have HO := Lib.hid (Own.new w 27 #[nm, vc, vk, vf, vx])
  have HP := Lib.hid (fun r : After (w.alloc (.cells #[nm, vc, vk, vf, vx] 27)) => pAccepts_any nm vc vk vf vx u cs ps r.w 0 0 (hc.step (b1.trans (r.h.mono b1.size)) (Nat.le_refl _)) (hu.step (b1.trans (r.h.mono b1.size)) (Nat.le_refl _)))
  have HR := Lib.hid (fun r : After (w.alloc (.cells #[nm, vc, vk, vf, vx] 27)) => rAccepts_any nm vc vk vf vx u cs ps r.w 0 0 (hc.step (b1.trans (r.h.mono b1.size)) (Nat.le_refl _)) (hu.step (b1.trans (r.h.mono b1.size)) (Nat.le_refl _)))
  have HA := Lib.hid (fun r : After (w.alloc (.cells #[nm, vc, vk, vf, vx] 27)) => awake13_any m r.w (((b1.trans (r.h.mono b1.size)).cell (p := ⟨0, 0, none⟩) hm0).trans hm))
  have x0 : ∀ r : After (w.alloc (.cells #[nm, vc, vk, vf, vx] 27)), r.w.cell? ⟨w.heap.size, 0, none⟩ = some nm := after_cell HO.out.lt (HO.out.cell 0)
  have x1 : ∀ r : After (w.alloc (.cells #[nm, vc, vk, vf, vx] 27)), r.w.cell? ⟨w.heap.size, 1, none⟩ = some vc := after_cell HO.out.lt (HO.out.cell 1)
  have x2 : ∀ r : After (w.alloc (.cells #[nm, vc, vk, vf, vx] 27)), r.w.cell? ⟨w.heap.size, 2, none⟩ = some vk := after_cell HO.out.lt (HO.out.cell 2)
  have x3 : ∀ r : After (w.alloc (.cells #[nm, vc, vk, vf, vx] 27)), r.w.cell? ⟨w.heap.size, 3, none⟩ = some vf := after_cell HO.out.lt (HO.out.cell 3)
  have x4 : ∀ r : After (w.alloc (.cells #[nm, vc, vk, vf, vx] 27)), r.w.cell? ⟨w.heap.size, 4, none⟩ = some vx := after_cell HO.out.lt (HO.out.cell 4)
  have HB1 := Lib.hid b1
  generalize accS cs ps = R at *
  clear b1 hc hu hm HO
  go_enter Try.func5, Try.ntmps5
  go_wp2_with fail
  (refine wp_region_after (by kernel_rfl) (by kernel_rfl) ?_; (repeat (go_big_quiet_step (first | (go_at_call 22; exact calls_after (HP.out _)) | (go_at_call 23; exact calls_after (HR.out _)) | (go_at_call 13; exact calls_after (HA.out _))))); refine wpQuiet_nil ?_; intro wq hw0; obtain ⟨⟨wq0, hbq⟩, hw1⟩ := hw0; subst hw1; (try dsimp only))
  clear x0 x1 x2 x3 x4
  go_wp2
  go_ret
  exact ⟨rfl, HB1.out.trans (hbq.mono HB1.out.size)⟩
end Go.Proofs.Ytceohfjmjdnelaa
