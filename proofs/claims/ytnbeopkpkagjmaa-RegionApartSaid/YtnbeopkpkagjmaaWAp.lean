import Derived.Test.YtnbeopkpkagjmaaRAw
import Derived.Test.YtnbeopkpkagjmaaRLe
import Derived.Test.YtnbeopkpkagjmaaRB
import Derived.WalkKit
import Derived.WalkSpells
import Derived.WalkLawsBesides
import Derived.Deep.QuietTactic
import Derived.BigQuiet
import Derived.Handy
import Derived.Lib.Hide
/-
  The walk of the statement RegionApart. Conditions: none.
-/
namespace Go.Proofs.Ytnbeopkpkagjmaa
set_option maxRecDepth 100000
set_option linter.unusedVariables false
set_option linter.unusedSimpArgs false
open Go.RowKit

set_option maxRecDepth 100000 in
set_option maxHeartbeats 12800000 in
theorem law_apart (vl : Value) (l : List Rc) (a b : Rc) (w : World) (Ll : Nat) (hvl : RdR w Ll w.heap.size vl l) :
    Calls Try.prog 6 #[vl, .agg #[.int .i64 a.1.1, .int .i64 a.1.2, .int .i64 a.2.1, .int .i64 a.2.2], .agg #[.int .i64 b.1.1, .int .i64 b.1.2, .int .i64 b.2.1, .int .i64 b.2.2]] w fun e w' => e = .returned (.bool true) ∧ Below w.heap.size w w' := by
  obtain ⟨⟨a1, a2⟩, a3, a4⟩ := a
  obtain ⟨⟨b1, b2⟩, b3, b4⟩ := b
  dsimp only
  have oA := (Own.new w 40 #[.int .i64 a1, .int .i64 a2, .int .i64 a3, .int .i64 a4]).alloc (.cells #[.int .i64 b1, .int .i64 b2, .int .i64 b3, .int .i64 b4] 40)
  have oB := own_twoR (w := w) (t := 40) (.cells #[.int .i64 a1, .int .i64 a2, .int .i64 a3, .int .i64 a4] 40) #[.int .i64 b1, .int .i64 b2, .int .i64 b3, .int .i64 b4]
  have bV : Below w.heap.size w ((w.alloc (.cells #[.int .i64 a1, .int .i64 a2, .int .i64 a3, .int .i64 a4] 40)).alloc (.cells #[.int .i64 b1, .int .i64 b2, .int .i64 b3, .int .i64 b4] 40)) := ((Below.refl _ _).alloc (Nat.le_refl _) _).alloc (by simp) _
  have Hl := Lib.hid (hvl.step bV (Nat.le_refl _))
  obtain ⟨Al, cl, rfl, _, _⟩ := hvl
  by_cases hbig : (l.length : Int) > 12
  · have hbd : decide ((l.length : Int) > 12) = true := by simp; omega
    clear oA oB
    go_enter Try.func6, Try.ntmps6
    go_wp2_with fail
    refine (awake_any _).mono ?_
    rintro e w1 ⟨rfl, hb1⟩
    go_wp2
    go_ret
    exact ⟨rfl, bV.trans (hb1.mono bV.size)⟩
  have hl : l.length ≤ 12 := by omega
  have hbd : decide ((l.length : Int) > 12) = false := by simp; omega
  have hlen : (ofR l).length ≤ 576 := Nat.le_trans (cmb_len fA l []) (Nat.le_trans (Nat.mul_le_mul (show _ ≤ 23 by simp; omega) (show _ ≤ 24 by simp; omega)) (by decide))
  have HSnd := Lib.hid (cmb_snd (f := fA) rfl l [])
  have HAp := Lib.hid (cmb_apart (f := fA) rfl l [])
  have HOv := Lib.hid (ov_inter ((a1, a2), (a3, a4)) ((b1, b2), (b3, b4)))
  change Hid (∀ r ∈ ofR l, sndR r = true) at HSnd
  change Hid ((ofR l).Pairwise fun a b => ovR a b = false) at HAp
  have zV := oB.lt
  go_enter Try.func6, Try.ntmps6
  go_wp2_with fail
  generalize (w.alloc (.cells #[.int .i64 a1, .int .i64 a2, .int .i64 a3, .int .i64 a4] 40)).alloc (.cells #[.int .i64 b1, .int .i64 b2, .int .i64 b3, .int .i64 b4] 40) = V at *
  refine (qOf_any _ l V _ Hl.out (by omega)).mono ?_
  rintro e w1 ⟨v1, rfl, hr1, hb1⟩
  have B1 : Below w.heap.size w w1 := bV.trans (hb1.mono bV.size)
  have z1 := hb1.size
  replace oA := oA.below hb1 oA.lt
  replace oB := oB.below hb1 oB.lt
  have HR := Lib.hid hr1
  obtain ⟨AR, cR, rfl, _, _⟩ := hr1
  generalize ofR l = s at *
  have hbs : decide ((s.length : Int) > 576) = false := by simp; omega
  clear hb1 Hl bV hbig
  go_wp2
  go_loopw [8] (fun i wr => ∃ k : Nat, k ≤ s.length ∧ i = .int .i64 k ∧ Below w1.heap.size w1 wr) (fun i _ => s.length - (intOf i).toNat)
  case atStart => exact ⟨0, by omega, rfl, Below.refl _ _⟩
  case round =>
    obtain ⟨k, hk, rfl, hbr⟩ := hrel
    have hbz := hbr.size
    by_cases hlt : k < s.length
    · have hx := List.getElem?_eq_getElem hlt
      have hxs := HSnd.out _ (List.getElem_mem hlt)
      generalize s[k] = r at hx hxs
      have HX := Lib.hid hx
      obtain ⟨⟨r1, r2⟩, r3, r4⟩ := r
      obtain ⟨ad, rfl, _, hab, c0, c1, c2, c3⟩ := (HR.out.below hbr).at hx
      dsimp only at c0 c1 c2 c3
      have i2 : (0 : Int) ≤ (k : Int) := by omega
      have i3 : (k : Int) < (s.length : Int) := by omega
      have hS := fun W => sound_any r1 r2 r3 r4 W
      rw [hxs] at hS
      have HSo := Lib.hid hS
      clear hx hxs hS
      go_wp2_with fail
      with_reducible refine (HSo.out _).mono ?_
      rintro e w2 ⟨rfl, hb2⟩
      have b2 : Below w1.heap.size w1 w2 := hbr.trans (hb2.mono hbz)
      have z2 := b2.size
      clear c0 c1 c2 c3 HSo
      go_wp2
      go_loopw [9] (fun j wq => ∃ m : Nat, m ≤ k ∧ j = .int .i64 m ∧ Below w1.heap.size w1 wq) (fun j _ => k - (intOf j).toNat)
      case atStart => exact ⟨0, by omega, rfl, b2⟩
      case round =>
        obtain ⟨m, hm, rfl, hbq⟩ := hrel
        have hbqz := hbq.size
        by_cases hlm : m < k
        · have hy := List.getElem?_eq_getElem (show m < s.length by omega)
          have hov : ovR (s[m]'(by omega)) ((r1, r2), (r3, r4)) = false := by
            obtain ⟨g1, e1⟩ := List.getElem?_eq_some_iff.1 HX.out
            rw [← e1]
            exact List.pairwise_iff_getElem.1 HAp.out m k (by omega) hlt hlm
          generalize s[m]'(by omega) = t at hy hov
          obtain ⟨⟨t1, t2⟩, t3, t4⟩ := t
          obtain ⟨ad', e1, _, _, d0, d1, d2, d3⟩ := (HR.out.below hbq).at hy
          injection e1 with e1
          subst e1
          obtain ⟨_, e2, _, _, c0, c1, c2, c3⟩ := (HR.out.below hbq).at HX.out
          injection e2 with e2
          subst e2
          dsimp only at c0 c1 c2 c3 d0 d1 d2 d3
          have j2 : (0 : Int) ≤ (m : Int) := by omega
          have j3 : (m : Int) < (s.length : Int) := by omega
          have hO := fun W => rOvR_any t1 t2 t3 t4 r1 r2 r3 r4 W
          rw [hov] at hO
          have f0 : ∀ p : After wr, p.w.cell? (ad.add (k * 4)) = some (.int .i64 r1) := after_cell (by rw [add_block]; omega) c0
          have f1 : ∀ p : After wr, p.w.cell? ⟨(ad.add (k * 4)).block, (ad.add (k * 4)).off + 1, none⟩ = some (.int .i64 r2) := after_cell (by show (ad.add (k * 4)).block < _; rw [add_block]; omega) c1
          have f2 : ∀ p : After wr, p.w.cell? ⟨(ad.add (k * 4)).block, (ad.add (k * 4)).off + 2, none⟩ = some (.int .i64 r3) := after_cell (by show (ad.add (k * 4)).block < _; rw [add_block]; omega) c2
          have f3 : ∀ p : After wr, p.w.cell? ⟨(ad.add (k * 4)).block, (ad.add (k * 4)).off + 3, none⟩ = some (.int .i64 r4) := after_cell (by show (ad.add (k * 4)).block < _; rw [add_block]; omega) c3
          have g0 : ∀ p : After wr, p.w.cell? (ad.add (m * 4)) = some (.int .i64 t1) := after_cell (by rw [add_block]; omega) d0
          have g1 : ∀ p : After wr, p.w.cell? ⟨(ad.add (m * 4)).block, (ad.add (m * 4)).off + 1, none⟩ = some (.int .i64 t2) := after_cell (by show (ad.add (m * 4)).block < _; rw [add_block]; omega) d1
          have g2 : ∀ p : After wr, p.w.cell? ⟨(ad.add (m * 4)).block, (ad.add (m * 4)).off + 2, none⟩ = some (.int .i64 t3) := after_cell (by show (ad.add (m * 4)).block < _; rw [add_block]; omega) d2
          have g3 : ∀ p : After wr, p.w.cell? ⟨(ad.add (m * 4)).block, (ad.add (m * 4)).off + 3, none⟩ = some (.int .i64 t4) := after_cell (by show (ad.add (m * 4)).block < _; rw [add_block]; omega) d3
          have hbq0 := hbq
          clear c0 c1 c2 c3 d0 d1 d2 d3 hy hov hbq
          go_wp2
          (refine wp_region_after (by kernel_rfl) (by kernel_rfl) ?_; (repeat (go_big_quiet_step ((go_at_call 22; exact calls_after (hO _))))); refine wpQuiet_nil ?_; intro wq hw0; obtain ⟨⟨wq0, hbq⟩, hw1⟩ := hw0; subst hw1; (try dsimp only))
          go_wp2
          go_roundw
          case rel => exact ⟨m + 1, by omega, by go_num, hbq0.trans (hbq.mono hbqz)⟩
          case measure => simp [intOf]; omega
        · have hd : ¬ (m : Int) < (k : Int) := by omega
          go_wp2
          go_roundw
          case rel => exact ⟨k + 1, by omega, by go_num, hbq⟩
          case measure => simp [intOf]; omega
    · have hd : ¬ (k : Int) < s.length := by omega
      have B2 : Below w.heap.size w wr := B1.trans (hbr.mono B1.size)
      have zB := B2.size
      replace oA := oA.below hbr oA.lt
      replace oB := oB.below hbr oB.lt
      clear HSnd HAp HR hbr
      have c0 := oA.cell 0
      have c1 := oA.cell 1
      have c2 := oA.cell 2
      have c3 := oA.cell 3
      have d0 := oB.cell 0
      have d1 := oB.cell 1
      have d2 := oB.cell 2
      have d3 := oB.cell 3
      have hP := fun W => pOvR_any a1 a2 a3 a4 b1 b2 b3 b4 W
      have hQ := fun W => rOvR_any a1 a2 a3 a4 b1 b2 b3 b4 W
      generalize ovR ((a1, a2), (a3, a4)) ((b1, b2), (b3, b4)) = O at *
      go_wp2_with fail
      with_reducible refine (hP _).mono ?_
      rintro e w5 ⟨rfl, hb5⟩
      clear c0 c1 c2 c3 d0 d1 d2 d3
      replace oA := oA.below hb5 oA.lt
      replace oB := oB.below hb5 oB.lt
      have B5 := B2.trans (hb5.mono zB)
      have c0 := oA.cell 0
      have c1 := oA.cell 1
      have c2 := oA.cell 2
      have c3 := oA.cell 3
      have d0 := oB.cell 0
      have d1 := oB.cell 1
      have d2 := oB.cell 2
      have d3 := oB.cell 3
      go_wp2_with fail
      with_reducible refine (hQ _).mono ?_
      rintro e w6 ⟨rfl, hb6⟩
      clear c0 c1 c2 c3 d0 d1 d2 d3
      replace oA := oA.below hb6 oA.lt
      replace oB := oB.below hb6 oB.lt
      have B6 := B5.trans (hb6.mono B5.size)
      have z6 := B6.size
      have c0 := oA.cell 0
      have c1 := oA.cell 1
      have c2 := oA.cell 2
      have c3 := oA.cell 3
      have d0 := oB.cell 0
      have d1 := oB.cell 1
      have d2 := oB.cell 2
      have d3 := oB.cell 3
      have hOO : (O == O) = true := by simp
      have bL1 : Below w6.heap.size w6 (w6.alloc (.cells #[.int .i64 a1, .int .i64 a2, .int .i64 a3, .int .i64 a4] 40)) := (Below.refl _ _).alloc (Nat.le_refl _) _
      have hL1 := rdR_lit w6 #[.int .i64 a1, .int .i64 a2, .int .i64 a3, .int .i64 a4] [((a1, a2), (a3, a4))] 1 rfl rfl (by decide)
      have e0 := (oB.below bL1 oB.lt).cell 0
      have e1 := (oB.below bL1 oB.lt).cell 1
      have e2 := (oB.below bL1 oB.lt).cell 2
      have e3 := (oB.below bL1 oB.lt).cell 3
      go_wp2_with fail
      clear c0 c1 c2 c3 d0 d1 d2 d3 e0 e1 e2 e3
      have sL1 : (w6.alloc (.cells #[.int .i64 a1, .int .i64 a2, .int .i64 a3, .int .i64 a4] 40)).heap.size = w6.heap.size + 1 := by simp
      generalize w6.alloc (.cells #[.int .i64 a1, .int .i64 a2, .int .i64 a3, .int .i64 a4] 40) = X1 at *
      have hL2 := rdR_lit X1 #[.int .i64 b1, .int .i64 b2, .int .i64 b3, .int .i64 b4] [((b1, b2), (b3, b4))] 1 rfl rfl (by decide)
      have bL2 : Below X1.heap.size X1 (X1.alloc (.cells #[.int .i64 b1, .int .i64 b2, .int .i64 b3, .int .i64 b4] 40)) := (Below.refl _ _).alloc (Nat.le_refl _) _
      rw [sL1] at hL2
      generalize X1.alloc (.cells #[.int .i64 b1, .int .i64 b2, .int .i64 b3, .int .i64 b4] 40) = X2 at *
      have HI := Lib.hid (qInter_any _ _ _ _ X2 _ _ (hL1.step bL2 (by omega)) hL2 (by simp))
      clear hL1 hL2
      with_reducible refine HI.out.mono ?_
      rintro e w7 ⟨v7, rfl, hr7, hb7⟩
      obtain ⟨A7, c7, rfl, _, _⟩ := hr7
      have BX : Below w.heap.size w w7 := ((B6.trans (bL1.mono z6)).trans (bL2.mono (B6.trans (bL1.mono z6)).size)).trans (hb7.mono ((B6.trans (bL1.mono z6)).trans (bL2.mono (B6.trans (bL1.mono z6)).size)).size)
      have hov := HOv.out
      generalize (cmbR fAnd [((a1, a2), (a3, a4))] [((b1, b2), (b3, b4))]).length = n at *
      clear HI HOv
      have hA := awake_any w7
      cases O
      · obtain rfl : n = 0 := by
          rcases Nat.eq_zero_or_pos n with h | h
          · exact h
          · rw [decide_eq_true h] at hov; cases hov
        clear hov
        go_wp2_with fail
        with_reducible refine hA.mono ?_
        rintro e w8 ⟨rfl, hb8⟩
        go_wp2
        go_ret
        exact ⟨rfl, BX.trans (hb8.mono BX.size)⟩
      · have h0 : 0 < n := by
          rcases Nat.eq_zero_or_pos n with h | h
          · rw [h] at hov; cases hov
          · exact h
        clear hov
        have h1 : (0 : Int) < (n : Int) := by omega
        have h2 : decide ((n : Int) > 0) = true := decide_eq_true h1
        go_wp2_with fail
        with_reducible refine hA.mono ?_
        rintro e w8 ⟨rfl, hb8⟩
        go_wp2
        go_ret
        exact ⟨rfl, BX.trans (hb8.mono BX.size)⟩
end Go.Proofs.Ytnbeopkpkagjmaa
