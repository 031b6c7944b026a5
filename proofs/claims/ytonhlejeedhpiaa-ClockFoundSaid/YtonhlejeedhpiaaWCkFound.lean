/-
  The walk of the statement ClockFound. Conditions: none.
-/
import Derived.Test.YtonhlejeedhpiaaCkW
import Derived.WalkKit
import Derived.WalkSpells
import Derived.WalkLawsBesides
import Derived.Deep.QuietTactic
import Derived.BigQuiet
import Derived.Handy
import Derived.Lib.Hide
namespace Go.Proofs.Ytonhlejeedhpiaa
open Go.RowKit
theorem chk_rpl : ∀ (l : List Int) (a : Int), rpE a l = 0 → chk a (rpl a l) = 0
  | [], _, _ => rfl
  | r :: l, a, h => by
    unfold rpE at h
    split at h
    · cases h
    · rename_i h1
      split at h
      · cases h
      · rename_i h2
        rw [rpl, chk]
        have e1 : inst r = true := by simpa using h1
        have e2 : inst (nxT a r) = true := by simpa using h2
        rw [if_neg (by rw [e1, e2]; decide), if_neg (by unfold nxT; omega), if_neg (by simp)]
        exact chk_rpl l _ h
theorem chk_inst : ∀ (l : List (Int × Int)) (a : Int) (k : Nat) (t r : Int), chk a l = 0 → l[k]? = some (t, r) → inst r = true
  | [], _, _, _, _, _, h => by simp at h
  | (t0, r0) :: l, a, k, t, r, hc, h => by
    unfold chk at hc
    split at hc
    · cases hc
    · rename_i hi
      split at hc
      · cases hc
      · split at hc
        · cases hc
        · cases k with
          | zero =>
            simp at h
            rw [← h.2]
            cases h1 : inst r0
            · rw [h1] at hi; exact absurd rfl hi
            · rfl
          | succ k =>
            rw [List.getElem?_cons_succ] at h
            exact chk_inst l t0 k t r hc h
def hasB (L : List (Int × Int)) (t : Int) : Bool := L.any fun p => decide (p.1 ≤ t) && decide (t < p.2)
theorem hasB_step {L : List (Int × Int)} {k : Nat} {p : Int × Int} {t : Int} (h : L[k]? = some p) : hasB (L.take (k + 1)) t = (hasB (L.take k) t || (decide (p.1 ≤ t) && decide (t < p.2))) := by
  unfold hasB; rw [take_snocP h, List.any_append]; simp
theorem found_all {s : List (Int × Int)} (hc : chk 0 s = 0) {k : Nat} {t r : Int} (hk : s[k]? = some (t, r)) : hasB (shL s r) t = true := by
  rw [shL_ok hc (chk_inst s 0 k t r hc hk)]
  have hl := (List.getElem?_eq_some_iff.1 hk).1
  obtain ⟨p, hp, h1, h2⟩ := cov_shS (asc_of s 0 0 (by omega) (by omega) hc) r (i := k + 1) (t := t) (r := r) (by rw [List.getElem?_cons_succ]; exact hk) (may_self r _) (s.length + 1) (by omega) (by simp)
  unfold hasB
  rw [List.any_eq_true]
  exact ⟨p, hp, by simp [h1, h2]⟩
set_option maxRecDepth 100000 in
set_option maxHeartbeats 1600000 in
theorem law_found (v : Value) (l : List Int) (w : World) (L : Nat) (hv : RdI w L w.heap.size v l) :
    Calls Try.prog 9 #[v] w fun e w' => e = .returned (.bool true) ∧ Below w.heap.size w w' := by
  have hx1 := pReplay_any _ _ _ _ hv
  obtain ⟨A, c, rfl, hlen, _⟩ := hv
  unfold RetRep at hx1
  by_cases hE : rpE 0 l = 0
  · rw [hE, repL_ok hE] at hx1
    have hpl := rpl_len 0 l
    have hck := chk_rpl l 0 hE
    by_cases hbig : (l.length : Int) > 60
    · have hbd : decide ((l.length : Int) > 60) = true := decide_eq_true hbig
      go_enter Try.func9, Try.ntmps9
      go_wp2_with fail
      refine hx1.mono ?_
      rintro e w1 ⟨v1, rfl, hr1, hb1⟩
      have Z1 := hb1.size
      go_wp2_with fail
      refine (works_any _).mono ?_
      rintro e w2 ⟨rfl, hb2⟩
      go_wp2
      go_ret
      exact ⟨rfl, hb1.trans (hb2.mono Z1)⟩
    · have hbd : decide ((l.length : Int) > 60) = false := decide_eq_false hbig
      generalize rpl 0 l = S at *
      clear hpl
      go_enter Try.func9, Try.ntmps9
      go_wp2_with fail
      refine hx1.mono ?_
      rintro e w1 ⟨v1, rfl, hr1, hb1⟩
      have Z1 := hb1.size
      have R1 := Lib.hid hr1
      clear hx1
      go_wp2_with fail
      have hx2 := pCheck_any v1 S w1 _ R1.out
      rw [hck] at hx2
      obtain ⟨A1, c1, rfl, _, _⟩ := hr1
      refine hx2.mono ?_
      rintro e w2 ⟨rfl, hb2⟩
      have R2 := Lib.hid (R1.out.step hb2 (Nat.le_refl _))
      have B2 := hb1.trans (hb2.mono Z1)
      have Z2 := B2.size
      have HC := Lib.hid hck
      clear hx2 R1 hb1 hb2 hck
      go_wp2
      go_loopw [27] (fun i wr => ∃ k : Nat, k ≤ S.length ∧ i = .int .i64 k ∧ Below w2.heap.size w2 wr) (fun i _ => S.length - (intOf i).toNat)
      case atStart => exact ⟨0, by omega, rfl, Below.refl _ _⟩
      case round =>
        obtain ⟨k, hk, rfl, hbr⟩ := hrel
        have hbz := hbr.size
        by_cases hlt : k < S.length
        · have hx := List.getElem?_eq_getElem hlt
          generalize S[k] = p at hx
          obtain ⟨t, r⟩ := p
          have hfa := found_all HC.out hx
          obtain ⟨ad, rfl, _, hab, c0, c1⟩ := (R2.out.below hbr).at hx
          dsimp only at c0 c1
          have i2 : (0 : Int) ≤ (k : Int) := by omega
          have i3 : (k : Int) < (S.length : Int) := by omega
          have hsh := pShown_any _ S r wr _ (R2.out.step hbr (Nat.le_refl _))
          generalize shL S r = P at *
          have HF := Lib.hid hfa
          clear hfa hx
          go_wp2_with fail
          refine hsh.mono ?_
          rintro e w4 ⟨v4, rfl, hr4, hb4⟩
          have c4 := (hb4.cell (p := ad.add (k * 2)) (by rw [add_block]; omega)).trans c0
          have z4 := hb4.size
          have R4 := Lib.hid hr4
          have B4 := hbr.trans (hb4.mono hbz)
          obtain ⟨A4, c5, rfl, hl4, _⟩ := hr4
          clear hsh c0 c1 hb4
          go_wp2
          go_loopw [6, 38] (fun fo jx wi => ∃ j : Nat, j ≤ P.length ∧ jx = .int .i64 j ∧ fo = .bool (hasB (P.take j) t) ∧ Below w4.heap.size w4 wi) (fun _ jx _ => P.length - (intOf jx).toNat)
          case atStart => exact ⟨0, by omega, rfl, rfl, Below.refl _ _⟩
          case round =>
            obtain ⟨j, hj, rfl, rfl, hbi⟩ := hrel
            have hbiz := hbi.size
            by_cases hjl : j < P.length
            · have hy := List.getElem?_eq_getElem hjl
              generalize P[j] = q at hy
              obtain ⟨x, y⟩ := q
              have hst := hasB_step (t := t) hy
              dsimp only at hst
              obtain ⟨ad4, rfl, _, hab4, d0, d1⟩ := (R4.out.below hbi).at hy
              dsimp only at d0 d1
              have j2 : (0 : Int) ≤ (j : Int) := by omega
              have j3 : (j : Int) < (P.length : Int) := by omega
              have oX := Own.new wr 49 #[.int .i64 x, .int .i64 y]
              have lX := oX.lt
              have bX : Below wr.heap.size wr (wr.alloc (.cells #[.int .i64 x, .int .i64 y] 49)) := (Below.refl _ _).alloc (Nat.le_refl _) _
              have BX : Below w4.heap.size w4 (wr.alloc (.cells #[.int .i64 x, .int .i64 y] 49)) := hbi.trans (bX.mono hbiz)
              have zX := bX.size
              have e0 := ((bX.mono hbiz).cell (p := ad.add (k * 2)) (by rw [add_block]; omega)).trans ((hbi.cell (p := ad.add (k * 2)) (by rw [add_block]; omega)).trans c4)
              clear hy
              cases hb : hasB (P.take j) t
              · rw [hb, Bool.false_or] at hst
                clear hb
                by_cases h1 : x ≤ t
                · have q1 : decide (x ≤ t) = true := decide_eq_true h1
                  by_cases h2 : t < y
                  · have q2 : decide (t < y) = true := decide_eq_true h2
                    rw [q1, q2] at hst
                    have HST := Lib.hid hst
                    clear hst
                    go_wp2
                    generalize wr.alloc (.cells #[.int .i64 x, .int .i64 y] 49) = W at *
                    have f0 : ∀ p : After W, p.w.cell? ⟨wr.heap.size, 0, none⟩ = some (.int .i64 x) := after_cell lX (oX.cell 0)
                    have f1 : ∀ p : After W, p.w.cell? ⟨wr.heap.size, 1, none⟩ = some (.int .i64 y) := after_cell lX (oX.cell 1)
                    have f2 : ∀ p : After W, p.w.cell? (ad.add (k * 2)) = some (.int .i64 t) := after_cell (by rw [add_block]; omega) e0
                    (refine wp_region_after (by kernel_rfl) (by kernel_rfl) ?_; (repeat (go_big_quiet_step (fail))); refine wpQuiet_nil ?_; intro wq hw0; obtain ⟨⟨wq0, hbq⟩, hw1⟩ := hw0; subst hw1; (try dsimp only))
                    have zq := hbq.size
                    go_wp2
                    go_roundw
                    case rel => exact ⟨j + 1, by omega, by go_num, by (rw [HST.out]; first | done | rfl), BX.trans (hbq.mono (by omega))⟩
                    case measure => simp [intOf]; omega
                  · have q2 : decide (t < y) = false := decide_eq_false h2
                    rw [q1, q2] at hst
                    have HST := Lib.hid hst
                    clear hst
                    go_wp2
                    generalize wr.alloc (.cells #[.int .i64 x, .int .i64 y] 49) = W at *
                    have f0 : ∀ p : After W, p.w.cell? ⟨wr.heap.size, 0, none⟩ = some (.int .i64 x) := after_cell lX (oX.cell 0)
                    have f1 : ∀ p : After W, p.w.cell? ⟨wr.heap.size, 1, none⟩ = some (.int .i64 y) := after_cell lX (oX.cell 1)
                    have f2 : ∀ p : After W, p.w.cell? (ad.add (k * 2)) = some (.int .i64 t) := after_cell (by rw [add_block]; omega) e0
                    (refine wp_region_after (by kernel_rfl) (by kernel_rfl) ?_; (repeat (go_big_quiet_step (fail))); refine wpQuiet_nil ?_; intro wq hw0; obtain ⟨⟨wq0, hbq⟩, hw1⟩ := hw0; subst hw1; (try dsimp only))
                    have zq := hbq.size
                    go_wp2
                    go_roundw
                    case rel => exact ⟨j + 1, by omega, by go_num, by (rw [HST.out]; first | done | rfl), BX.trans (hbq.mono (by omega))⟩
                    case measure => simp [intOf]; omega
                · have q1 : decide (x ≤ t) = false := decide_eq_false h1
                  rw [q1, Bool.false_and] at hst
                  have HST := Lib.hid hst
                  clear hst
                  go_wp2
                  generalize wr.alloc (.cells #[.int .i64 x, .int .i64 y] 49) = W at *
                  have f0 : ∀ p : After W, p.w.cell? ⟨wr.heap.size, 0, none⟩ = some (.int .i64 x) := after_cell lX (oX.cell 0)
                  have f1 : ∀ p : After W, p.w.cell? ⟨wr.heap.size, 1, none⟩ = some (.int .i64 y) := after_cell lX (oX.cell 1)
                  have f2 : ∀ p : After W, p.w.cell? (ad.add (k * 2)) = some (.int .i64 t) := after_cell (by rw [add_block]; omega) e0
                  (refine wp_region_after (by kernel_rfl) (by kernel_rfl) ?_; (repeat (go_big_quiet_step (fail))); refine wpQuiet_nil ?_; intro wq hw0; obtain ⟨⟨wq0, hbq⟩, hw1⟩ := hw0; subst hw1; (try dsimp only))
                  have zq := hbq.size
                  go_wp2
                  go_roundw
                  case rel => exact ⟨j + 1, by omega, by go_num, by (rw [HST.out]; first | done | rfl), BX.trans (hbq.mono (by omega))⟩
                  case measure => simp [intOf]; omega
              · rw [hb, Bool.true_or] at hst
                have HST := Lib.hid hst
                clear hst hb
                go_wp2
                generalize wr.alloc (.cells #[.int .i64 x, .int .i64 y] 49) = W at *
                have f0 : ∀ p : After W, p.w.cell? ⟨wr.heap.size, 0, none⟩ = some (.int .i64 x) := after_cell lX (oX.cell 0)
                have f1 : ∀ p : After W, p.w.cell? ⟨wr.heap.size, 1, none⟩ = some (.int .i64 y) := after_cell lX (oX.cell 1)
                have f2 : ∀ p : After W, p.w.cell? (ad.add (k * 2)) = some (.int .i64 t) := after_cell (by rw [add_block]; omega) e0
                (refine wp_region_after (by kernel_rfl) (by kernel_rfl) ?_; (repeat (go_big_quiet_step (fail))); refine wpQuiet_nil ?_; intro wq hw0; obtain ⟨⟨wq0, hbq⟩, hw1⟩ := hw0; subst hw1; (try dsimp only))
                have zq := hbq.size
                go_wp2
                go_roundw
                case rel => exact ⟨j + 1, by omega, by go_num, by (rw [HST.out]; first | done | rfl), BX.trans (hbq.mono (by omega))⟩
                case measure => simp [intOf]; omega
            · have hT : P.take j = P := List.take_of_length_le (by omega)
              have hd : ¬ (j : Int) < P.length := by omega
              have hft : hasB (P.take j) t = true := by rw [hT]; exact HF.out
              rw [hft]
              clear hT hft
              go_wp2
              go_roundw
              case rel => exact ⟨k + 1, by omega, by go_num, B4.trans (hbi.mono (by omega))⟩
              case measure => simp [intOf]; omega
        · have hd : ¬ (k : Int) < S.length := by omega
          go_wp2_with fail
          refine (works_any _).mono ?_
          rintro e w3 ⟨rfl, hb3⟩
          go_wp2
          go_ret
          exact ⟨rfl, B2.trans ((hbr.trans (hb3.mono hbz)).mono Z2)⟩
  · rw [repL_no hE] at hx1
    generalize rpE 0 l = R at *
    have hne : (R != 0) = true := by simpa using hE
    go_enter Try.func9, Try.ntmps9
    go_wp2_with fail
    refine hx1.mono ?_
    rintro e w1 ⟨v1, rfl, hr1, hb1⟩
    have Z1 := hb1.size
    go_wp2_with fail
    refine (works_any _).mono ?_
    rintro e w2 ⟨rfl, hb2⟩
    go_wp2
    go_ret
    exact ⟨rfl, hb1.trans (hb2.mono Z1)⟩
end Go.Proofs.Ytonhlejeedhpiaa
