/-
  Contracts of Check, of the program and of the reference: the first error of a list of stamps. Conditions: none.
-/
import Derived.Test.YtonhlejeedhpiaaCkS
import Derived.Test.YtonhlejeedhpiaaQui
import Derived.WalkKit
import Derived.WalkSpells
import Derived.WalkLawsBesides
import Derived.Deep.QuietTactic
import Derived.BigQuiet
import Derived.Handy
import Derived.Lib.Hide
namespace Go.Proofs.Ytonhlejeedhpiaa
open Go.RowKit

theorem inst_no {t : Int} (h : ¬ (0 ≤ t ∧ t < 1099511627776)) : inst t = false := by rw [Bool.eq_false_iff, ne_eq, inst_iff]; exact h
set_option maxRecDepth 100000 in
set_option maxHeartbeats 1600000 in
theorem rCheck_any (v : Value) (l : List (Int × Int)) (w : World) (L : Nat) (hv : RdP w L w.heap.size v l) :
    Calls Try.prog 16 #[v] w fun e w' => e = .returned (.int .i64 (chk 0 l)) ∧ Below w.heap.size w w' := by
  have hv0 := hv
  obtain ⟨A, c, rfl, hlen, _⟩ := hv
  generalize hR : chk 0 l = R
  go_enter Try.func16, Try.ntmps16
  go_wp2
  go_loopw [3, 8] (fun a i wr => ∃ (k : Nat) (x : Int), k ≤ l.length ∧ i = .int .i64 k ∧ a = .int .i64 x ∧ Hid (chk x (l.drop k) = R ∧ 0 ≤ x ∧ x < 1099511627776) ∧ Below w.heap.size w wr) (fun _ i _ => l.length - (intOf i).toNat)
  case atStart => exact ⟨0, 0, by omega, rfl, rfl, Lib.hid ⟨hR, by omega, by omega⟩, Below.refl _ _⟩
  case round =>
    obtain ⟨k, x, hk, rfl, rfl, hC, hbr⟩ := hrel
    have hbz := hbr.size
    obtain ⟨hC, hx0, hx1⟩ := hC.out
    by_cases hlt : k < l.length
    · have hke := List.getElem?_eq_getElem hlt
      generalize l[k] = p at hke
      obtain ⟨t, r⟩ := p
      obtain ⟨ad, rfl, hal, hab, c0, c1⟩ := (hv0.below hbr).at hke
      dsimp only at c0 c1
      have i2 : (0 : Int) ≤ (k : Int) := by omega
      have i3 : (k : Int) < (l.length : Int) := by omega
      have hw1 : IntKind.i64.wrap (x + 1) = x + 1 := IntWalk.i64_in _ (by omega)
      have hRd := rReading_any r
      cases h1 : inst r
      · have hE : R = 6 := by rw [← hC]; exact chk_range hke (by rw [h1]; rfl)
        subst hE
        clear hC hke
        rw [h1] at hRd
        go_wp2_with (go_at_call 31; refine (hRd _).mono ?_; rintro e w1 ⟨rfl, hb⟩; obtain ⟨hc, hf⟩ := bcell hb; have hz := hb.size; (try simp only [World.size_alloc] at hz); have hz0 : wr.heap.size < w1.heap.size := (by omega))
        go_ret
        refine ⟨rfl, hbr.trans ?_⟩
        (repeat' (first | (with_reducible exact Below.refl _ _) | (with_reducible assumption) | (with_reducible refine Below.alloc ?_ ?_ _) | (with_reducible refine Below.drew ?_) | (with_reducible refine Below.setCell ?_ ?_ _) | (with_reducible refine Below.trans ?_ (Below.mono (by assumption) ?_)) | go_size))
      rw [h1] at hRd
      by_cases ht : 0 ≤ t ∧ t < 1099511627776
      · have h2 := inst_iff.2 ht
        have h12 : (inst r && inst t) = true := by rw [h1, h2]; rfl
        have ht1 : ¬ t < 0 := by omega
        have ht2 : ¬ t ≥ 1099511627776 := by omega
        by_cases h3 : t ≤ x
        · have hE : R = 9 := by rw [← hC]; exact chk_order hke h12 h3
          subst hE
          clear hC hke h12 h2
          go_wp2_with (go_at_call 31; refine (hRd _).mono ?_; rintro e w1 ⟨rfl, hb⟩; obtain ⟨hc, hf⟩ := bcell hb; have hz := hb.size; (try simp only [World.size_alloc] at hz); have hz0 : wr.heap.size < w1.heap.size := (by omega))
          go_ret
          refine ⟨rfl, hbr.trans ?_⟩
          (repeat' (first | (with_reducible exact Below.refl _ _) | (with_reducible assumption) | (with_reducible refine Below.alloc ?_ ?_ _) | (with_reducible refine Below.drew ?_) | (with_reducible refine Below.setCell ?_ ?_ _) | (with_reducible refine Below.trans ?_ (Below.mono (by assumption) ?_)) | go_size))
        have hm : (r ≤ x + 1 ∧ nxT x r = x + 1) ∨ (¬ r ≤ x + 1 ∧ nxT x r = r) := by unfold nxT; omega
        by_cases h4 : t ≠ nxT x r
        · have hE : R = 8 := by rw [← hC]; exact chk_inv hke h12 h3 h4
          subst hE
          clear hC hke h12 h2
          rcases hm with ⟨hm1, hm2⟩ | ⟨hm1, hm2⟩
          all_goals
            rw [hm2] at h4
            clear hm2
          · have h5 : (t != x + 1) = true := by simpa using h4
            clear h4
            go_wp2_with (go_at_call 31; refine (hRd _).mono ?_; rintro e w1 ⟨rfl, hb⟩; obtain ⟨hc, hf⟩ := bcell hb; have hz := hb.size; (try simp only [World.size_alloc] at hz); have hz0 : wr.heap.size < w1.heap.size := (by omega))
            go_ret
            refine ⟨rfl, hbr.trans ?_⟩
            (repeat' (first | (with_reducible exact Below.refl _ _) | (with_reducible assumption) | (with_reducible refine Below.alloc ?_ ?_ _) | (with_reducible refine Below.drew ?_) | (with_reducible refine Below.setCell ?_ ?_ _) | (with_reducible refine Below.trans ?_ (Below.mono (by assumption) ?_)) | go_size))
          · have h5 : (t != r) = true := by simpa using h4
            clear h4
            go_wp2_with (go_at_call 31; refine (hRd _).mono ?_; rintro e w1 ⟨rfl, hb⟩; obtain ⟨hc, hf⟩ := bcell hb; have hz := hb.size; (try simp only [World.size_alloc] at hz); have hz0 : wr.heap.size < w1.heap.size := (by omega))
            go_ret
            refine ⟨rfl, hbr.trans ?_⟩
            (repeat' (first | (with_reducible exact Below.refl _ _) | (with_reducible assumption) | (with_reducible refine Below.alloc ?_ ?_ _) | (with_reducible refine Below.drew ?_) | (with_reducible refine Below.setCell ?_ ?_ _) | (with_reducible refine Below.trans ?_ (Below.mono (by assumption) ?_)) | go_size))
        · have hS := Lib.hid ((chk_step hke h12 h3 h4).symm.trans hC)
          clear hC hke h12 h2
          have h4 : t = nxT x r := Classical.not_not.1 h4
          rcases hm with ⟨hm1, hm2⟩ | ⟨hm1, hm2⟩
          all_goals
            rw [hm2] at h4
            clear hm2
          · have h5 : (t != x + 1) = false := by simpa using h4
            clear h4
            go_wp2_with (go_at_call 31; refine (hRd _).mono ?_; rintro e w1 ⟨rfl, hb⟩; obtain ⟨hc, hf⟩ := bcell hb; have hz := hb.size; (try simp only [World.size_alloc] at hz); have hz0 : wr.heap.size < w1.heap.size := (by omega))
            go_roundw
            case rel => exact ⟨k + 1, t, by omega, by go_num, rfl, Lib.hid ⟨hS.out, ht⟩, hbr.trans (by (repeat' (first | (with_reducible exact Below.refl _ _) | (with_reducible assumption) | (with_reducible refine Below.alloc ?_ ?_ _) | (with_reducible refine Below.drew ?_) | (with_reducible refine Below.setCell ?_ ?_ _) | (with_reducible refine Below.trans ?_ (Below.mono (by assumption) ?_)) | go_size)))⟩
            case measure => simp [intOf]; omega
          · have h5 : (t != r) = false := by simpa using h4
            clear h4
            go_wp2_with (go_at_call 31; refine (hRd _).mono ?_; rintro e w1 ⟨rfl, hb⟩; obtain ⟨hc, hf⟩ := bcell hb; have hz := hb.size; (try simp only [World.size_alloc] at hz); have hz0 : wr.heap.size < w1.heap.size := (by omega))
            go_roundw
            case rel => exact ⟨k + 1, t, by omega, by go_num, rfl, Lib.hid ⟨hS.out, ht⟩, hbr.trans (by (repeat' (first | (with_reducible exact Below.refl _ _) | (with_reducible assumption) | (with_reducible refine Below.alloc ?_ ?_ _) | (with_reducible refine Below.drew ?_) | (with_reducible refine Below.setCell ?_ ?_ _) | (with_reducible refine Below.trans ?_ (Below.mono (by assumption) ?_)) | go_size)))⟩
            case measure => simp [intOf]; omega
      · have hE : R = 6 := by rw [← hC]; exact chk_range hke (by rw [inst_no ht, Bool.and_false])
        subst hE
        clear hC hke
        by_cases ht1 : t < 0
        · go_wp2_with (go_at_call 31; refine (hRd _).mono ?_; rintro e w1 ⟨rfl, hb⟩; obtain ⟨hc, hf⟩ := bcell hb; have hz := hb.size; (try simp only [World.size_alloc] at hz); have hz0 : wr.heap.size < w1.heap.size := (by omega))
          go_ret
          refine ⟨rfl, hbr.trans ?_⟩
          (repeat' (first | (with_reducible exact Below.refl _ _) | (with_reducible assumption) | (with_reducible refine Below.alloc ?_ ?_ _) | (with_reducible refine Below.drew ?_) | (with_reducible refine Below.setCell ?_ ?_ _) | (with_reducible refine Below.trans ?_ (Below.mono (by assumption) ?_)) | go_size))
        · have ht2 : t ≥ 1099511627776 := by omega
          go_wp2_with (go_at_call 31; refine (hRd _).mono ?_; rintro e w1 ⟨rfl, hb⟩; obtain ⟨hc, hf⟩ := bcell hb; have hz := hb.size; (try simp only [World.size_alloc] at hz); have hz0 : wr.heap.size < w1.heap.size := (by omega))
          go_ret
          refine ⟨rfl, hbr.trans ?_⟩
          (repeat' (first | (with_reducible exact Below.refl _ _) | (with_reducible assumption) | (with_reducible refine Below.alloc ?_ ?_ _) | (with_reducible refine Below.drew ?_) | (with_reducible refine Below.setCell ?_ ?_ _) | (with_reducible refine Below.trans ?_ (Below.mono (by assumption) ?_)) | go_size))
    · have hE : R = 0 := by rw [← hC]; exact chk_end (by omega)
      subst hE
      have hd : ¬ (k : Int) < l.length := by omega
      go_wp2
      go_ret
      exact ⟨rfl, hbr⟩

set_option maxRecDepth 100000 in
set_option maxHeartbeats 3200000 in
theorem pCheck_any (v : Value) (l : List (Int × Int)) (w : World) (L : Nat) (hv : RdP w L w.heap.size v l) :
    Calls Try.prog 15 #[v] w fun e w' => e = .returned (.int .i64 (chk 0 l)) ∧ Below w.heap.size w w' := by
  have hv0 := hv
  obtain ⟨A, c, rfl, hlen, _⟩ := hv
  generalize hR : chk 0 l = R
  go_enter Try.func15, Try.ntmps15
  go_wp2
  have oW := Own.new w 23 #[.int .i64 0, .int .i64 0]
  have bW : Below w.heap.size w (w.alloc (.cells #[.int .i64 0, .int .i64 0] 23)) := (Below.refl _ _).alloc (Nat.le_refl _) _
  have zW := bW.size
  go_loopw [11] (fun i wr => ∃ (k : Nat) (x y : Int), k ≤ l.length ∧ i = .int .i64 k ∧ Own wr w.heap.size 23 #[.int .i64 x, .int .i64 y] ∧ Hid (chk x (l.drop k) = R ∧ cok x y = true) ∧ Below w.heap.size w wr) (fun i _ => l.length - (intOf i).toNat)
  case atStart => exact ⟨0, 0, 0, by omega, rfl, oW, Lib.hid ⟨hR, by decide⟩, bW⟩
  case round =>
    obtain ⟨k, x, y, hk, rfl, hO, hC, hbr⟩ := hrel
    clear oW bW zW
    have hbz := hbr.size
    have hgl := hO.lt
    obtain ⟨hC, hck⟩ := hC.out
    have hxx := cok_iff.1 hck
    have g0 : wr.cell? ⟨w.heap.size, 0, none⟩ = some (.int .i64 x) := hO.cell 0
    have g1 : wr.cell? ⟨w.heap.size, 1, none⟩ = some (.int .i64 y) := hO.cell 1
    by_cases hlt : k < l.length
    · have hke := List.getElem?_eq_getElem hlt
      generalize l[k] = p at hke
      obtain ⟨t, r⟩ := p
      obtain ⟨ad, rfl, hal, hab, c0, c1⟩ := (hv0.below hbr).at hke
      dsimp only at c0 c1
      have i2 : (0 : Int) ≤ (k : Int) := by omega
      have i3 : (k : Int) < (l.length : Int) := by omega
      have hRr := pInst_any r
      have hRt := pInst_any t
      cases h1 : inst r
      · have hE : R = 6 := by rw [← hC]; exact chk_range hke (by rw [h1]; rfl)
        subst hE
        clear hC hke
        rw [h1] at hRr
        go_wp2_with (go_at_call 29; refine (hRr _).mono ?_; rintro e w1 ⟨rfl, hb⟩; obtain ⟨hc, hf⟩ := bcell hb; have hz := hb.size; (try simp only [World.size_alloc] at hz); have hz0 : wr.heap.size < w1.heap.size := (by omega))
        go_ret
        refine ⟨rfl, hbr.trans ?_⟩
        (repeat' (first | (with_reducible exact Below.refl _ _) | (with_reducible assumption) | (with_reducible refine Below.alloc ?_ ?_ _) | (with_reducible refine Below.drew ?_) | (with_reducible refine Below.setCell ?_ ?_ _) | (with_reducible refine Below.trans ?_ (Below.mono (by assumption) ?_)) | go_size))
      rw [h1] at hRr
      cases h2 : inst t
      · have hE : R = 6 := by rw [← hC]; exact chk_range hke (by rw [h1, h2]; rfl)
        subst hE
        clear hC hke
        rw [h2] at hRt
        go_wp2_with fail
        refine (hRr _).mono ?_
        rintro e w2 ⟨rfl, hb2⟩
        have z2 := hb2.size
        simp only [World.size_alloc] at z2
        have c2 : w2.cell? ⟨wr.heap.size, 0, none⟩ = some (.int .i64 t) := (hb2.cell (p := ⟨wr.heap.size, 0, none⟩) (by simp)).trans ((Own.new wr 34 #[.int .i64 t, .int .i64 r]).cell 0)
        go_wp2_with (go_at_call 29; refine (hRt _).mono ?_; rintro e w1 ⟨rfl, hb⟩; obtain ⟨hc, hf⟩ := bcell hb; have hz := hb.size; (try simp only [World.size_alloc] at hz); have hz0 : wr.heap.size < w1.heap.size := (by omega))
        go_ret
        refine ⟨rfl, hbr.trans ?_⟩
        (repeat' (first | (with_reducible exact Below.refl _ _) | (with_reducible assumption) | (with_reducible refine Below.alloc ?_ ?_ _) | (with_reducible refine Below.drew ?_) | (with_reducible refine Below.setCell ?_ ?_ _) | (with_reducible refine Below.trans ?_ (Below.mono (by assumption) ?_)) | go_size))
      · rw [h2] at hRt
        have h12 : (inst r && inst t) = true := by rw [h1, h2]; rfl
        have hti := inst_iff.1 h2
        have hri := inst_iff.1 h1
        have hoS := Own.new wr 34 #[.int .i64 t, .int .i64 r]
        have hoC := hO.alloc (.cells #[.int .i64 t, .int .i64 r] 34)
        go_wp2_with fail
        refine (hRr _).mono ?_
        rintro e w2 ⟨rfl, hb2⟩
        have z2 := hb2.size
        simp only [World.size_alloc] at z2
        have oS2 := hoS.below hb2 (by simp)
        have oC2 := hoC.below hb2 (by simp; omega)
        clear hoS hoC
        have c2 : w2.cell? ⟨wr.heap.size, 0, none⟩ = some (.int .i64 t) := oS2.cell 0
        go_wp2_with fail
        refine (hRt _).mono ?_
        rintro e w3 ⟨rfl, hb3⟩
        have z3 := hb3.size
        have oS3 := oS2.below hb3 (by omega)
        have oC3 := oC2.below hb3 (by omega)
        have B3 : Below w.heap.size wr w3 := (((Below.refl _ _).alloc (by omega) _).trans (hb2.mono (by simp; omega))).trans (hb3.mono (by omega))
        clear oS2 oC2 c2 c0 c1 g0 g1 hb2 hb3
        have c2 : w3.cell? ⟨wr.heap.size, 0, none⟩ = some (.int .i64 t) := oS3.cell 0
        have c3 : w3.cell? ⟨wr.heap.size, 1, none⟩ = some (.int .i64 r) := oS3.cell 1
        have g0 : w3.cell? ⟨w.heap.size, 0, none⟩ = some (.int .i64 x) := oC3.cell 0
        have g1 : w3.cell? ⟨w.heap.size, 1, none⟩ = some (.int .i64 y) := oC3.cell 1
        by_cases h3 : t ≤ x
        · have hE : R = 9 := by rw [← hC]; exact chk_order hke h12 h3
          subst hE
          clear hC hke h12 h2
          go_wp2
          go_ret
          exact ⟨rfl, hbr.trans B3⟩
        have hn := pNext_any x y r
        have hn0 : nxE x y r = 0 := nxE_zero.2 ⟨hck, h1, inst_iff.2 (by unfold nxT; omega)⟩
        rw [nxV_ok hn0] at hn
        clear hn0
        have hN := fun h => Lib.hid (show R = 8 by rw [← hC]; exact chk_inv hke h12 h3 h)
        have hY := fun h => Lib.hid ((chk_step hke h12 h3 h).symm.trans hC)
        have hck' : cok (nxT x r) r = true := cok_next hck h1 (inst_iff.2 (by unfold nxT; omega))
        have HCK := Lib.hid hck'
        clear hck'
        generalize hnx : nxT x r = nx at hn hN hY HCK
        clear hnx hC hke h12 h2
        go_wp2_with fail
        refine (hn _).mono ?_
        rintro e w4 ⟨rfl, hb4⟩
        have z4 := hb4.size
        have oS4 := oS3.below hb4 (by omega)
        have oC4 := oC3.below hb4 (by omega)
        have B4 := B3.trans (hb4.mono (by omega))
        clear oS3 oC3 hb4 B3 c2 c3 g0 g1
        have oN4 := Own.new w4 23 #[.int .i64 nx, .int .i64 r]
        have oS5 := oS4.alloc (.cells #[.int .i64 nx, .int .i64 r] 23)
        have oC5 := oC4.alloc (.cells #[.int .i64 nx, .int .i64 r] 23)
        have B5 : Below w.heap.size wr (w4.alloc (.cells #[.int .i64 nx, .int .i64 r] 23)) := B4.alloc (by omega) _
        have z5 : (w4.alloc (.cells #[.int .i64 nx, .int .i64 r] 23)).heap.size = w4.heap.size + 1 := by simp
        clear oS4 oC4 B4
        go_wp2
        generalize w4.alloc (.cells #[.int .i64 nx, .int .i64 r] 23) = W5 at *
        have f0 : ∀ p : After W5, p.w.cell? ⟨wr.heap.size, 0, none⟩ = some (.int .i64 t) := after_cell oS5.lt (oS5.cell 0)
        have f1 : ∀ p : After W5, p.w.cell? ⟨wr.heap.size, 1, none⟩ = some (.int .i64 r) := after_cell oS5.lt (oS5.cell 1)
        have f2 : ∀ p : After W5, p.w.cell? ⟨w4.heap.size, 0, none⟩ = some (.int .i64 nx) := after_cell oN4.lt (oN4.cell 0)
        have f3 : ∀ p : After W5, p.w.cell? ⟨w4.heap.size, 1, none⟩ = some (.int .i64 r) := after_cell oN4.lt (oN4.cell 1)
        by_cases h4 : t ≠ nx
        · have hE := (hN h4).out
          subst hE
          clear hN hY
          have h5 : (t == nx) = false := by simpa using h4
          (refine wp_region_after (by kernel_rfl) (by kernel_rfl) ?_; (repeat (go_big_quiet_step ((go_at_call 32; exact calls_after (pStamp_any _ _ _))))); refine wpQuiet_nil ?_; intro wq hw0; obtain ⟨⟨wq0, hbq⟩, hw1⟩ := hw0; subst hw1; (try dsimp only))
          go_wp2
          go_ret
          exact ⟨rfl, hbr.trans (B5.trans (hbq.mono (by omega)))⟩
        · have hS := hY h4
          have h4 : t = nx := Classical.not_not.1 h4
          subst h4
          clear hN hY
          have h5 : (t == t) = true := by simp
          have h6 : (r == r) = true := by simp
          (refine wp_region_after (by kernel_rfl) (by kernel_rfl) ?_; (repeat (go_big_quiet_step ((go_at_call 32; exact calls_after (pStamp_any _ _ _))))); refine wpQuiet_nil ?_; intro wq hw0; obtain ⟨⟨wq0, hbq⟩, hw1⟩ := hw0; subst hw1; (try dsimp only))
          have zq := hbq.size
          have oCq := oC5.below hbq oC5.lt
          have oNq := oN4.below hbq oN4.lt
          have Bq := B5.trans (hbq.mono (by omega))
          clear f0 f1 f2 f3
          have c2 : wq.cell? ⟨w4.heap.size, 0, none⟩ = some (.int .i64 t) := oNq.cell 0
          have c3 : wq.cell? ⟨w4.heap.size, 1, none⟩ = some (.int .i64 r) := oNq.cell 1
          have g0 : wq.cell? ⟨w.heap.size, 0, none⟩ = some (.int .i64 x) := oCq.cell 0
          have g1 : wq.cell? ⟨w.heap.size, 1, none⟩ = some (.int .i64 y) := oCq.cell 1
          have e0 := oCq.free 0
          have e1 := oCq.free 1
          go_wp2
          go_roundw
          case rel => exact ⟨k + 1, t, r, by omega, by go_num, (oCq.store 0 _).store 1 _, Lib.hid ⟨hS.out, HCK.out⟩, hbr.trans (by (repeat' (first | (with_reducible exact Below.refl _ _) | (with_reducible assumption) | (with_reducible refine Below.alloc ?_ ?_ _) | (with_reducible refine Below.drew ?_) | (with_reducible refine Below.setCell ?_ ?_ _) | (with_reducible refine Below.trans ?_ (Below.mono (by assumption) ?_)) | go_size)))⟩
          case measure => simp [intOf]; omega
    · have hE : R = 0 := by rw [← hC]; exact chk_end (by omega)
      subst hE
      have hd : ¬ (k : Int) < l.length := by omega
      go_wp2
      go_ret
      exact ⟨rfl, hbr⟩
end Go.Proofs.Ytonhlejeedhpiaa
