import Derived.Test.YtnbeopkpkagjmaaGreatRB
import Derived.WalkKit
import Derived.WalkSpells
import Derived.WalkLawsBesides
import Derived.Deep.QuietTactic
import Derived.BigQuiet
import Derived.Handy
import Derived.Lib.Hide
/-
  Contracts over lists of rectangles: Contains and Same of the reference. Conditions: none.
-/
namespace Go.Proofs.YtnbeopkpkagjmaaGreat
set_option maxRecDepth 100000
set_option linter.unusedVariables false
set_option linter.unusedSimpArgs false
open Go.RowKit

theorem memR_snd (r : Rc) (v s : Int) : (sndR r && cnt r.1.1 r.1.2 v && cnt r.2.1 r.2.2 s) = (cnt r.1.1 r.1.2 v && cnt r.2.1 r.2.2 s) := by
  cases h1 : cnt r.1.1 r.1.2 v
  · simp
  · cases h2 : cnt r.2.1 r.2.2 s
    · simp
    · unfold sndR; rw [cnt_vld h1, cnt_vld h2]; rfl
theorem memR_drop {l : List Rc} {k : Nat} {r : Rc} (h : l[k]? = some r) (v s : Int) : memR (l.drop k) v s = ((sndR r && cnt r.1.1 r.1.2 v && cnt r.2.1 r.2.2 s) || memR (l.drop (k + 1)) v s) := by
  obtain ⟨h1, rfl⟩ := List.getElem?_eq_some_iff.1 h
  rw [List.drop_eq_getElem_cons h1, memR_cons, memR_snd]
set_option maxRecDepth 100000 in
set_option maxHeartbeats 3200000 in
theorem rMemR_any (v : Value) (l : List Rc) (x s : Int) (w : World) (L : Nat) (hv : RdR w L w.heap.size v l) :
    Calls Tryz.prog 10 #[v, .int .i64 x, .int .i64 s] w fun e w' => e = .returned (.bool (memR l x s)) ∧ Below w.heap.size w w' := by
  have hv0 := hv
  obtain ⟨A, c, rfl, hl, _⟩ := hv
  go_enter Tryz.func10, Tryz.ntmps10
  go_wp2
  go_loopw [7] (fun i wr => ∃ k : Nat, k ≤ l.length ∧ i = .int .i64 k ∧ Hid (memR l x s = memR (l.drop k) x s) ∧ Below w.heap.size w wr) (fun i _ => l.length - (intOf i).toNat)
  case atStart => exact ⟨0, by omega, rfl, Lib.hid rfl, Below.refl _ _⟩
  case round =>
    obtain ⟨k, hk, rfl, hT, hbr⟩ := hrel
    have hbz := hbr.size
    by_cases hlt : k < l.length
    · have hx := List.getElem?_eq_getElem hlt
      generalize l[k] = r at hx
      obtain ⟨⟨a, b⟩, p, q⟩ := r
      have hS := hT.out.trans (memR_drop hx x s)
      have i2 : (0 : Int) ≤ (k : Int) := by omega
      have i3 : (k : Int) < (l.length : Int) := by omega
      obtain ⟨ad, rfl, _, hab, hc⟩ := (hv0.below hbr).at hx
      obtain ⟨f0, f1, f2, f3⟩ := hc.after (W := wr) (by omega)
      dsimp only at f0 f1 f2 f3 hS
      have c0 := f0 ⟨wr, Below.refl _ _⟩
      have c1 := f1 ⟨wr, Below.refl _ _⟩
      have c2 := f2 ⟨wr, Below.refl _ _⟩
      have c3 := f3 ⟨wr, Below.refl _ _⟩
      have hM1 := fun W => sound_any a b p q W
      have hM2 := fun W => rcontains_any a b x W
      have hM3 := fun W => rcontains_any p q s W
      generalize sndR ((a, b), (p, q)) = S at *
      generalize cnt a b x = X at *
      generalize cnt p q s = Y at *
      clear hx hT hc
      go_wp2_with fail
      refine (hM1 _).mono ?_
      rintro e w1 ⟨rfl, hb1⟩
      have d0 := f0 ⟨w1, hb1⟩
      have d1 := f1 ⟨w1, hb1⟩
      cases S
      · have HS := Lib.hid (by simpa using hS : memR l x s = memR (l.drop (k + 1)) x s)
        clear hS
        go_wp2
        go_roundw
        case rel => exact ⟨k + 1, by omega, by go_num, HS, hbr.trans (hb1.mono hbz)⟩
        case measure => simp [intOf]; omega
      · go_wp2_with fail
        refine (hM2 _).mono ?_
        rintro e w2 ⟨rfl, hb2⟩
        have b2 := hb1.trans (hb2.mono hb1.size)
        have d2 := f2 ⟨w2, b2⟩
        have d3 := f3 ⟨w2, b2⟩
        cases X
        · have HS := Lib.hid (by simpa using hS : memR l x s = memR (l.drop (k + 1)) x s)
          clear hS
          go_wp2
          go_roundw
          case rel => exact ⟨k + 1, by omega, by go_num, HS, hbr.trans (b2.mono hbz)⟩
          case measure => simp [intOf]; omega
        · go_wp2_with fail
          refine (hM3 _).mono ?_
          rintro e w3 ⟨rfl, hb3⟩
          have b3 := b2.trans (hb3.mono b2.size)
          cases Y
          · have HS := Lib.hid (by simpa using hS : memR l x s = memR (l.drop (k + 1)) x s)
            clear hS
            go_wp2
            go_roundw
            case rel => exact ⟨k + 1, by omega, by go_num, HS, hbr.trans (b3.mono hbz)⟩
            case measure => simp [intOf]; omega
          · have HS := Lib.hid (by simpa using hS : memR l x s = true)
            clear hS
            go_wp2
            go_ret
            exact ⟨by rw [HS.out]; rfl, hbr.trans (b3.mono hbz)⟩
    · have hd : ¬ (k : Int) < l.length := by omega
      have HX := Lib.hid (by rw [hT.out, List.drop_eq_nil_of_le (by omega)]; rfl : memR l x s = false)
      go_wp2
      go_ret
      exact ⟨by rw [HX.out]; rfl, hbr⟩
set_option maxRecDepth 100000 in
set_option maxHeartbeats 3200000 in
theorem sameR_any (u v : Value) (l m : List Rc) (w : World) (L L' : Nat) (hu : RdR w L w.heap.size u l) (hv : RdR w L' w.heap.size v m) :
    Calls Tryz.prog 17 #[u, v] w fun e w' => e = .returned (.bool (decide (l = m))) ∧ Below w.heap.size w w' := by
  have hu0 := hu
  have hv0 := hv
  obtain ⟨A, c, rfl, hl, _⟩ := hu
  obtain ⟨A2, c2, rfl, hl2, _⟩ := hv
  by_cases he : l.length = m.length
  · have hne : ((l.length : Int) != (m.length : Int)) = false := by simp; omega
    have HE := Lib.hid he
    clear he
    go_enter Tryz.func17, Tryz.ntmps17
    go_wp2
    go_loopw [5] (fun i wr => ∃ k : Nat, k ≤ l.length ∧ i = .int .i64 k ∧ Hid (l.take k = m.take k) ∧ Below w.heap.size w wr) (fun i _ => l.length - (intOf i).toNat)
    case atStart => exact ⟨0, by omega, rfl, Lib.hid rfl, Below.refl _ _⟩
    case round =>
      obtain ⟨k, hk, rfl, hT, hbr⟩ := hrel
      have hbz := hbr.size
      by_cases hlt : k < l.length
      · have hlt2 : k < m.length := by have := HE.out; omega
        have hx := List.getElem?_eq_getElem hlt
        have hy := List.getElem?_eq_getElem hlt2
        generalize l[k] = x at hx
        generalize m[k] = y at hy
        have i2 : (0 : Int) ≤ (k : Int) := by omega
        have i3 : (k : Int) < (l.length : Int) := by omega
        have i4 : (k : Int) < (m.length : Int) := by omega
        obtain ⟨⟨x1, x2⟩, x3, x4⟩ := x
        obtain ⟨⟨y1, y2⟩, y3, y4⟩ := y
        obtain ⟨ad, rfl, _, hab, hc⟩ := (hu0.below hbr).at hx
        obtain ⟨ad2, rfl, _, hab2, hc2⟩ := (hv0.below hbr).at hy
        obtain ⟨f0, f1, f2, f3⟩ := hc.after (W := wr) (by omega)
        obtain ⟨g0, g1, g2, g3⟩ := hc2.after (W := wr) (by omega)
        dsimp only at f0 f1 f2 f3 g0 g1 g2 g3
        clear hc hc2
        by_cases hxy : (((x1, x2), (x3, x4)) : Rc) = ((y1, y2), (y3, y4))
        · have HS := Lib.hid (take_eq_step hT.out hx (by rw [hy, hxy]))
          injection hxy with e1 e2
          injection e1 with e3 e4
          injection e2 with e5 e6
          subst e3 e4 e5 e6
          have hb1 : (x1 == x1) = true := by simp
          have hb2 : (x2 == x2) = true := by simp
          have hb3 : (x3 == x3) = true := by simp
          have hb4 : (x4 == x4) = true := by simp
          clear hx hy
          go_wp2
          (refine wp_region_after (by kernel_rfl) (by kernel_rfl) ?_; (repeat (go_big_quiet_step (fail))); refine wpQuiet_nil ?_; intro wq hw0; obtain ⟨⟨wq0, hbq⟩, hw1⟩ := hw0; subst hw1; (try dsimp only))
          go_wp2
          go_roundw
          case rel => exact ⟨k + 1, by omega, by go_num, HS, hbr.trans (hbq.mono hbz)⟩
          case measure => simp [intOf]; omega
        · have HD := Lib.hid (ne_of_at hx hy hxy)
          have hE : (x1 == y1 && (x2 == y2 && (x3 == y3 && x4 == y4))) = false := by
            rw [Bool.eq_false_iff]; intro h
            simp only [Bool.and_eq_true, beq_iff_eq] at h
            exact hxy (by rw [h.1, h.2.1, h.2.2.1, h.2.2.2])
          clear hx hy hxy
          generalize hE1 : (x1 == y1) = B1 at hE
          generalize hE2 : (x2 == y2) = B2 at hE
          generalize hE3 : (x3 == y3) = B3 at hE
          generalize hE4 : (x4 == y4) = B4 at hE
          cases B1 <;> cases B2 <;> cases B3 <;> cases B4
          all_goals first | (exfalso; revert hE; decide) | skip
          all_goals
            clear hE
            go_wp2
            (refine wp_region_after (by kernel_rfl) (by kernel_rfl) ?_; (repeat (go_big_quiet_step (fail))); refine wpQuiet_nil ?_; intro wq hw0; obtain ⟨⟨wq0, hbq⟩, hw1⟩ := hw0; subst hw1; (try dsimp only))
            go_wp2
            go_ret
            exact ⟨by rw [decide_eq_false HD.out]; rfl, hbr.trans (hbq.mono hbz)⟩
      · have hd : ¬ (k : Int) < l.length := by omega
        have hE := take_eq_all hT.out (by omega) (by have := HE.out; omega)
        have HX := Lib.hid hE
        clear hE
        go_wp2
        go_ret
        exact ⟨by rw [decide_eq_true HX.out]; rfl, hbr⟩
  · have hne : ((l.length : Int) != (m.length : Int)) = true := by simp; omega
    have HD : Hid (¬ l = m) := Lib.hid (fun h => he (by rw [h]))
    go_enter Tryz.func17, Tryz.ntmps17
    go_wp2
    go_ret
    exact ⟨by rw [decide_eq_false HD.out]; rfl, Below.refl _ _⟩
end Go.Proofs.YtnbeopkpkagjmaaGreat
