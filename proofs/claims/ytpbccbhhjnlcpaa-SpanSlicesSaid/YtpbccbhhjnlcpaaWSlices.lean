/-
  The walk of the statement SpanSlices. Conditions: the list is read anywhere below the heap's end.
-/
import Derived.Test.YtpbccbhhjnlcpaaAwkS
import Derived.Test.YtpbccbhhjnlcpaaValS
import Derived.WalkKit
import Derived.WalkSpells
import Derived.WalkLawsBesides
import Derived.Deep.QuietTactic
import Derived.BigQuiet
import Derived.Handy
import Derived.Lib.Hide
namespace Go.Proofs.Ytpbccbhhjnlcpaa
open Go.RowKit

theorem elem_consec (g : Int → Bool) : ∀ {P : List Int}, P.Pairwise (· < ·) → ∀ p ∈ elem g P, p.1 ∈ P ∧ p.2 ∈ P ∧ ∀ z ∈ P, z ≤ p.1 ∨ p.2 ≤ z
  | [], _, p, hp => by simp [elem] at hp
  | [_], _, p, hp => by simp [elem] at hp
  | x :: y :: r, hs, p, hp => by
    have h0 := List.pairwise_cons.1 hs
    rw [elem_two, List.mem_append] at hp
    rcases hp with hp | hp
    · have hp' : p = (x, y) := by
        by_cases hg : g x = true
        · rw [if_pos hg] at hp; exact List.mem_singleton.1 hp
        · rw [if_neg hg] at hp; cases hp
      subst hp'
      refine ⟨by simp, by simp, fun z hz => ?_⟩
      have h1 := List.pairwise_cons.1 h0.2
      rcases List.mem_cons.1 hz with rfl | hz
      · left; exact Int.le_refl _
      · rcases List.mem_cons.1 hz with rfl | hz
        · right; exact Int.le_refl _
        · right; have := h1.1 z hz; show y ≤ z; omega
    · obtain ⟨a, b, c⟩ := elem_consec g h0.2 p hp
      refine ⟨List.mem_cons_of_mem _ a, List.mem_cons_of_mem _ b, fun z hz => ?_⟩
      rcases List.mem_cons.1 hz with rfl | hz
      · left; have := h0.1 _ a; omega
      · exact c z hz
theorem slices_cov {l : List (Int × Int)} {p q : Int × Int} (hp : p ∈ elem (memL l) (pts l)) (hq : q ∈ l) (h : ovl p.1 p.2 q.1 q.2 = true) : cvr q.1 q.2 p.1 p.2 = true := by
  unfold ovl at h
  unfold cvr
  simp only [Bool.and_eq_true, decide_eq_true_eq] at h ⊢
  obtain ⟨_, _, hc⟩ := elem_consec (memL l) (pts_sorted l) p hp
  have h1 := hc q.1 ((pts_mem l _).2 ⟨q, hq, h.1.1.2, .inl rfl⟩)
  have h2 := hc q.2 ((pts_mem l _).2 ⟨q, hq, h.1.1.2, .inr rfl⟩)
  refine ⟨⟨⟨h.1.1.2, h.1.1.1⟩, ?_⟩, ?_⟩ <;> omega
theorem slices_asc (l : List (Int × Int)) : ascB (-1) (elem (memL l) (pts l)) = true ∧ ∀ t, memL (elem (memL l) (pts l)) t = memL l t := by
  have h := elem_comb (f := fA) rfl l []
  rw [List.append_nil] at h
  exact h
theorem slices_of (l : List (Int × Int)) : ofL (elem (memL l) (pts l)) = ofL l := comb_ext rfl rfl fun t => (slices_asc l).2 t
theorem asc_at : ∀ {z : Int} {l : List (Int × Int)} {k : Nat} {p : Int × Int}, ascB z l = true → l[k]? = some p → vld p.1 p.2 = true
  | _, [], _, _, _, h => by simp at h
  | z, q :: l, 0, p, h, hk => by
    simp only [ascB, Bool.and_eq_true] at h
    simp at hk; subst hk; exact h.1.2
  | z, q :: l, k + 1, p, h, hk => by
    simp only [ascB, Bool.and_eq_true] at h
    exact asc_at h.2 (by simpa using hk)
theorem asc_two : ∀ {z : Int} {l : List (Int × Int)} {k : Nat} {p q : Int × Int}, ascB z l = true → l[k]? = some p → l[k + 1]? = some q → p.2 ≤ q.1
  | _, [], _, _, _, _, h, _ => by simp at h
  | z, a :: l, 0, p, q, h, hk, hq => by
    simp only [ascB, Bool.and_eq_true] at h
    simp at hk; subst hk
    match l, hq, h with
    | b :: l, hq, h =>
      simp at hq; subst hq
      simp only [ascB, Bool.and_eq_true, decide_eq_true_eq] at h
      exact h.2.1.1
  | z, a :: l, k + 1, p, q, h, hk, hq => by
    simp only [ascB, Bool.and_eq_true] at h
    exact asc_two h.2 (k := k) (by simpa using hk) (by simpa using hq)
/-- What the walk wants of the slices S of l. -/
structure SlFacts (S l : List (Int × Int)) : Prop where
  at' : ∀ (k : Nat) (p : Int × Int), S[k]? = some p → vld p.1 p.2 = true
  two : ∀ (k : Nat) (p q : Int × Int), S[k]? = some p → S[k + 1]? = some q → p.2 ≤ q.1
  cov : ∀ (k j : Nat) (p q : Int × Int), S[k]? = some p → l[j]? = some q → ovl p.1 p.2 q.1 q.2 = true → cvr q.1 q.2 p.1 p.2 = true
  of' : ofL S = ofL l
  len : S.length ≤ 2 * l.length
theorem slFacts (l : List (Int × Int)) : SlFacts (elem (memL l) (pts l)) l where
  at' _ _ h := asc_at (slices_asc l).1 h
  two _ _ _ h h' := asc_two (slices_asc l).1 h h'
  cov _ _ _ _ h h' h2 := slices_cov (List.mem_of_getElem? h) (List.mem_of_getElem? h') h2
  of' := slices_of l
  len := Nat.le_trans (elem_len _ _) (pts_len l)

theorem rvalid_as {a b : Int} {r : Bool} (h : vld a b = r) (w : World) :
    Calls Try.prog 37 #[.agg #[.int .i64 a, .int .i64 b]] w fun e w' => e = .returned (.bool r) ∧ Below w.heap.size w w' := by
  subst h; exact rvalid_any a b w
theorem roverlaps_as {a b c d : Int} {r : Bool} (h : ovl a b c d = r) (w : World) :
    Calls Try.prog 38 #[.agg #[.int .i64 a, .int .i64 b], .agg #[.int .i64 c, .int .i64 d]] w fun e w' => e = .returned (.bool r) ∧ Below w.heap.size w w' := by
  subst h; exact roverlaps_any a b c d w
theorem rcovers_as {a b c d : Int} {r : Bool} (h : cvr a b c d = r) (w : World) :
    Calls Try.prog 39 #[.agg #[.int .i64 a, .int .i64 b], .agg #[.int .i64 c, .int .i64 d]] w fun e w' => e = .returned (.bool r) ∧ Below w.heap.size w w' := by
  subst h; exact rcovers_any a b c d w

set_option maxRecDepth 100000 in
set_option maxHeartbeats 6400000 in
theorem law_slices (vl : Value) (l : List (Int × Int)) (w : World) (Ll : Nat) (hvl : RdP w Ll w.heap.size vl l) :
    Calls Try.prog 9 #[vl] w fun e w' => e = .returned (.bool true) ∧ Below w.heap.size w w' := by
  have Hl := Lib.hid hvl
  obtain ⟨Al, cl, rfl, _, _⟩ := hvl
  by_cases hbigl : (l.length : Int) > 30
  · have hbdl : decide ((l.length : Int) > 30) = true := by simp; omega
    go_enter Try.func9, Try.ntmps9
    go_wp2_with fail
    refine (awake_any _).mono ?_
    rintro e w1 ⟨rfl, hb1⟩
    go_wp2
    go_ret
    exact ⟨rfl, hb1⟩
  have hll : l.length ≤ 30 := by omega
  have hbdl : decide ((l.length : Int) > 30) = false := by simp; omega
  go_enter Try.func9, Try.ntmps9
  go_wp2_with fail
  have hx1 := sSlices_any _ l _ _ Hl.out (by omega)
  refine hx1.mono ?_
  rintro e w1 ⟨v1, rfl, hr1, hb1⟩
  clear hx1
  replace Hl := Lib.hid (Hl.out.step hb1 (Nat.le_refl _))
  have Bw1 := hb1
  have Zw1 := Bw1.size
  have H1 := Lib.hid hr1
  clear hr1
  clear hb1
  have HF := Lib.hid (slFacts l)
  generalize elem (memL l) (pts l) = S at *
  obtain ⟨AS, cS, rfl, hSl, _⟩ := H1.out
  have hSn := HF.out.len
  go_wp2
  go_loopw [4] (fun i wr => ∃ k : Nat, k ≤ S.length ∧ i = .int .i64 k ∧ Below w1.heap.size w1 wr) (fun i _ => S.length - (intOf i).toNat)
  case atStart => exact ⟨0, by omega, rfl, Below.refl _ _⟩
  case round =>
    obtain ⟨k, hk, rfl, hbr⟩ := hrel
    have hbz := hbr.size
    by_cases hlt : k < S.length
    · have hx := List.getElem?_eq_getElem hlt
      generalize S[k] = p at hx
      obtain ⟨x, y⟩ := p
      obtain ⟨ad, e0, _, hab, c0, c1⟩ := (H1.out.below hbr).at hx
      subst e0
      dsimp only at c0 c1
      have f0 : ∀ p : After wr, p.w.cell? (ad.add (k * 2)) = some (.int .i64 x) := after_cell (by rw [add_block]; omega) c0
      have f1 : ∀ p : After wr, p.w.cell? ⟨(ad.add (k * 2)).block, (ad.add (k * 2)).off + 1, none⟩ = some (.int .i64 y) := after_cell (by show (ad.add (k * 2)).block < _; rw [add_block]; omega) c1
      have hV := HF.out.at' k _ hx
      dsimp only at hV
      clear c0 c1
      by_cases h0k : 0 < k
      · obtain ⟨j, q, rfl, hq⟩ := take_pos h0k hlt
        obtain ⟨a', b'⟩ := q
        obtain ⟨_, e1, _, _, r0, r1⟩ := (H1.out.below hbr).at hq
        injection e1 with e1
        subst e1
        dsimp only at r0 r1
        have FX : ∀ p : After wr, p.w.cell? ⟨(ad.add (j * 2)).block, (ad.add (j * 2)).off + 1, none⟩ = some (.int .i64 b') := after_cell (by show (ad.add (j * 2)).block < _; rw [add_block]; omega) r1
        have hT := HF.out.two j _ _ hq hx
        dsimp only at hT
        have hd : decide (b' > x) = false := by simp; omega
        clear r0 r1
        go_wp2
        (refine wp_region_after (by kernel_rfl) (by kernel_rfl) ?_; (repeat (go_big_quiet_step ((go_at_call 37; exact calls_after (rvalid_as hV _))))); refine wpQuiet_nil ?_; intro wq hw0; obtain ⟨⟨wq0, hbq⟩, hw1⟩ := hw0; subst hw1; (try dsimp only))
        go_wp2
        go_loopw [5] (fun i wi => ∃ m : Nat, m ≤ l.length ∧ i = .int .i64 m ∧ Below w1.heap.size w1 wi) (fun i _ => l.length - (intOf i).toNat)
        case atStart => exact ⟨0, by omega, rfl, hbr.trans (hbq.mono hbz)⟩
        case round =>
          clear f0 f1 FX hbr hbz hbq
          obtain ⟨m, hm, rfl, hbr⟩ := hrel
          have hbz := hbr.size
          by_cases hmt : m < l.length
          · have hy := List.getElem?_eq_getElem hmt
            generalize l[m] = q at hy
            obtain ⟨a, b⟩ := q
            obtain ⟨ad', e1, _, hab', c0, c1⟩ := (H1.out.below hbr).at hx
            injection e1 with e1
            subst e1
            dsimp only at c0 c1
            obtain ⟨al, e2, _, hal, d0, d1⟩ := (Hl.out.below hbr).at hy
            subst e2
            dsimp only at d0 d1
            have f0 : ∀ p : After wr, p.w.cell? (ad.add ((j + 1) * 2)) = some (.int .i64 x) := after_cell (by rw [add_block]; omega) c0
            have f1 : ∀ p : After wr, p.w.cell? ⟨(ad.add ((j + 1) * 2)).block, (ad.add ((j + 1) * 2)).off + 1, none⟩ = some (.int .i64 y) := after_cell (by show (ad.add ((j + 1) * 2)).block < _; rw [add_block]; omega) c1
            have g0 : ∀ p : After wr, p.w.cell? (al.add (m * 2)) = some (.int .i64 a) := after_cell (by rw [add_block]; omega) d0
            have g1 : ∀ p : After wr, p.w.cell? ⟨(al.add (m * 2)).block, (al.add (m * 2)).off + 1, none⟩ = some (.int .i64 b) := after_cell (by show (al.add (m * 2)).block < _; rw [add_block]; omega) d1
            have HC := HF.out.cov _ m _ _ hx hy
            dsimp only at HC
            clear c0 c1 d0 d1
            cases hO : ovl x y a b
            · clear HC
              go_wp2
              (refine wp_region_after (by kernel_rfl) (by kernel_rfl) ?_; (repeat (go_big_quiet_step (first | (go_at_call 38; exact calls_after (roverlaps_as hO _)) | (go_at_call 39; exact calls_after (rcovers_any _ _ _ _ _))))); refine wpQuiet_nil ?_; intro wq hw0; obtain ⟨⟨wq0, hbq⟩, hw1⟩ := hw0; subst hw1; (try dsimp only))
              go_wp2
              go_roundw
              case rel => exact ⟨m + 1, by omega, by go_num, hbr.trans (hbq.mono hbz)⟩
              case measure => simp [intOf]; omega
            · have hC := HC hO
              clear HC
              go_wp2
              (refine wp_region_after (by kernel_rfl) (by kernel_rfl) ?_; (repeat (go_big_quiet_step (first | (go_at_call 38; exact calls_after (roverlaps_as hO _)) | (go_at_call 39; exact calls_after (rcovers_as hC _))))); refine wpQuiet_nil ?_; intro wq hw0; obtain ⟨⟨wq0, hbq⟩, hw1⟩ := hw0; subst hw1; (try dsimp only))
              go_wp2
              go_roundw
              case rel => exact ⟨m + 1, by omega, by go_num, hbr.trans (hbq.mono hbz)⟩
              case measure => simp [intOf]; omega
          · have hml : m = l.length := by omega
            subst hml
            go_wp2
            go_roundw
            case rel => exact ⟨(j + 1) + 1, by omega, by go_num, hbr⟩
            case measure => simp [intOf]; omega
      · have FX : True := trivial
        have hk1 : ¬ (k : Int) > 0 := by omega
        have hk2 : decide ((k : Int) > 0) = false := by simp; omega
        go_wp2
        (refine wp_region_after (by kernel_rfl) (by kernel_rfl) ?_; (repeat (go_big_quiet_step ((go_at_call 37; exact calls_after (rvalid_as hV _))))); refine wpQuiet_nil ?_; intro wq hw0; obtain ⟨⟨wq0, hbq⟩, hw1⟩ := hw0; subst hw1; (try dsimp only))
        go_wp2
        go_loopw [5] (fun i wi => ∃ m : Nat, m ≤ l.length ∧ i = .int .i64 m ∧ Below w1.heap.size w1 wi) (fun i _ => l.length - (intOf i).toNat)
        case atStart => exact ⟨0, by omega, rfl, hbr.trans (hbq.mono hbz)⟩
        case round =>
          clear f0 f1 FX hbr hbz hbq
          obtain ⟨m, hm, rfl, hbr⟩ := hrel
          have hbz := hbr.size
          by_cases hmt : m < l.length
          · have hy := List.getElem?_eq_getElem hmt
            generalize l[m] = q at hy
            obtain ⟨a, b⟩ := q
            obtain ⟨ad', e1, _, hab', c0, c1⟩ := (H1.out.below hbr).at hx
            injection e1 with e1
            subst e1
            dsimp only at c0 c1
            obtain ⟨al, e2, _, hal, d0, d1⟩ := (Hl.out.below hbr).at hy
            subst e2
            dsimp only at d0 d1
            have f0 : ∀ p : After wr, p.w.cell? (ad.add (k * 2)) = some (.int .i64 x) := after_cell (by rw [add_block]; omega) c0
            have f1 : ∀ p : After wr, p.w.cell? ⟨(ad.add (k * 2)).block, (ad.add (k * 2)).off + 1, none⟩ = some (.int .i64 y) := after_cell (by show (ad.add (k * 2)).block < _; rw [add_block]; omega) c1
            have g0 : ∀ p : After wr, p.w.cell? (al.add (m * 2)) = some (.int .i64 a) := after_cell (by rw [add_block]; omega) d0
            have g1 : ∀ p : After wr, p.w.cell? ⟨(al.add (m * 2)).block, (al.add (m * 2)).off + 1, none⟩ = some (.int .i64 b) := after_cell (by show (al.add (m * 2)).block < _; rw [add_block]; omega) d1
            have HC := HF.out.cov _ m _ _ hx hy
            dsimp only at HC
            clear c0 c1 d0 d1
            cases hO : ovl x y a b
            · clear HC
              go_wp2
              (refine wp_region_after (by kernel_rfl) (by kernel_rfl) ?_; (repeat (go_big_quiet_step (first | (go_at_call 38; exact calls_after (roverlaps_as hO _)) | (go_at_call 39; exact calls_after (rcovers_any _ _ _ _ _))))); refine wpQuiet_nil ?_; intro wq hw0; obtain ⟨⟨wq0, hbq⟩, hw1⟩ := hw0; subst hw1; (try dsimp only))
              go_wp2
              go_roundw
              case rel => exact ⟨m + 1, by omega, by go_num, hbr.trans (hbq.mono hbz)⟩
              case measure => simp [intOf]; omega
            · have hC := HC hO
              clear HC
              go_wp2
              (refine wp_region_after (by kernel_rfl) (by kernel_rfl) ?_; (repeat (go_big_quiet_step (first | (go_at_call 38; exact calls_after (roverlaps_as hO _)) | (go_at_call 39; exact calls_after (rcovers_as hC _))))); refine wpQuiet_nil ?_; intro wq hw0; obtain ⟨⟨wq0, hbq⟩, hw1⟩ := hw0; subst hw1; (try dsimp only))
              go_wp2
              go_roundw
              case rel => exact ⟨m + 1, by omega, by go_num, hbr.trans (hbq.mono hbz)⟩
              case measure => simp [intOf]; omega
          · have hml : m = l.length := by omega
            subst hml
            go_wp2
            go_roundw
            case rel => exact ⟨k + 1, by omega, by go_num, hbr⟩
            case measure => simp [intOf]; omega
    · have hkl : k = S.length := by omega
      subst hkl
      have Bwr : Below w.heap.size w wr := Bw1.trans (hbr.mono Zw1)
      have Zwr := Bwr.size
      replace H1 := Lib.hid (H1.out.step hbr (Nat.le_refl _))
      replace Hl := Lib.hid (Hl.out.step hbr (Nat.le_refl _))
      go_wp2_with fail
      have hx2 := sOf_any _ S _ _ H1.out (by omega)
      refine hx2.mono ?_
      rintro e w2 ⟨v2, rfl, hr2, hb2⟩
      clear hx2
      replace Hl := Lib.hid (Hl.out.step hb2 (Nat.le_refl _))
      replace H1 := Lib.hid (H1.out.step hb2 (Nat.le_refl _))
      have Bw2 := Bwr.trans (hb2.mono Zwr)
      have Zw2 := Bw2.size
      have H2 := Lib.hid hr2
      clear hr2
      clear hb2
      go_wp2_with fail
      have hx3 := sOf_any _ l _ _ Hl.out (by omega)
      refine hx3.mono ?_
      rintro e w3 ⟨v3, rfl, hr3, hb3⟩
      clear hx3
      replace Hl := Lib.hid (Hl.out.step hb3 (Nat.le_refl _))
      replace H1 := Lib.hid (H1.out.step hb3 (Nat.le_refl _))
      replace H2 := Lib.hid (H2.out.step hb3 (Nat.le_refl _))
      have Bw3 := Bw2.trans (hb3.mono Zw2)
      have Zw3 := Bw3.size
      have H3 := Lib.hid hr3
      clear hr3
      clear hb3
      go_wp2_with fail
      have hx4 := sameP_any v2 v3 _ _ _ _ _ H2.out H3.out
      rw [decide_eq_true HF.out.of'] at hx4
      refine hx4.mono ?_
      rintro e w4 ⟨rfl, hb4⟩
      clear hx4
      replace Hl := Lib.hid (Hl.out.step hb4 (Nat.le_refl _))
      replace H1 := Lib.hid (H1.out.step hb4 (Nat.le_refl _))
      replace H2 := Lib.hid (H2.out.step hb4 (Nat.le_refl _))
      replace H3 := Lib.hid (H3.out.step hb4 (Nat.le_refl _))
      have Bw4 := Bw3.trans (hb4.mono Zw3)
      have Zw4 := Bw4.size
      clear hb4
      clear H2
      clear H3
      go_wp2_with fail
      have hx5 := awake_any w4
      refine hx5.mono ?_
      rintro e w5 ⟨rfl, hb5⟩
      clear hx5
      replace Hl := Lib.hid (Hl.out.step hb5 (Nat.le_refl _))
      replace H1 := Lib.hid (H1.out.step hb5 (Nat.le_refl _))
      have Bw5 := Bw4.trans (hb5.mono Zw4)
      have Zw5 := Bw5.size
      clear hb5
      go_wp2
      go_ret
      exact ⟨rfl, Bw5⟩
end Go.Proofs.Ytpbccbhhjnlcpaa
