/-
  Contracts of the program's Contains and Next on lists of periods. Conditions: none.
-/
import Derived.Test.YtpbccbhhjnlcpaaValS
import Derived.Test.YtpbccbhhjnlcpaaSwM
import Derived.Test.YtpbccbhhjnlcpaaShelf
import Derived.IntWalk
import Derived.WalkKit
import Derived.WalkSpells
import Derived.WalkLawsBesides
import Derived.Deep.QuietTactic
import Derived.BigQuiet
import Derived.Handy
import Derived.Lib.Hide
namespace Go.Proofs.Ytpbccbhhjnlcpaa
open Go.RowKit

set_option maxHeartbeats 800000 in
theorem closureC (a b t : Int) (g : Nat) (W : World) (hc : W.cell? ⟨g, 0, none⟩ = some (.int .i64 t)) (hg : g < W.heap.size) :
    Calls Try.prog 43 #[.agg #[.int .i64 a, .int .i64 b], .pointer (some ⟨g, 0, none⟩)] W fun e w' => e = .returned (.bool (cnt a b t)) ∧ Below W.heap.size W w' := by
  go_enter Try.func43, Try.ntmps43
  go_wp2_with (go_at_call 44; refine (contains_any _ _ _ _).mono ?_; rintro e w2 ⟨rfl, hb2⟩)
  go_ret
  exact ⟨rfl, ((Below.refl _ _).alloc (Nat.le_refl _) _).trans (hb2.mono (by simp))⟩
theorem memL_take_no {l : List (Int × Int)} {k : Nat} {t : Int} (h : memL (l.take k) t = false) (hk : l.length ≤ k) : memL l t = false := by rwa [List.take_of_length_le hk] at h

set_option maxRecDepth 100000 in
set_option maxHeartbeats 1600000 in
theorem indexF_any (v : Value) (l : List (Int × Int)) (t : Int) (g : Nat) (w : World) (L : Nat) (hv : RdP w L w.heap.size v l) (hc : w.cell? ⟨g, 0, none⟩ = some (.int .i64 t)) (hg : g < w.heap.size) :
    Calls Try.prog 57 #[v, .func (.func 43) #[] #[.pointer (some ⟨g, 0, none⟩)]] w fun e w' => (∃ r : Int, e = .returned (.int .i64 r) ∧ decide (r ≥ 0) = memL l t) ∧ Below w.heap.size w w' := by
  have hv0 := hv
  have eg : ∀ args w, (callFunc 43 args).run Try.prog w = .ok (.enter 43 args) w := enters_of Try.func43 (by kernel_rfl) rfl
  obtain ⟨A, c, rfl, hlen, _⟩ := hv
  go_enter Try.func57, Try.ntmps57
  go_wp2
  go_loopw [8] (fun i wr => ∃ k : Nat, k ≤ l.length ∧ i = .int .i64 k ∧ Hid (memL (l.take k) t = false) ∧ Below w.heap.size w wr) (fun i _ => l.length - (intOf i).toNat)
  case atStart => exact ⟨0, by omega, rfl, Lib.hid rfl, Below.refl _ _⟩
  case round =>
    obtain ⟨k, hk, rfl, hok, hbr⟩ := hrel
    have hbz := hbr.size
    by_cases hlt : k < l.length
    · have hke := List.getElem?_eq_getElem hlt
      generalize l[k] = p at hke
      obtain ⟨a, b⟩ := p
      obtain ⟨ad, rfl, hal, hab, h0, h1⟩ := (hv0.below hbr).at hke
      dsimp only at h0 h1
      have hcw := (hbr.cell (p := ⟨g, 0, none⟩) hg).trans hc
      have HC := Lib.hid hcw
      clear hcw
      cases hC : cnt a b t
      · have hT := Lib.hid (mem_no hke hok.out hC)
        clear hke
        have hcl := closureC a b t g wr HC.out (by omega)
        rw [hC] at hcl
        go_wp2_with fail
        refine hcl.mono ?_
        rintro e w2 ⟨rfl, hb2⟩
        go_wp2
        go_roundw
        case rel => exact ⟨k + 1, by omega, by go_num, hT, hbr.trans (hb2.mono hbz)⟩
        case measure => simp [intOf]; omega
      · have hT := Lib.hid (mem_yes hke hC)
        clear hke
        have hcl := closureC a b t g wr HC.out (by omega)
        rw [hC] at hcl
        go_wp2_with fail
        refine hcl.mono ?_
        rintro e w2 ⟨rfl, hb2⟩
        go_wp2
        go_ret
        exact ⟨⟨k, rfl, by rw [hT.out]; simp⟩, hbr.trans (hb2.mono hbz)⟩
    · have hT := Lib.hid (memL_take_no hok.out (by omega))
      go_wp2
      go_ret
      exact ⟨⟨-1, rfl, by rw [hT.out]; decide⟩, hbr⟩
set_option maxHeartbeats 800000 in
theorem sMem_any (v : Value) (l : List (Int × Int)) (t : Int) (w : World) (L : Nat) (hv : RdP w L w.heap.size v l) :
    Calls Try.prog 15 #[v, .int .i64 t] w fun e w' => e = .returned (.bool (memL l t)) ∧ Below w.heap.size w w' := by
  have bW : Below w.heap.size w (w.alloc (.cells #[.int .i64 t] 3)) := (Below.refl _ _).alloc (Nat.le_refl _) _
  have h := indexF_any v l t w.heap.size (w.alloc (.cells #[.int .i64 t] 3)) L ((hv.below bW).more bW.size (Nat.le_refl _)) ((Own.new w 3 #[.int .i64 t]).cell 0) (by simp)
  obtain ⟨A, c, rfl, _, _⟩ := hv
  generalize memL l t = r at *
  go_enter Try.func15, Try.ntmps15
  go_wp2_with (first
    | (go_at_call 57; refine h.mono ?_; rintro e w2 ⟨⟨x, rfl, hx⟩, hb2⟩)
    | go_in)
  go_ret
  exact ⟨by rw [← hx]; rfl, bW.trans (hb2.mono bW.size)⟩

/-- Next, as the program finds it. -/
def pnF (t : Int) (s : Int × Bool) (p : Int × Int) : Int × Bool := if vld p.1 p.2 && decide (t < p.2) && (!s.2 || decide (max p.1 t < s.1)) then (max p.1 t, true) else s
def pnx (t : Int) (l : List (Int × Int)) : Int × Bool := l.foldl (pnF t) (0, false)
theorem pnx_step {t : Int} {l : List (Int × Int)} {k : Nat} {p : Int × Int} (hk : l[k]? = some p) : pnx t (l.take (k + 1)) = pnF t (pnx t (l.take k)) p := by
  obtain ⟨hlt, rfl⟩ := List.getElem?_eq_some_iff.1 hk
  unfold pnx
  rw [List.take_succ_eq_append_getElem hlt, List.foldl_append]; rfl
def Least (l : List (Int × Int)) (t : Int) (r : Int × Bool) : Prop :=
  (r.2 = true → memL l r.1 = true ∧ t ≤ r.1 ∧ ∀ m, t ≤ m → memL l m = true → r.1 ≤ m) ∧ (r.2 = false → r.1 = 0 ∧ ∀ m, t ≤ m → memL l m = false)
theorem least_unique {l : List (Int × Int)} {t : Int} {r s : Int × Bool} (h1 : Least l t r) (h2 : Least l t s) : r = s := by
  obtain ⟨r1, r2⟩ := r
  obtain ⟨s1, s2⟩ := s
  unfold Least at *
  dsimp only at *
  cases r2 <;> cases s2
  · rw [(h1.2 rfl).1, (h2.2 rfl).1]
  · have a := h2.1 rfl
    have b := (h1.2 rfl).2 s1 a.2.1
    rw [a.1] at b; cases b
  · have a := h1.1 rfl
    have b := (h2.2 rfl).2 r1 a.2.1
    rw [a.1] at b; cases b
  · have a := h1.1 rfl
    have b := h2.1 rfl
    have c1 := a.2.2 s1 b.2.1 b.1
    have c2 := b.2.2 r1 a.2.1 a.1
    rw [show r1 = s1 by omega]
theorem pn_least (t : Int) : ∀ (l m : List (Int × Int)) (s : Int × Bool), Least m t s → Least (m ++ l) t (l.foldl (pnF t) s)
  | [], m, s, h => by rw [List.append_nil]; exact h
  | p :: l, m, s, h => by
    rw [List.foldl_cons, show m ++ p :: l = (m ++ [p]) ++ l by simp]
    refine pn_least t l (m ++ [p]) _ ?_
    have hm : ∀ x, memL (m ++ [p]) x = (memL m x || cnt p.1 p.2 x) := fun x => by rw [memL_append, memL_cons, memL_nil, Bool.or_false]
    unfold pnF
    by_cases hv : vld p.1 p.2 = true ∧ t < p.2
    · have hp := vld_iff.1 hv.1
      rw [hv.1, decide_eq_true hv.2]
      simp only [Bool.true_and]
      have hmx : max p.1 t = p.1 ∨ max p.1 t = t := by omega
      have hin : cnt p.1 p.2 (max p.1 t) = true := cnt_iff.2 ⟨hp.1, hp.2.1, hp.2.2, by omega, by omega⟩
      by_cases hs : s.2 = true ∧ ¬ max p.1 t < s.1
      · rw [if_neg (by rw [hs.1, decide_eq_false hs.2]; decide)]
        obtain ⟨a1, a2, a3⟩ := h.1 hs.1
        refine ⟨fun _ => ⟨by rw [hm, a1]; rfl, a2, fun x hx hmem => ?_⟩, fun hf => by rw [hs.1] at hf; cases hf⟩
        rw [hm, Bool.or_eq_true] at hmem
        rcases hmem with hmem | hmem
        · exact a3 x hx hmem
        · have := cnt_iff.1 hmem; omega
      · have hc : (!s.2 || decide (max p.1 t < s.1)) = true := by
          cases hsb : s.2 with
          | false => rfl
          | true =>
            have : max p.1 t < s.1 := by
              rcases Classical.em (max p.1 t < s.1) with h1 | h1
              · exact h1
              · exact absurd ⟨hsb, h1⟩ hs
            rw [decide_eq_true this]; rfl
        rw [if_pos hc]
        refine ⟨fun _ => ⟨by rw [hm, hin, Bool.or_true], by omega, fun x hx hmem => ?_⟩, fun hf => by cases hf⟩
        rw [hm, Bool.or_eq_true] at hmem
        rcases hmem with hmem | hmem
        · cases hsb : s.2 with
          | false => rw [(h.2 hsb).2 x hx] at hmem; cases hmem
          | true =>
            have h3 := (h.1 hsb).2.2 x hx hmem
            rw [hsb] at hc
            simp at hc
            show max p.1 t ≤ x
            omega
        · have := cnt_iff.1 hmem
          show max p.1 t ≤ x
          omega
    · have hno : ∀ x, t ≤ x → cnt p.1 p.2 x = false := fun x hx => by
        rw [Bool.eq_false_iff]; intro hc
        have := cnt_iff.1 hc
        exact hv ⟨vld_iff.2 ⟨this.1, this.2.1, this.2.2.1⟩, by omega⟩
      rw [if_neg (by
        intro hc
        simp only [Bool.and_eq_true, decide_eq_true_eq] at hc
        exact hv hc.1)]
      refine ⟨fun hs => ?_, fun hs => ?_⟩
      · obtain ⟨a1, a2, a3⟩ := h.1 hs
        refine ⟨by rw [hm, a1]; rfl, a2, fun x hx hmem => ?_⟩
        rw [hm, hno x hx, Bool.or_false] at hmem
        exact a3 x hx hmem
      · obtain ⟨a1, a2⟩ := h.2 hs
        exact ⟨a1, fun x hx => by rw [hm, hno x hx, a2 x hx]; rfl⟩
theorem pnx_least (t : Int) (l : List (Int × Int)) : Least l t (pnx t l) := pn_least t l [] (0, false) ⟨fun h => (by cases h), fun _ => ⟨rfl, fun _ _ => rfl⟩⟩
end Go.Proofs.Ytpbccbhhjnlcpaa
