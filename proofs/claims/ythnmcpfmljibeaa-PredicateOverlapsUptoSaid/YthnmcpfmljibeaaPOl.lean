import Derived.Test.YthnmcpfmljibeaaRR
import Derived.Test.YthnmcpfmljibeaaPXm
import Derived.Test.YthnmcpfmljibeaaMT
import Derived.WalkKit
import Derived.WalkSpells
import Derived.WalkLawsBesides
import Derived.Deep.QuietTactic
import Derived.BigQuiet
import Derived.Handy
import Derived.Lib.Hide
import Derived.Test.YthnmcpfmljibeaaPX
import Derived.Test.YthnmcpfmljibeaaPAw
import Derived.Test.YthnmcpfmljibeaaMX
import Derived.Test.YthnmcpfmljibeaaQEE
/-
  The period of a row for which a predicate is True overlaps its window (mathematics). Conditions: none.
-/
namespace Go.Proofs.Ythnmcpfmljibeaa
set_option maxRecDepth 100000
set_option linter.unusedVariables false
set_option linter.unusedSimpArgs false
open Go.RowKit

theorem tru_of {t : Int} (h : truP (ofP t) = 2) : t = 2 := by
  unfold ofP at h
  split at h
  · assumption
  · split at h
    · exact absurd h (by decide +kernel)
    · exact absurd h (by decide +kernel)
theorem tru_null : truP nullP = 1 := by decide +kernel
theorem vand_two {a b : Int} (h : Va.vand a b = 2) : a = 2 ∧ b = 2 := by
  unfold Va.vand at h
  split at h
  · cases h
  · split at h
    · assumption
    · cases h
theorem logF_two : ∀ (l : List Vl) (t : Int), logF 5 t l = 2 → t = 2 ∧ ∀ p ∈ l, truP p = 2
  | [], t, h => ⟨h, fun p hp => by cases hp⟩
  | q :: l, t, h => by
    have h1 := logF_two l (logS 5 t q) h
    unfold logS at h1
    rw [if_pos rfl] at h1
    obtain ⟨h2, h3⟩ := h1
    obtain ⟨h4, h5⟩ := vand_two h2
    refine ⟨h4, fun p hp => ?_⟩
    rcases List.mem_cons.1 hp with rfl | hp
    · exact h5
    · exact h3 p hp
theorem logP_two {l : List Vl} (h : logP 5 l = 2) : ∀ p ∈ l, truP p = 2 := by
  unfold logP at h
  rw [if_neg (by decide)] at h
  obtain ⟨h1, h2⟩ := logF_two _ _ h
  intro p hp
  cases l with
  | nil => cases hp
  | cons q t =>
    rcases List.mem_cons.1 hp with rfl | hp
    · exact h1
    · exact h2 p hp
/-- The conjuncts of a predicate that is True are True. -/
theorem tru_conj (row : List Vl) : ∀ (d : Nat) (e : Ex), truP (evE row d e) = 2 → ∀ x ∈ conjE d e, ∃ d', truP (evE row d' x) = 2
  | 0, e, _, x, hx => by unfold conjE at hx; cases hx
  | d + 1, e, h, x, hx => by
    by_cases h1 : e.op = 5 ∧ wfX e = true
    · rw [conjE_and d e h1] at hx
      obtain ⟨a, ha, hx⟩ := List.mem_flatMap.1 hx
      refine tru_conj row d a ?_ x hx
      unfold evE at h
      rw [show wfE e.op e.n e.v.1 e.v.2.1 e.v.2.2 e.nm e.args.length = true from h1.2, if_pos rfl] at h
      unfold opE at h
      rw [h1.1] at h
      simp only [show ¬ (5 : Int) = 1 by decide, show ¬ (5 : Int) = 2 by decide, if_false, show (5 : Int) = 4 ∨ (5 : Int) = 5 ∨ (5 : Int) = 6 from .inr (.inl rfl), if_true] at h
      exact logP_two (tru_of h) _ (List.mem_map.2 ⟨a, ha, rfl⟩)
    · rw [conjE_leaf d e h1] at hx
      rw [List.mem_singleton.1 hx]
      exact ⟨d + 1, h⟩
theorem tV_two {c b : Bool} (h : Va.tV c b = 2) : c = true ∧ b = true := by
  cases c <;> cases b <;> first | exact ⟨rfl, rfl⟩ | (exact absurd h (by decide))
theorem tV_zero {c b : Bool} (h : Va.vnot (Va.tV c b) = 2) : c = true ∧ b = false := by
  cases c <;> cases b <;> first | exact ⟨rfl, rfl⟩ | (exact absurd h (by decide))
theorem cpb_null (k : Int) : Va.cpbV 0 k = false ∧ Va.cpbV k 0 = false := by
  unfold Va.cpbV
  constructor
  · simp
  · by_cases h : k = 0 <;> simp [h]
/-- A comparison with a null is not True. -/
theorem cmq_null (op : Int) (q : Vl) (ho : cmqO op = true) : cmqP op nullP q ≠ 2 ∧ cmqP op q nullP ≠ 2 := by
  have h1 := (cpb_null q.1).1
  have h2 := (cpb_null q.1).2
  unfold cmqO at ho
  simp only [Bool.or_eq_true, beq_iff_eq] at ho
  unfold cmqP eqlP lesP Va.eqlV Va.lesV nullP
  dsimp only
  rw [h1, h2]
  rcases ho with (((rfl | rfl) | rfl) | rfl) | rfl <;> simp [Va.tV, Va.vnot]
/-- What a comparison of a number with a value tells. -/
def relO (op a b : Int) : Prop := if op = 7 then a = b else if op = 9 then a < b else if op = 10 then a ≤ b else if op = 11 then b < a else b ≤ a
theorem cmq_int {op n : Int} {v : Vl} (ho : cmqO op = true) (hv : vldP v = true) (h : cmqP op (1, n, ⟨#[]⟩) v = 2) : v.1 = 1 ∧ relO op n v.2.1 := by
  have hk : ∀ b, Va.tV (Va.cpbV 1 v.1) b = 2 ∨ Va.vnot (Va.tV (Va.cpbV 1 v.1) b) = 2 ∨ Va.tV (Va.cpbV v.1 1) b = 2 ∨ Va.vnot (Va.tV (Va.cpbV v.1 1) b) = 2 → v.1 = 1 := fun b hb => by
    have : Va.cpbV 1 v.1 = true ∨ Va.cpbV v.1 1 = true := by
      rcases hb with h | h | h | h
      · exact .inl (tV_two h).1
      · exact .inl (tV_zero h).1
      · exact .inr (tV_two h).1
      · exact .inr (tV_zero h).1
    unfold Va.cpbV at this
    simp only [Bool.and_eq_true, beq_iff_eq] at this
    rcases this with h | h <;> omega
  have hc : ∀ a b : Int, Va.cmpV 1 a ⟨#[]⟩ 1 b ⟨#[]⟩ = if a < b then -1 else if b < a then 1 else 0 := fun a b => by
    unfold Va.cmpV
    rw [if_neg (by omega), if_neg (by omega)]
    by_cases h1 : a < b
    · rw [if_pos h1, if_pos h1]
    · rw [if_neg h1, if_neg h1]
      by_cases h2 : b < a
      · rw [if_pos h2, if_pos h2]
      · rw [if_neg h2, if_neg h2]
        rfl
  have h1 : v.1 = 1 := by
    unfold cmqO at ho
    simp only [Bool.or_eq_true, beq_iff_eq] at ho
    unfold cmqP eqlP lesP Va.eqlV Va.lesV at h
    dsimp only at h
    rcases ho with (((rfl | rfl) | rfl) | rfl) | rfl
    · rw [if_pos rfl] at h; exact hk _ (.inl h)
    · rw [if_neg (by decide), if_neg (by decide), if_pos rfl] at h; exact hk _ (.inl h)
    · rw [if_neg (by decide), if_neg (by decide), if_neg (by decide), if_pos rfl] at h; exact hk _ (.inr (.inr (.inr h)))
    · rw [if_neg (by decide), if_neg (by decide), if_neg (by decide), if_neg (by decide), if_pos rfl] at h; exact hk _ (.inr (.inr (.inl h)))
    · rw [if_neg (by decide), if_neg (by decide), if_neg (by decide), if_neg (by decide), if_neg (by decide)] at h; exact hk _ (.inr (.inl h))
  refine ⟨h1, ?_⟩
  have e := v_int hv h1
  generalize v.2.1 = m at *
  subst e
  unfold cmqO at ho
  simp only [Bool.or_eq_true, beq_iff_eq] at ho
  unfold cmqP eqlP lesP Va.eqlV Va.lesV at h
  unfold relO
  dsimp only at h
  rw [hc, hc] at h
  rcases ho with (((rfl | rfl) | rfl) | rfl) | rfl
  · rw [if_pos rfl] at h ⊢
    have h2 := of_decide_eq_true (tV_two h).2
    split at h2
    · omega
    · split at h2
      · omega
      · omega
  · rw [if_neg (by decide), if_neg (by decide), if_pos rfl] at h
    rw [if_neg (by decide), if_pos rfl]
    have h2 := of_decide_eq_true (tV_two h).2
    split at h2
    · assumption
    · split at h2 <;> omega
  · rw [if_neg (by decide), if_neg (by decide), if_neg (by decide), if_pos rfl] at h
    rw [if_neg (by decide), if_neg (by decide), if_pos rfl]
    have h2 := of_decide_eq_false (tV_zero h).2
    split at h2
    · omega
    · omega
  · rw [if_neg (by decide), if_neg (by decide), if_neg (by decide), if_neg (by decide), if_pos rfl] at h
    rw [if_neg (by decide), if_neg (by decide), if_neg (by decide), if_pos rfl]
    have h2 := of_decide_eq_true (tV_two h).2
    split at h2
    · assumption
    · split at h2 <;> omega
  · rw [if_neg (by decide), if_neg (by decide), if_neg (by decide), if_neg (by decide), if_neg (by decide)] at h
    rw [if_neg (by decide), if_neg (by decide), if_neg (by decide), if_neg (by decide)]
    have h2 := of_decide_eq_false (tV_zero h).2
    split at h2
    · omega
    · omega
theorem cmq_mir {op : Int} {p q : Vl} (ho : cmqO op = true) (h : cmqP op p q = 2) : cmqP (mirO op) q p = 2 := by
  have hs : eqlP p q = eqlP q p := by
    unfold eqlP Va.eqlV
    have h1 : Va.cpbV p.1 q.1 = Va.cpbV q.1 p.1 := by
      unfold Va.cpbV
      by_cases h : p.1 = q.1
      · rw [h]
      · have h2 : ¬ q.1 = p.1 := fun e => h e.symm
        rw [show (p.1 == q.1) = false from by rw [beq_eq_false_iff_ne]; exact h, show (q.1 == p.1) = false from by rw [beq_eq_false_iff_ne]; exact h2]
        rfl
    rw [h1]
    refine congrArg _ ?_
    have e1 : Va.cmpV p.1 p.2.1 p.2.2 q.1 q.2.1 q.2.2 = cmpP p q := cmpV_P _ _ _ _ _ _
    have e2 : Va.cmpV q.1 q.2.1 q.2.2 p.1 p.2.1 p.2.2 = cmpP q p := cmpV_P _ _ _ _ _ _
    rw [e1, e2, cmpP_neg p q]
    have : (cmpP p q = 0) = (-cmpP p q = 0) := by apply propext; omega
    simp only [this]
  unfold cmqO at ho
  simp only [Bool.or_eq_true, beq_iff_eq] at ho
  unfold cmqP at *
  rcases ho with (((rfl | rfl) | rfl) | rfl) | rfl
  · rw [if_pos rfl] at h; rw [show mirO 7 = 7 from rfl, if_pos rfl, ← hs]; exact h
  · rw [if_neg (by decide), if_neg (by decide), if_pos rfl] at h; rw [show mirO 9 = 11 from rfl]; simpa using h
  · rw [if_neg (by decide), if_neg (by decide), if_neg (by decide), if_pos rfl] at h; rw [show mirO 10 = 12 from rfl]; simpa using h
  · rw [if_neg (by decide), if_neg (by decide), if_neg (by decide), if_neg (by decide), if_pos rfl] at h; rw [show mirO 11 = 9 from rfl]; simpa using h
  · rw [if_neg (by decide), if_neg (by decide), if_neg (by decide), if_neg (by decide), if_neg (by decide)] at h; rw [show mirO 12 = 10 from rfl]; simpa using h
/-- The condition of a conjunct that is True holds of the row. -/
theorem tru_cond (row : List Vl) (d : Nat) (x : Ex) (c : Cnd) (h : truP (evE row d x) = 2) (hc : condE x = some c) : cmqP c.op (colP row c.col) c.v = 2 := by
  have hco := cond_op hc
  cases d with
  | zero => unfold evE at h; rw [tru_null] at h; cases h
  | succ d =>
    unfold evE at h
    cases hw : wfE x.op x.n x.v.1 x.v.2.1 x.v.2.2 x.nm x.args.length
    · rw [hw, if_neg (by simp), tru_null] at h; cases h
    · rw [hw, if_pos rfl] at h
      have hev : ∀ (a : Ex), a.op = 2 → evE row d a = colP row a.n ∨ evE row d a = nullP := fun a ha => by
        cases d with
        | zero => exact .inr rfl
        | succ d =>
          unfold evE
          split
          · left; unfold opE; rw [if_neg (by rw [ha]; decide), if_pos ha]
          · exact .inr rfl
      have hevc : ∀ (a : Ex), a.op = 1 → evE row d a = a.v ∨ evE row d a = nullP := fun a ha => by
        cases d with
        | zero => exact .inr rfl
        | succ d =>
          unfold evE
          split
          · left; unfold opE; rw [if_pos ha]
          · exact .inr rfl
      unfold condE at hc
      split at hc
      · rename_i a b hab
        rw [hab] at h
        split at hc
        · rename_i hcm
          have hop : opE x.op x.n x.v row ([a, b].map (evE row d)) = ofP (cmqP x.op (evE row d a) (evE row d b)) := by
            have ho := hcm
            unfold cmqO at ho
            simp only [Bool.or_eq_true, beq_iff_eq] at ho
            unfold opE getP
            rw [if_neg (by omega), if_neg (by omega), if_neg (by omega), if_pos (by omega)]
            rfl
          rw [hop] at h
          have h2 := tru_of h
          split at hc
          · unfold cndO at hc
            split at hc
            · rename_i ha1 hcc
              injection hc with hc
              subst hc
              dsimp only
              refine cmq_mir hcm ?_ |> fun h => h
              rcases hevc a hcc.2.1 with h3 | h3
              · rcases hev b hcc.1 with h4 | h4
                · rw [h3, h4] at h2; exact h2
                · rw [h4] at h2; exact absurd h2 (cmq_null _ _ hcm).2
              · rw [h3] at h2; exact absurd h2 (cmq_null _ _ hcm).1
            · cases hc
          · unfold cndO at hc
            split at hc
            · rename_i ha1 hcc
              injection hc with hc
              subst hc
              dsimp only
              rcases hev a hcc.1 with h3 | h3
              · rcases hevc b hcc.2.1 with h4 | h4
                · rw [h3, h4] at h2; exact h2
                · rw [h4] at h2; exact absurd h2 (cmq_null _ _ hcm).2
              · rw [h3] at h2; exact absurd h2 (cmq_null _ _ hcm).1
            · cases hc
        · cases hc
      · cases hc
theorem col_atP (row : List Vl) (n : Int) (hv : vldP (atP row n) = true) : colP row n = atP row n := by
  unfold colP atP at *
  by_cases h0 : 0 ≤ n
  · rw [if_pos h0] at hv ⊢
    rw [if_pos h0]
    rw [List.getD_eq_getElem?_getD] at hv ⊢
    cases h : row[n.toNat]? with
    | none => rfl
    | some p =>
      rw [h] at hv
      dsimp only [Option.getD] at hv ⊢
      unfold nrmP
      rw [hv]
      rfl
  · rw [if_neg h0]
    rw [if_neg h0]
    rfl
/-- The range that conditions leave holds the number that satisfies them. -/
theorem bnd_in (n : Int) : ∀ (l : List Cnd) (r : Int × Int), (∀ c ∈ l, cmqO c.op = true ∧ c.v.1 = 1 ∧ relO c.op n c.v.2.1) → r.1 ≤ n → n ≤ r.2 → (bndR l r).2 = true ∧ (bndR l r).1.1 ≤ n ∧ n ≤ (bndR l r).1.2
  | [], r, _, h1, h2 => ⟨rfl, h1, h2⟩
  | c :: l, r, h, h1, h2 => by
    obtain ⟨h3, h4, h5⟩ := h c List.mem_cons_self
    unfold bndR
    rw [if_neg (by rw [h4]; simp)]
    have hn : (narR r c).1 ≤ n ∧ n ≤ (narR r c).2 := by
      unfold cmqO at h3
      simp only [Bool.or_eq_true, beq_iff_eq] at h3
      unfold narR
      unfold relO at h5
      rcases h3 with (((h3 | h3) | h3) | h3) | h3 <;> rw [h3] at h5 ⊢ <;> simp at h5 ⊢ <;> omega
    exact bnd_in n l _ (fun x hx => h x (List.mem_cons_of_mem _ hx)) hn.1 hn.2
/-- The window of a predicate that is True of a row with a valid period overlaps that period. -/
theorem win_over (row : List Vl) (d : Nat) (e : Ex) (f t : Int) (ht : truP (evE row d e) = 2) (hf1 : (atP row f).1 = 1) (hfv : vldP (atP row f) = true) (ht1 : (atP row t).1 = 1) (htv : vldP (atP row t) = true) (hp : vld (atP row f).2.1 (atP row t).2.1 = true) :
    (winE ((conjE d e).filterMap condE) f t).2 = true ∧ ovl (atP row f).2.1 (atP row t).2.1 (winE ((conjE d e).filterMap condE) f t).1.1 (winE ((conjE d e).filterMap condE) f t).1.2 = true := by
  have hsat : ∀ i n : Int, colP row i = (1, n, ⟨#[]⟩) → ∀ c ∈ onC ((conjE d e).filterMap condE) i, cmqO c.op = true ∧ c.v.1 = 1 ∧ relO c.op n c.v.2.1 := fun i n hn c hc => by
    obtain ⟨hc1, hc2⟩ := List.mem_filter.1 hc
    obtain ⟨x, hx, hxc⟩ := List.mem_filterMap.1 hc1
    obtain ⟨d', hd'⟩ := tru_conj row d e ht x hx
    have h1 := tru_cond row d' x c hd' hxc
    have h2 : c.col = i := by simpa using hc2
    rw [h2, hn] at h1
    exact ⟨cond_op hxc, cmq_int (cond_op hxc) (cond_vld hxc).1 h1⟩
  have hF := hsat f _ ((col_atP row f hfv).trans (v_int hfv hf1))
  have hT := hsat t _ ((col_atP row t htv).trans (v_int htv ht1))
  have hw := win_eq ((conjE d e).filterMap condE) (fun c hc => by
    obtain ⟨x, _, hx⟩ := List.mem_filterMap.1 hc
    exact ⟨(cond_vld hx).1, cond_op hx⟩) f t
  rw [hw]
  generalize (atP row f).2.1 = a at *
  generalize (atP row t).2.1 = b at *
  unfold vld at hp
  simp only [Bool.and_eq_true, decide_eq_true_eq] at hp
  obtain ⟨⟨p1, p2⟩, p3⟩ := hp
  unfold winR
  have hf := bnd_in a _ (0, 1099511627775) hF p1 (by show a ≤ 1099511627775; omega)
  have hg := bnd_in b _ (1, 1099511627776) hT (by show 1 ≤ b; omega) p3
  have mf := bnd_mono (onC ((conjE d e).filterMap condE) f) (0, 1099511627775)
  have mt := bnd_mono (onC ((conjE d e).filterMap condE) t) (1, 1099511627776)
  generalize bndR (onC ((conjE d e).filterMap condE) f) (0, 1099511627775) = x at *
  generalize bndR (onC ((conjE d e).filterMap condE) t) (1, 1099511627776) = y at *
  obtain ⟨⟨x1, x2⟩, xb⟩ := x
  obtain ⟨⟨y1, y2⟩, yb⟩ := y
  dsimp only at *
  obtain ⟨rfl, hf1, hf2⟩ := hf
  obtain ⟨rfl, hg1, hg2⟩ := hg
  unfold winQ
  dsimp only
  have hq : ¬ (true = false ∨ true = false ∨ x2 < x1 ∨ y2 < y1 ∨ y2 ≤ x1) := by rintro (h | h | h | h | h); cases h; cases h; omega; omega; omega
  rw [if_neg hq]
  by_cases h1 : x2 < y1
  · rw [if_pos h1]
    refine ⟨rfl, ?_⟩
    unfold ovl vld
    simp only [Bool.and_eq_true, decide_eq_true_eq]
    omega
  · rw [if_neg h1]
    refine ⟨rfl, ?_⟩
    unfold ovl vld
    simp only [Bool.and_eq_true, decide_eq_true_eq]
    omega
end Go.Proofs.Ythnmcpfmljibeaa
/-
  The walk of the statement PredicateOverlaps. Conditions: a bounded depth, few conjuncts. (Written by mkPdOl.py.)
-/
namespace Go.Proofs.Ythnmcpfmljibeaa
set_option maxRecDepth 100000
set_option linter.unusedVariables false
set_option linter.unusedSimpArgs false
open Go.RowKit

set_option maxRecDepth 100000 in
set_option maxHeartbeats 3200000 in
theorem rOverlaps_yes (a b c d : Int) (w : World) (h : ovl a b c d = true) :
    Calls Try.prog 18 #[.agg #[.int .i64 a, .int .i64 b], .agg #[.int .i64 c, .int .i64 d]] w fun e w' => e = .returned (.bool true) ∧ Below w.heap.size w w' := by
  unfold ovl at h
  simp only [Bool.and_eq_true, decide_eq_true_eq] at h
  obtain ⟨⟨⟨h1, h2⟩, h3⟩, h4⟩ := h
  have V1 := Lib.hid (fun W => by have h := Aln.rvalid_any a b W; rw [h1] at h; exact h)
  have V2 := Lib.hid (fun W => by have h := Aln.rvalid_any c d W; rw [h2] at h; exact h)
  have HP := Lib.hid (show Own ((w.alloc (.cells #[.int .i64 a, .int .i64 b] 36)).alloc (.cells #[.int .i64 c, .int .i64 d] 36)) w.heap.size 36 #[.int .i64 a, .int .i64 b] from (Own.new w _ _).alloc _)
  have HQ := Lib.hid (show Own ((w.alloc (.cells #[.int .i64 a, .int .i64 b] 36)).alloc (.cells #[.int .i64 c, .int .i64 d] 36)) (w.heap.size + 1) 36 #[.int .i64 c, .int .i64 d] from Va.own_two _)
  have HB := Lib.hid (show Below w.heap.size w ((w.alloc (.cells #[.int .i64 a, .int .i64 b] 36)).alloc (.cells #[.int .i64 c, .int .i64 d] 36)) from (bel_mk w _).trans ((bel_mk _ _).mono (by simp)))
  clear h1 h2
  go_enter Try.func18, Try.ntmps18
  go_wp2_with fail
  with_reducible refine (V1.out _).mono ?_
  rintro e1 w1 ⟨rfl, hb1⟩
  replace HP := Lib.hid (HP.out.below hb1 HP.out.lt)
  replace HQ := Lib.hid (HQ.out.below hb1 HQ.out.lt)
  replace HB := Lib.hid (HB.out.trans (hb1.mono HB.out.size))
  clear hb1
  have q0 := HQ.out.cell 0
  have q1 := HQ.out.cell 1
  go_wp2_with fail
  with_reducible refine (V2.out _).mono ?_
  rintro e2 w2 ⟨rfl, hb2⟩
  replace HP := Lib.hid (HP.out.below hb2 HP.out.lt)
  replace HQ := Lib.hid (HQ.out.below hb2 HQ.out.lt)
  replace HB := Lib.hid (HB.out.trans (hb2.mono HB.out.size))
  clear hb2 q0 q1
  have p0 := HP.out.cell 0
  have p1 := HP.out.cell 1
  have q0 := HQ.out.cell 0
  have q1 := HQ.out.cell 1
  go_wp2
  go_ret
  exact ⟨by simp [h3, h4], HB.out⟩
set_option maxRecDepth 100000 in
set_option maxHeartbeats 12800000 in
theorem law_overlaps (d : Nat) (e : Ex) (A : Option Addr) (c : Nat) (rv : Value) (row : List Vl) (f t : Int) (w : World) (h : RdE w 0 w.heap.size d (.slice A e.args.length c) e.args) (hl : (conjE d e).length ≤ 1099511627776) (hr : RdV w 0 w.heap.size rv row) :
    Calls Try.prog 4 #[exV e (.slice A e.args.length c), rv, .int .i64 f, .int .i64 t] w fun e' w' => e' = .returned (.bool true) ∧ Below w.heap.size w w' := by
  have T1 := Lib.hid (fun (W : World) (hb : Below w.heap.size w W) => rAt_any rv row f W 0 (hr.step hb (Nat.le_refl _)))
  have T2 := Lib.hid (fun (W : World) (hb : Below w.heap.size w W) => rAt_any rv row t W 0 (hr.step hb (Nat.le_refl _)))
  have T3 := Lib.hid (fun (W : World) (hb : Below w.heap.size w W) => pTruthE_any rv row d e A c W 0 0 (h.step hb (Nat.le_refl _)) (hr.step hb (Nat.le_refl _)))
  have T4 := Lib.hid (fun (W : World) (hb : Below w.heap.size w W) => pWin_any d e (.slice A e.args.length c) f t W 0 (h.step hb (Nat.le_refl _)) hl)
  have TV := Lib.hid (fun (p : Vl) W => show Calls Try.prog 14 #[.agg #[.int .i64 p.1, .int .i64 p.2.1, .string p.2.2]] W (fun e w' => e = .returned (.bool (vldP p)) ∧ Below W.heap.size W w') from Va.rValid_any p.1 p.2.1 p.2.2 W)
  have TP := Lib.hid (fun a b W => Aln.rvalid_any a b W)
  have TA := Lib.hid (fun W => awakeL_any W)
  have HM := Lib.hid (win_over row d e f t)
  have bb := bel_mk w (.cells (exA e (.slice A e.args.length c)) 26)
  have HB := Lib.hid bb
  have HO := Lib.hid (Own.new w 26 (exA e (.slice A e.args.length c)))
  obtain ⟨Ar, cr, rfl, _, _⟩ := hr
  generalize atP row f = pa at *
  generalize atP row t = pb at *
  generalize truP (evE row d e) = tr at *
  generalize winE ((conjE d e).filterMap condE) f t = wn at *
  obtain ⟨a1, a2, a3⟩ := pa
  obtain ⟨b1, b2, b3⟩ := pb
  obtain ⟨⟨w1x, w2x⟩, wis⟩ := wn
  dsimp only at *
  clear h hl bb
  unfold valV exV exA at *
  dsimp only at T1 T2
  go_enter Try.func4, Try.ntmps4
  go_wp2_with fail
  with_reducible refine (T1.out _ HB.out).mono ?_
  rintro e1 w1 ⟨rfl, hb1, _⟩
  replace HB := Lib.hid (HB.out.trans (hb1.mono HB.out.size))
  replace HO := Lib.hid (HO.out.below hb1 HO.out.lt)
  clear hb1 T1
  go_wp2_with fail
  with_reducible refine (T2.out _ HB.out).mono ?_
  rintro e2 w2 ⟨rfl, hb2, _⟩
  replace HB := Lib.hid (HB.out.trans (hb2.mono HB.out.size))
  replace HO := Lib.hid (HO.out.below hb2 HO.out.lt)
  clear hb2 T2
  have HX := Lib.hid (bel_three w2 (.cells #[.int .i64 a1, .int .i64 a2, .string a3] 23) (.cells #[.int .i64 b1, .int .i64 b2, .string b3] 23) (.cells #[.int .i64 a2, .int .i64 b2] 36))
  have OA := Lib.hid (show Own (((w2.alloc (.cells #[.int .i64 a1, .int .i64 a2, .string a3] 23)).alloc (.cells #[.int .i64 b1, .int .i64 b2, .string b3] 23)).alloc (.cells #[.int .i64 a2, .int .i64 b2] 36)) w2.heap.size 23 #[.int .i64 a1, .int .i64 a2, .string a3] from ((Own.new w2 _ _).alloc _).alloc _)
  have OB := Lib.hid (show Own (((w2.alloc (.cells #[.int .i64 a1, .int .i64 a2, .string a3] 23)).alloc (.cells #[.int .i64 b1, .int .i64 b2, .string b3] 23)).alloc (.cells #[.int .i64 a2, .int .i64 b2] 36)) (w2.heap.size + 1) 23 #[.int .i64 b1, .int .i64 b2, .string b3] from (Va.own_two _).alloc _)
  have OP := Lib.hid (show Own (((w2.alloc (.cells #[.int .i64 a1, .int .i64 a2, .string a3] 23)).alloc (.cells #[.int .i64 b1, .int .i64 b2, .string b3] 23)).alloc (.cells #[.int .i64 a2, .int .i64 b2] 36)) (w2.heap.size + 1 + 1) 36 #[.int .i64 a2, .int .i64 b2] from own_three1 _ _)
  replace HB := Lib.hid (HB.out.trans (HX.out.mono HB.out.size))
  replace HO := Lib.hid (HO.out.below HX.out HO.out.lt)
  by_cases hA : a1 = 1
  · subst hA
    by_cases hBk : b1 = 1
    · subst hBk
      have TVa := Lib.hid (TV.out (1, a2, a3))
      have TVb := Lib.hid (TV.out (1, b2, b3))
      have TPp := Lib.hid (TP.out a2 b2)
      cases hva : vldP (1, a2, a3)
      · rw [hva] at TVa
        go_wp2_with fail
        with_reducible refine (TVa.out _).mono ?_
        rintro e3 w3 ⟨rfl, hb⟩
        replace HB := Lib.hid (HB.out.trans (hb.mono HB.out.size))
        replace HO := Lib.hid (HO.out.below hb HO.out.lt)
        clear hb
        go_wp2_with fail
        with_reducible refine (TA.out _).mono ?_
        rintro e9 w9 ⟨rfl, hb9⟩
        replace HB := Lib.hid (HB.out.trans (hb9.mono HB.out.size))
        clear hb9
        go_wp2
        go_ret
        exact ⟨rfl, HB.out⟩
      · rw [hva] at TVa
        go_wp2_with fail
        with_reducible refine (TVa.out _).mono ?_
        rintro e3 w3 ⟨rfl, hb⟩
        replace HB := Lib.hid (HB.out.trans (hb.mono HB.out.size))
        replace HO := Lib.hid (HO.out.below hb HO.out.lt)
        replace OA := Lib.hid (OA.out.below hb OA.out.lt)
        replace OB := Lib.hid (OB.out.below hb OB.out.lt)
        replace OP := Lib.hid (OP.out.below hb OP.out.lt)
        clear hb
        have y0 := OB.out.cell 0
        have y1 := OB.out.cell 1
        have y2 := OB.out.cell 2
        cases hvb : vldP (1, b2, b3)
        · rw [hvb] at TVb
          go_wp2_with fail
          with_reducible refine (TVb.out _).mono ?_
          rintro e4 w4 ⟨rfl, hb⟩
          replace HB := Lib.hid (HB.out.trans (hb.mono HB.out.size))
          replace HO := Lib.hid (HO.out.below hb HO.out.lt)
          clear hb
          clear y0 y1 y2
          go_wp2_with fail
          with_reducible refine (TA.out _).mono ?_
          rintro e9 w9 ⟨rfl, hb9⟩
          replace HB := Lib.hid (HB.out.trans (hb9.mono HB.out.size))
          clear hb9
          go_wp2
          go_ret
          exact ⟨rfl, HB.out⟩
        · rw [hvb] at TVb
          go_wp2_with fail
          with_reducible refine (TVb.out _).mono ?_
          rintro e4 w4 ⟨rfl, hb⟩
          replace HB := Lib.hid (HB.out.trans (hb.mono HB.out.size))
          replace HO := Lib.hid (HO.out.below hb HO.out.lt)
          replace OA := Lib.hid (OA.out.below hb OA.out.lt)
          replace OB := Lib.hid (OB.out.below hb OB.out.lt)
          replace OP := Lib.hid (OP.out.below hb OP.out.lt)
          clear hb
          clear y0 y1 y2
          have p0 := OP.out.cell 0
          have p1 := OP.out.cell 1
          cases hvp : vld a2 b2
          · rw [hvp] at TPp
            go_wp2_with fail
            with_reducible refine (TPp.out _).mono ?_
            rintro e5 w5 ⟨rfl, hb⟩
            replace HB := Lib.hid (HB.out.trans (hb.mono HB.out.size))
            replace HO := Lib.hid (HO.out.below hb HO.out.lt)
            clear hb
            clear p0 p1
            go_wp2_with fail
            with_reducible refine (TA.out _).mono ?_
            rintro e9 w9 ⟨rfl, hb9⟩
            replace HB := Lib.hid (HB.out.trans (hb9.mono HB.out.size))
            clear hb9
            go_wp2
            go_ret
            exact ⟨rfl, HB.out⟩
          · rw [hvp] at TPp
            go_wp2_with fail
            with_reducible refine (TPp.out _).mono ?_
            rintro e5 w5 ⟨rfl, hb⟩
            replace HB := Lib.hid (HB.out.trans (hb.mono HB.out.size))
            replace HO := Lib.hid (HO.out.below hb HO.out.lt)
            replace OA := Lib.hid (OA.out.below hb OA.out.lt)
            replace OB := Lib.hid (OB.out.below hb OB.out.lt)
            replace OP := Lib.hid (OP.out.below hb OP.out.lt)
            clear hb
            clear p0 p1
            have x0 := HO.out.cell 0
            have x1 := HO.out.cell 1
            have x2 := HO.out.cell 2
            have x3 := HO.out.cell 3
            have x4 := HO.out.cell 4
            have x5 := HO.out.cell 5
            have x6 := HO.out.cell 6
            by_cases htr : tr = 2
            · subst htr
              have hm := HM.out (by trivial) (by trivial) hva (by trivial) hvb hvp
              obtain ⟨hw1, hw2⟩ := hm
              subst hw1
              have TO := Lib.hid (fun W => rOverlaps_yes a2 b2 w1x w2x W hw2)
              clear hva hvb hvp HM hw2 TVa TVb TPp TV TP
              go_wp2_with fail
              with_reducible refine (T3.out _ HB.out).mono ?_
              rintro e6 w6 ⟨rfl, hb⟩
              replace HB := Lib.hid (HB.out.trans (hb.mono HB.out.size))
              replace HO := Lib.hid (HO.out.below hb HO.out.lt)
              replace OP := Lib.hid (OP.out.below hb OP.out.lt)
              clear hb
              clear x0 x1 x2 x3 x4 x5 x6 OA OB
              have x0 := HO.out.cell 0
              have x1 := HO.out.cell 1
              have x2 := HO.out.cell 2
              have x3 := HO.out.cell 3
              have x4 := HO.out.cell 4
              have x5 := HO.out.cell 5
              have x6 := HO.out.cell 6
              go_wp2_with fail
              with_reducible refine (T4.out _ HB.out).mono ?_
              rintro e7 w7 ⟨rfl, hb⟩
              replace HB := Lib.hid (HB.out.trans (hb.mono HB.out.size))
              replace OP := Lib.hid (OP.out.below hb OP.out.lt)
              clear hb x0 x1 x2 x3 x4 x5 x6 HO
              have bw := bel_mk w7 (.cells #[.int .i64 w1x, .int .i64 w2x] 36)
              have OW := Lib.hid (Own.new w7 36 #[.int .i64 w1x, .int .i64 w2x])
              replace OP := Lib.hid (OP.out.below bw OP.out.lt)
              replace HB := Lib.hid (HB.out.trans (bw.mono HB.out.size))
              clear bw
              have p0 := OP.out.cell 0
              have p1 := OP.out.cell 1
              have u0 := OW.out.cell 0
              have u1 := OW.out.cell 1
              go_wp2_with fail
              with_reducible refine (TO.out _).mono ?_
              rintro e8 w8 ⟨rfl, hb⟩
              replace HB := Lib.hid (HB.out.trans (hb.mono HB.out.size))
              clear hb
              clear p0 p1 u0 u1
              go_wp2_with fail
              with_reducible refine (TA.out _).mono ?_
              rintro e9 w9 ⟨rfl, hb9⟩
              replace HB := Lib.hid (HB.out.trans (hb9.mono HB.out.size))
              clear hb9
              go_wp2
              go_ret
              exact ⟨rfl, HB.out⟩
            · have htb : (tr != 2) = true := by rw [bne_iff_ne]; exact htr
              clear htr HM
              go_wp2_with fail
              with_reducible refine (T3.out _ HB.out).mono ?_
              rintro e6 w6 ⟨rfl, hb⟩
              replace HB := Lib.hid (HB.out.trans (hb.mono HB.out.size))
              replace HO := Lib.hid (HO.out.below hb HO.out.lt)
              clear hb
              clear x0 x1 x2 x3 x4 x5 x6
              go_wp2_with fail
              with_reducible refine (TA.out _).mono ?_
              rintro e9 w9 ⟨rfl, hb9⟩
              replace HB := Lib.hid (HB.out.trans (hb9.mono HB.out.size))
              clear hb9
              go_wp2
              go_ret
              exact ⟨rfl, HB.out⟩
    · have hBb : (b1 != 1) = true := by rw [bne_iff_ne]; exact hBk
      clear hBk HM
      go_wp2_with fail
      with_reducible refine (TA.out _).mono ?_
      rintro e9 w9 ⟨rfl, hb9⟩
      replace HB := Lib.hid (HB.out.trans (hb9.mono HB.out.size))
      clear hb9
      go_wp2
      go_ret
      exact ⟨rfl, HB.out⟩
  · have hAb : (a1 != 1) = true := by rw [bne_iff_ne]; exact hA
    clear hA HM
    go_wp2_with fail
    with_reducible refine (TA.out _).mono ?_
    rintro e9 w9 ⟨rfl, hb9⟩
    replace HB := Lib.hid (HB.out.trans (hb9.mono HB.out.size))
    clear hb9
    go_wp2
    go_ret
    exact ⟨rfl, HB.out⟩
end Go.Proofs.Ythnmcpfmljibeaa
