/-
  Mathematics of sums of pieces: the sum at an instant, by beginnings and endings; sums that wrap around. Conditions: none.
-/
import Derived.Test.YtbdioabeopnfeaaStM
import Derived.Laws.BitsLemmas
namespace Go.Proofs.Ytbdioabeopnfeaa

theorem wr_add (a b : Int) : IntKind.i64.wrap (IntKind.i64.wrap a + b) = IntKind.i64.wrap (a + b) := by
  rw [IntKind.wrap_i64, IntKind.wrap_i64, IntKind.wrap_i64]; omega
theorem wr_add2 (a b : Int) : IntKind.i64.wrap (a + IntKind.i64.wrap b) = IntKind.i64.wrap (a + b) := by
  rw [IntKind.wrap_i64, IntKind.wrap_i64, IntKind.wrap_i64]; omega
theorem wr_sub (a b : Int) : IntKind.i64.wrap (IntKind.i64.wrap a - b) = IntKind.i64.wrap (a - b) := by
  rw [IntKind.wrap_i64, IntKind.wrap_i64, IntKind.wrap_i64]; omega
theorem wr_sub2 (a b : Int) : IntKind.i64.wrap (a - IntKind.i64.wrap b) = IntKind.i64.wrap (a - b) := by
  rw [IntKind.wrap_i64, IntKind.wrap_i64, IntKind.wrap_i64]; omega
theorem wr_zero : IntKind.i64.wrap 0 = 0 := by rw [IntKind.wrap_i64]; decide

/-- A piece: from, to, number. -/
abbrev Pc := Int × Int × Int
def sumT (l : List Pc) (t : Int) : Int := (l.map fun c => if cnt c.1 c.2.1 t then c.2.2 else 0).sum
/-- The sum of the numbers whose key is at most t. -/
def keyS (key : Pc → Int) (l : List Pc) (t : Int) : Int := (l.map fun c => if key c ≤ t then c.2.2 else 0).sum
def okPc (c : Pc) : Bool := vld c.1 c.2.1
def begsL (l : List Pc) : List Pc := l.filter okPc
def endsL (l : List Pc) : List Pc := l.filter fun c => okPc c && decide (c.2.1 < 1099511627776)
theorem sumT_nil (t : Int) : sumT [] t = 0 := rfl
theorem sumT_cons (c : Pc) (l : List Pc) (t : Int) : sumT (c :: l) t = (if cnt c.1 c.2.1 t then c.2.2 else 0) + sumT l t := by simp [sumT]
theorem keyS_cons (key : Pc → Int) (c : Pc) (l : List Pc) (t : Int) : keyS key (c :: l) t = (if key c ≤ t then c.2.2 else 0) + keyS key l t := by simp [keyS]
theorem sum_parts : ∀ (l : List Pc) (t : Int), t < 1099511627776 → sumT l t = keyS (·.1) (begsL l) t - keyS (·.2.1) (endsL l) t
  | [], _, _ => rfl
  | c :: l, t, ht => by
    have ih := sum_parts l t ht
    obtain ⟨a, b, n⟩ := c
    rw [sumT_cons, ih]
    unfold begsL endsL
    rw [List.filter_cons, List.filter_cons]
    by_cases hv : vld a b = true
    · have hvp : 0 ≤ a ∧ a < b ∧ b ≤ 1099511627776 := by simpa [vld, and_assoc] using hv
      have hk : okPc (a, b, n) = true := hv
      rw [if_pos hk, keyS_cons]
      have hc : cnt a b t = (decide (a ≤ t) && decide (t < b)) := by simp [cnt, hv]
      by_cases hb : b < 1099511627776
      · rw [if_pos (show (okPc (a, b, n) && decide ((a, b, n).2.1 < 1099511627776)) = true by rw [hk]; simpa using hb), keyS_cons]
        dsimp only
        rw [hc]
        by_cases h1 : a ≤ t <;> by_cases h2 : t < b
        · rw [if_pos (by simp [h1, h2]), if_pos h1, if_neg (by omega)]; omega
        · rw [if_neg (by simp [h2]), if_pos h1, if_pos (by omega)]; omega
        · rw [if_neg (by simp [h1]), if_neg h1, if_neg (by omega)]; omega
        · omega
      · rw [if_neg (show ¬ (okPc (a, b, n) && decide ((a, b, n).2.1 < 1099511627776)) = true by rw [hk]; simpa using hb)]
        dsimp only
        rw [hc]
        by_cases h1 : a ≤ t
        · rw [if_pos (by simp [h1]; omega), if_pos h1]; omega
        · rw [if_neg (by simp [h1]), if_neg h1]; omega
    · have hk : ¬ okPc (a, b, n) = true := hv
      have hk2 : okPc (a, b, n) = false := by simpa using hk
      have hc : cnt a b t = false := by simp [cnt, hv]
      rw [if_neg hk, if_neg (show ¬ cnt (a, b, n).1 (a, b, n).2.1 t = true by show ¬ cnt a b t = true; rw [hc]; simp), if_neg (show ¬ (okPc (a, b, n) && decide ((a, b, n).2.1 < 1099511627776)) = true by rw [hk2]; simp)]
      omega
theorem keyS_perm {key : Pc → Int} {l m : List Pc} (h : l.Perm m) (t : Int) : keyS key l t = keyS key m t := by
  induction h with
  | nil => rfl
  | cons c _ ih => rw [keyS_cons, keyS_cons, ih]
  | swap c d l => rw [keyS_cons, keyS_cons, keyS_cons, keyS_cons]; omega
  | trans _ _ h1 h2 => rw [h1, h2]
/-- What the reference adds up. -/
def refS (l : List Pc) (t : Int) : Int := l.foldl (fun n c => if cnt c.1 c.2.1 t then IntKind.i64.wrap (n + c.2.2) else n) 0
theorem refS_aux (t : Int) : ∀ (l : List Pc) (a : Int), l.foldl (fun n c => if cnt c.1 c.2.1 t then IntKind.i64.wrap (n + c.2.2) else n) (IntKind.i64.wrap a) = IntKind.i64.wrap (a + sumT l t)
  | [], a => by rw [sumT_nil, Int.add_zero]; rfl
  | c :: l, a => by
    rw [List.foldl_cons, sumT_cons]
    cases cnt c.1 c.2.1 t
    · simp only [Bool.false_eq_true, if_false]
      rw [refS_aux t l a, Int.zero_add]
    · simp only [if_true]
      rw [wr_add, refS_aux t l (a + c.2.2), Int.add_assoc]
theorem refS_eq (l : List Pc) (t : Int) : refS l t = IntKind.i64.wrap (sumT l t) := by
  have h := refS_aux t l 0
  rw [wr_zero, Int.zero_add] at h
  exact h
/-- The sum does not change between bounds of valid pieces. -/
theorem sumT_const : ∀ (l : List Pc) (s u : Int), s ≤ u → (∀ c ∈ l, okPc c = true → ¬ (s < c.1 ∧ c.1 ≤ u) ∧ ¬ (s < c.2.1 ∧ c.2.1 ≤ u)) → sumT l s = sumT l u
  | [], _, _, _, _ => rfl
  | c :: l, s, u, hsu, h => by
    rw [sumT_cons, sumT_cons, sumT_const l s u hsu (fun d hd => h d (List.mem_cons_of_mem _ hd))]
    have hc : cnt c.1 c.2.1 s = cnt c.1 c.2.1 u := by
      by_cases hv : okPc c = true
      · have h1 := h c (by simp) hv
        have hv2 : vld c.1 c.2.1 = true := hv
        unfold cnt
        rw [hv2]
        by_cases a1 : c.1 ≤ s <;> by_cases a2 : s < c.2.1 <;> by_cases b1 : c.1 ≤ u <;> by_cases b2 : u < c.2.1 <;> simp [a1, a2, b1, b2] <;> omega
      · have hv2 : vld c.1 c.2.1 = false := by simpa [okPc] using hv
        unfold cnt
        rw [hv2]; rfl
    rw [hc]
end Go.Proofs.Ytbdioabeopnfeaa
