/-
  Networks as sets of relations: a pass keeps every path-consistent network below, and what no pass changes is path-consistent. Conditions: none.
-/
import Derived.Test.YtmmecpmeemhglaaDoorTabM
import Derived.Test.YtmmecpmeemhglaaDoorTight
namespace Go.Proofs.YtmmecpmeemhglaaDoor

theorem mbN_mem (x r : Nat) : r ∈ mbN x ↔ r < 13 ∧ x.testBit r = true := by unfold mbN; rw [List.mem_filter, List.mem_range]
theorem mb_mem (x : Nat) (r : Int) : r ∈ mb x 13 ↔ 0 ≤ r ∧ r < 13 ∧ x.testBit r.toNat = true := by
  rw [mb_mbN, List.mem_map]
  constructor
  · rintro ⟨k, hk, rfl⟩
    obtain ⟨h1, h2⟩ := (mbN_mem x k).1 hk
    exact ⟨by omega, by omega, by simpa using h2⟩
  · rintro ⟨h0, h1, h2⟩
    exact ⟨r.toNat, (mbN_mem x _).2 ⟨by omega, h2⟩, by omega⟩
theorem cRow_bit (f : Nat) (l : List Nat) (c : Nat) : ∀ s, (cRow s f l).testBit c = true ↔ s.testBit c = true ∨ ∃ g ∈ l, (tb f g).testBit c = true := by
  induction l with
  | nil => intro s; simp [cRow]
  | cons g l ih =>
    intro s
    have : cRow s f (g :: l) = cRow (s ||| tb f g) f l := rfl
    rw [this, ih, Nat.testBit_or, Bool.or_eq_true]
    simp only [List.mem_cons, exists_eq_or_imp]
    exact or_assoc
theorem cAll_bit (l m : List Nat) (c : Nat) : ∀ s, (cAll s l m).testBit c = true ↔ s.testBit c = true ∨ ∃ f ∈ l, ∃ g ∈ m, (tb f g).testBit c = true := by
  induction l with
  | nil => intro s; simp [cAll]
  | cons f l ih =>
    intro s
    have : cAll s (f :: l) m = cAll (cRow s f m) l m := rfl
    rw [this, ih, cRow_bit]
    simp only [List.mem_cons, exists_eq_or_imp]
    exact or_assoc
theorem comp_bit (x y c : Nat) : (compN x y).testBit c = true ↔ ∃ a b, a < 13 ∧ b < 13 ∧ x.testBit a = true ∧ y.testBit b = true ∧ (tb a b).testBit c = true := by
  unfold compN
  rw [cAll_bit]
  simp only [Nat.zero_testBit, Bool.false_eq_true, false_or]
  constructor
  · rintro ⟨a, ha, b, hb, h⟩
    obtain ⟨h1, h2⟩ := (mbN_mem x a).1 ha
    obtain ⟨h3, h4⟩ := (mbN_mem y b).1 hb
    exact ⟨a, b, h1, h3, h2, h4, h⟩
  · rintro ⟨a, b, h1, h3, h2, h4, h⟩
    exact ⟨a, (mbN_mem x a).2 ⟨h1, h2⟩, b, (mbN_mem y b).2 ⟨h3, h4⟩, h⟩
theorem setN_bit (l : List Int) (c : Nat) : (setN l).testBit c = true ↔ ∃ r ∈ l, r.toNat = c := by
  have : ∀ (l : List Int) (s : Nat), (l.foldl (fun s r => s ||| 2 ^ r.toNat) s).testBit c = true ↔ s.testBit c = true ∨ ∃ r ∈ l, r.toNat = c := by
    intro l
    induction l with
    | nil => intro s; simp
    | cons r l ih =>
      intro s
      rw [List.foldl_cons, ih, Nat.testBit_or, Bool.or_eq_true, Nat.testBit_two_pow]
      simp only [List.mem_cons, exists_eq_or_imp, decide_eq_true_eq]
      exact or_assoc
  unfold setN
  rw [this]
  simp
theorem inv_bit (x c : Nat) : (invN x).testBit c = true ↔ c < 13 ∧ x.testBit (12 - c) = true := by
  unfold invN
  rw [setN_bit]
  unfold invL
  constructor
  · rintro ⟨r, hr, rfl⟩
    rw [List.mem_map] at hr
    obtain ⟨a, ha, rfl⟩ := hr
    obtain ⟨h0, h1, h2⟩ := (mb_mem x a).1 ha
    refine ⟨by omega, ?_⟩
    rw [show 12 - (12 - a).toNat = a.toNat by omega]
    exact h2
  · rintro ⟨h1, h2⟩
    refine ⟨(c : Int), List.mem_map.2 ⟨12 - (c : Int), (mb_mem x _).2 ⟨by omega, by omega, ?_⟩, by omega⟩, by omega⟩
    rw [show (12 - (c : Int)).toNat = 12 - c by omega]
    exact h2

/-- The sets of S are parts of those of M, between the first n. -/
def Sub (n : Nat) (S M : Net) : Prop := ∀ i j, i < n → j < n → ∀ c, (S i j).testBit c = true → (M i j).testBit c = true
/-- Nothing is excluded by way of a third. -/
def PC (n : Nat) (S : Net) : Prop := ∀ i j k, i < n → j < n → k < n → ∀ c, (S i j).testBit c = true → ∃ a b, a < 13 ∧ b < 13 ∧ (S i k).testBit a = true ∧ (S k j).testBit b = true ∧ (tb a b).testBit c = true
theorem refS_sub {n : Nat} {S M : Net} (hS : Sub n S M) (hP : PC n S) {i j k : Nat} (hi : i < n) (hj : j < n) (hk : k < n) : Sub n S (refS M i j k) := by
  intro x y hx hy c hc
  unfold refS upd
  split
  · rename_i h
    obtain ⟨rfl, rfl⟩ := h
    rw [Nat.testBit_and, hS _ _ hx hy c hc, Bool.true_and, comp_bit]
    obtain ⟨a, b, ha, hb, h1, h2, h3⟩ := hP x y k hx hy hk c hc
    exact ⟨a, b, ha, hb, hS _ _ hx hk a h1, hS _ _ hk hy b h2, h3⟩
  · exact hS x y hx hy c hc
theorem refK_sub {n : Nat} {S M : Net} (hS : Sub n S M) (hP : PC n S) {i j : Nat} (hi : i < n) (hj : j < n) : ∀ m, m ≤ n → Sub n S (refK M i j m) := by
  intro m
  induction m with
  | zero => intro _; exact hS
  | succ m ih => intro h; rw [refK_succ]; exact refS_sub (ih (by omega)) hP hi hj (by omega)
theorem refJ_sub {n : Nat} {S M : Net} (hS : Sub n S M) (hP : PC n S) {i : Nat} (hi : i < n) : ∀ m, m ≤ n → Sub n S (refJ n M i m) := by
  intro m
  induction m with
  | zero => intro _; exact hS
  | succ m ih => intro h; rw [refJ_succ]; exact refK_sub (ih (by omega)) hP hi (by omega) n (Nat.le_refl _)
theorem refI_sub {n : Nat} {S M : Net} (hS : Sub n S M) (hP : PC n S) : ∀ m, m ≤ n → Sub n S (refI n M m) := by
  intro m
  induction m with
  | zero => intro _; exact hS
  | succ m ih => intro h; rw [refI_succ]; exact refJ_sub (ih (by omega)) hP (by omega) n (Nat.le_refl _)
/-- What the passes end in holds every path-consistent network below. -/
theorem tight_sub {n : Nat} {S : Net} (hP : PC n S) : ∀ (f : Nat) (M : Net) (r : Option Net), Sub n S M → tightF n f M = some r → (r = none → ∃ i j, i < n ∧ j < n ∧ ∀ c, (S i j).testBit c = false) ∧ ∀ R, r = some R → Sub n S R
  | 0, _, _, _, h => by cases h
  | f + 1, M, r, hS, h => by
    unfold tightF at h
    split at h
    · rename_i hE
      injection h with h
      subst h
      refine ⟨fun _ => ?_, fun R hR => by cases hR⟩
      obtain ⟨i, hi, j, hj, h0⟩ := (hE_iff n M).1 hE
      refine ⟨i, j, hi, hj, fun c => ?_⟩
      cases hc : (S i j).testBit c
      · rfl
      · have := hS i j hi hj c hc
        rw [h0, Nat.zero_testBit] at this
        cases this
    · split at h
      · injection h with h
        subst h
        exact ⟨(fun e => by cases e), (fun R hR => by injection hR with hR; subst hR; exact hS)⟩
      · exact tight_sub hP f (refN n M) r (refI_sub hS hP n (Nat.le_refl _)) h
theorem refK_mono (M : Net) (i j : Nat) {m m' : Nat} (h : m ≤ m') (a b : Nat) : refK M i j m' a b ≤ refK M i j m a b := by
  induction m' with
  | zero =>
    obtain rfl : m = 0 := by omega
    exact Nat.le_refl _
  | succ m' ih =>
    by_cases e : m = m' + 1
    · subst e; exact Nat.le_refl _
    · rw [refK_succ]; exact Nat.le_trans (refS_le _ _ _ _ a b) (ih (by omega))
theorem refJ_mono (n : Nat) (M : Net) (i : Nat) {m m' : Nat} (h : m ≤ m') (a b : Nat) : refJ n M i m' a b ≤ refJ n M i m a b := by
  induction m' with
  | zero =>
    obtain rfl : m = 0 := by omega
    exact Nat.le_refl _
  | succ m' ih =>
    by_cases e : m = m' + 1
    · subst e; exact Nat.le_refl _
    · rw [refJ_succ]; exact Nat.le_trans (refK_le _ _ _ _ a b) (ih (by omega))
theorem refI_mono (n : Nat) (M : Net) {m m' : Nat} (h : m ≤ m') (a b : Nat) : refI n M m' a b ≤ refI n M m a b := by
  induction m' with
  | zero =>
    obtain rfl : m = 0 := by omega
    exact Nat.le_refl _
  | succ m' ih =>
    by_cases e : m = m' + 1
    · subst e; exact Nat.le_refl _
    · rw [refI_succ]; exact Nat.le_trans (refJ_le _ _ _ _ a b) (ih (by omega))
theorem netL_at {M N : Net} (h : netL M = netL N) {i j : Nat} (hi : i < 8) (hj : j < 8) : M i j = N i j := by
  have h1 := congrArg (fun l : List Nat => l[i * 8 + j]?) h
  unfold netL at h1
  simp only [List.getElem?_map, List.getElem?_range (show i * 8 + j < 64 by omega), Option.map_some, Option.some.injEq] at h1
  rwa [show (i * 8 + j) / 8 = i by omega, show (i * 8 + j) % 8 = j by omega] at h1
/-- What no pass changes is path-consistent. -/
theorem pc_of_fix {n : Nat} {M : Net} (hn : n ≤ 8) (h : netL (refN n M) = netL M) : PC n M := by
  intro i j k hi hj hk c hc
  -- the network ahead of the step (i, j, k)
  have key : ∀ a b, a < 8 → b < 8 → refK (refJ n (refI n M i) i j) i j k a b = M a b ∧ refS (refK (refJ n (refI n M i) i j) i j k) i j k a b = M a b := by
    intro a b ha hb
    have e0 := netL_at h ha hb
    have u1 : refN n M a b ≤ refI n M (i + 1) a b := refI_mono n M (by omega) a b
    rw [refI_succ] at u1
    have u2 : refJ n (refI n M i) i n a b ≤ refJ n (refI n M i) i (j + 1) a b := refJ_mono n _ i (by omega) a b
    rw [refJ_succ] at u2
    have u3 : refK (refJ n (refI n M i) i j) i j n a b ≤ refK (refJ n (refI n M i) i j) i j (k + 1) a b := refK_mono _ i j (by omega) a b
    rw [refK_succ] at u3
    have u4 := refS_le (refK (refJ n (refI n M i) i j) i j k) i j k a b
    have u5 := refK_le (refJ n (refI n M i) i j) i j k a b
    have u6 := refJ_le n (refI n M i) i j a b
    have u7 := refI_le n M i a b
    omega
  have s0 := (key i j (by omega) (by omega)).2
  unfold refS upd at s0
  rw [if_pos ⟨rfl, rfl⟩, (key i j (by omega) (by omega)).1, (key i k (by omega) (by omega)).1, (key k j (by omega) (by omega)).1] at s0
  rw [← s0, Nat.testBit_and, Bool.and_eq_true] at hc
  exact (comp_bit _ _ _).1 hc.2
theorem refS_bits (M : Net) (i j k a b c : Nat) (h : (refS M i j k a b).testBit c = true) : (M a b).testBit c = true := by
  unfold refS upd at h
  split at h
  · rename_i e
    obtain ⟨rfl, rfl⟩ := e
    rw [Nat.testBit_and, Bool.and_eq_true] at h
    exact h.1
  · exact h
theorem refN_bits (n : Nat) (M : Net) (a b c : Nat) (h : (refN n M a b).testBit c = true) : (M a b).testBit c = true := by
  have hK : ∀ (i j m : Nat) (M : Net), (refK M i j m a b).testBit c = true → (M a b).testBit c = true := by
    intro i j m M
    induction m with
    | zero => exact id
    | succ m ih => rw [refK_succ]; exact fun h => ih (refS_bits _ _ _ _ _ _ _ h)
  have hJ : ∀ (i m : Nat) (M : Net), (refJ n M i m a b).testBit c = true → (M a b).testBit c = true := by
    intro i m M
    induction m with
    | zero => exact id
    | succ m ih => rw [refJ_succ]; exact fun h => ih (hK _ _ _ _ h)
  have hI : ∀ (m : Nat), (refI n M m a b).testBit c = true → (M a b).testBit c = true := by
    intro m
    induction m with
    | zero => exact id
    | succ m ih => rw [refI_succ]; exact fun h => ih (hJ _ _ _ h)
  exact hI n h
/-- The network that the passes end in: nothing in it is empty, it is path-consistent, and it is a part of the first. -/
theorem tight_end {n : Nat} (hn : n ≤ 8) : ∀ (f : Nat) (M R : Net), tightF n f M = some (some R) → hE n R = false ∧ PC n R ∧ ∀ a b c, (R a b).testBit c = true → (M a b).testBit c = true
  | 0, _, _, h => by cases h
  | f + 1, M, R, h => by
    unfold tightF at h
    split at h
    · injection h with h; cases h
    · rename_i hE
      split at h
      · rename_i hF
        injection h with h
        injection h with h
        subst h
        exact ⟨by simpa using hE, pc_of_fix hn hF, fun _ _ _ h => h⟩
      · obtain ⟨h1, h2, h3⟩ := tight_end hn f (refN n M) R h
        exact ⟨h1, h2, fun a b c hc => refN_bits n M a b c (h3 a b c hc)⟩
end Go.Proofs.YtmmecpmeemhglaaDoor
