/-
  Tightening what was tightened changes nothing. Conditions: none.
-/
import Derived.Test.YtmmecpmeemhglaaDoorTgE
namespace Go.Proofs.YtmmecpmeemhglaaDoor

theorem fold_bit {n : Nat} (i j c : Nat) (hc : c < 13) : ∀ {l : List Con} {M : Net}, okL n l = true → ((l.foldl conS M i j).testBit c = true ↔ (M i j).testBit c = true ∧ ∀ e ∈ l, (i = e.a.toNat ∧ j = e.b.toNat → (c : Int) ∈ e.r) ∧ (i = e.b.toNat ∧ j = e.a.toNat → ((12 - c : Nat) : Int) ∈ e.r))
  | [], M, _ => ⟨fun h => ⟨h, fun _ h => by cases h⟩, fun h => h.1⟩
  | e :: l, M, ho => by
    unfold okL at ho
    rw [List.all_cons, Bool.and_eq_true] at ho
    have ih := fold_bit (n := n) i j c hc (l := l) (M := conS M e) ho.2
    show ((l.foldl conS (conS M e)) i j).testBit c = true ↔ _
    rw [ih, conS_bit (okC_out ho.1).2.2 i j c hc]
    constructor
    · rintro ⟨⟨x, y⟩, z⟩
      refine ⟨x, fun e' he => ?_⟩
      rcases List.mem_cons.1 he with rfl | he
      · exact y
      · exact z e' he
    · rintro ⟨x, y⟩
      exact ⟨⟨x, y e (by simp)⟩, fun e' he => y e' (List.mem_cons_of_mem _ he)⟩
theorem conL_mem {n : Nat} {M : Net} {e : Con} : e ∈ conL n M ↔ ∃ i j : Nat, i < j ∧ j < n ∧ e = ⟨(i : Int), (j : Int), mb (M i j) 13⟩ := by
  unfold conL conAll conRow
  simp only [List.mem_flatMap, List.mem_map, List.mem_range]
  constructor
  · rintro ⟨i, hi, x, hx, rfl⟩; exact ⟨i, i + 1 + x, by omega, by omega, rfl⟩
  · rintro ⟨i, j, h1, h2, rfl⟩
    refine ⟨i, by omega, j - (i + 1), by omega, ?_⟩
    rw [show i + 1 + (j - (i + 1)) = j by omega]
theorem conL_ok (n : Nat) (M : Net) : okL n (conL n M) = true := by
  unfold okL
  rw [List.all_eq_true]
  intro e he
  obtain ⟨i, j, h1, h2, rfl⟩ := conL_mem.1 he
  unfold okC
  simp only [Bool.and_eq_true, decide_eq_true_eq, List.all_eq_true]
  refine ⟨⟨⟨⟨by omega, by omega⟩, by omega⟩, by omega⟩, fun r hr => ?_⟩
  obtain ⟨a, b, _⟩ := (mb_mem _ _).1 hr
  exact (isRel_iff _).2 ⟨a, b⟩
theorem flat_congr {α β : Type} {f g : α → List β} : ∀ {l : List α}, (∀ x ∈ l, f x = g x) → l.flatMap f = l.flatMap g
  | [], _ => rfl
  | x :: l, h => by rw [List.flatMap_cons, List.flatMap_cons, h x (by simp), flat_congr (fun y hy => h y (List.mem_cons_of_mem _ hy))]
theorem conL_congr {n : Nat} {M N : Net} (h : ∀ i j, i < n → j < n → ∀ c, c < 13 → (M i j).testBit c = (N i j).testBit c) : conL n M = conL n N := by
  unfold conL conAll conRow
  refine flat_congr fun i hi => ?_
  rw [List.mem_range] at hi
  apply List.map_congr_left
  intro x hx
  rw [List.mem_range] at hx
  rw [mb_ext (h i (i + 1 + x) (by omega) (by omega))]
theorem ne_bit {x : Nat} (h : ∀ c, x.testBit c = false) : x = 0 := Nat.eq_of_testBit_eq fun i => by rw [h i, Nat.zero_testBit]
theorem again_start {n f : Nat} {l : List Con} {R : Net} (hn : n ≤ 8) (ho : okL n l = true) (ht : tightF n f (permN n l) = some (some R)) {i j c : Nat} (hi : i < n) (hj : j < n) (hc : c < 13) :
    (permN n (conL n R) i j).testBit c = true ↔ (R i j).testBit c = true := by
  obtain ⟨he, _, hs⟩ := tight_end hn f _ _ ht
  have hclo := clo_prog hn ho ht
  have hmem : ∀ (x : Nat) (c : Nat), c < 13 → ((c : Int) ∈ mb x 13 ↔ x.testBit c = true) := fun x c hc => by
    rw [mb_mem]
    exact ⟨fun h => h.2.2, fun h => ⟨by omega, by omega, h⟩⟩
  unfold permN
  rw [fold_bit i j c hc (conL_ok n R), ← same_ini n i j c hi hj hc]
  constructor
  · rintro ⟨h0, h1⟩
    rcases Nat.lt_trichotomy i j with h | h | h
    · exact (hmem _ _ hc).1 ((h1 _ (conL_mem.2 ⟨i, j, h, hj, rfl⟩)).1 ⟨rfl, rfl⟩)
    · subst h
      unfold iniB at h0
      simp at h0
      subst h0
      have hne : R i i ≠ 0 := fun h0 => by
        have := (hE_iff n R).2 ⟨i, hi, i, hi, h0⟩
        rw [he] at this; cases this
      by_cases h6 : (R i i).testBit 6 = true
      · exact h6
      · exfalso
        apply hne
        apply ne_bit
        intro c
        rw [Bool.eq_false_iff]
        intro hb
        have hp := hs i i c hb
        by_cases hc2 : c < 13
        · have h2 := (same_start ho i i c hi hi hc2).2 hp
          have h3 : iniB i i c = true := by
            have : ∀ (l : List Con) (B : BNet), (l.foldl (fun B e => cutC B e 13) B) i i c = true → B i i c = true := by
              intro l
              induction l with
              | nil => intro B h; exact h
              | cons e l ih => intro B h; exact ((cutC_bit i i c hc2 13 (Nat.le_refl _)).1 (ih _ h)).1
            exact this l iniB h2
          unfold iniB at h3
          simp at h3
          subst h3
          exact h6 hb
        · have := permN_lt n l i i
          have h4 : (permN n l i i).testBit c = false := Nat.testBit_lt_two_pow (Nat.lt_of_lt_of_le this (show (2 : Nat) ^ 13 ≤ 2 ^ c from Nat.pow_le_pow_right (by decide) (by omega)))
          rw [h4] at hp; cases hp
    · have h2 := (h1 _ (conL_mem.2 ⟨j, i, h, hi, rfl⟩)).2 ⟨rfl, rfl⟩
      have h3 := (hmem (R j i) (12 - c) (by omega)).1 h2
      have h4 := hclo i j c hi hj hc
      unfold ofNet at h4
      rw [h4]; exact h3
  · intro hb
    refine ⟨?_, fun e hm => ?_⟩
    · have h2 := (same_start ho i j c hi hj hc).2 (hs i j c hb)
      have : ∀ (l : List Con) (B : BNet), (l.foldl (fun B e => cutC B e 13) B) i j c = true → B i j c = true := by
        intro l
        induction l with
        | nil => intro B h; exact h
        | cons e l ih => intro B h; exact ((cutC_bit i j c hc 13 (Nat.le_refl _)).1 (ih _ h)).1
      exact this l iniB h2
    · obtain ⟨a, b, h1, h2, rfl⟩ := conL_mem.1 hm
      refine ⟨?_, ?_⟩
      · rintro ⟨rfl, rfl⟩; exact (hmem _ _ hc).2 hb
      · rintro ⟨h3, h4⟩
        have h3 : i = b := h3
        have h4 : j = a := h4
        subst h3 h4
        refine (hmem _ _ (by omega)).2 ?_
        have h4 := hclo i j c hi hj hc
        unfold ofNet at h4
        rw [← h4]; exact hb
/-- The result of tightening what was tightened. -/
theorem again {n : Int} {l l' l'' : List Con} {b : Bool} (h : TRes n l l' true) (h2 : TRes n l' l'' b) : b = true ∧ l'' = l' := by
  rcases h with ⟨_, _, h⟩ | ⟨_, _, _, h⟩ | ⟨⟨h1, h8, ho⟩, R, f, ht, rfl, _⟩
  · cases h
  · cases h
  obtain ⟨m, rfl⟩ := Int.eq_ofNat_of_zero_le (show 0 ≤ n by omega)
  have hm : m ≤ 8 := by omega
  simp only [Int.toNat_natCast] at ht h2 ⊢
  obtain ⟨he, hp, _⟩ := tight_end hm f _ _ ht
  have hne : ∀ i j, i < m → j < m → ¬ ∀ c, (R i j).testBit c = false := fun i j hi hj h0 => by
    have := (hE_iff m R).2 ⟨i, hi, j, hj, ne_bit h0⟩
    rw [he] at this; cases this
  have hlt : ∀ i j c, (R i j).testBit c = true → c < 13 := fun i j c hb => by
    have hs := (tight_end hm f _ _ ht).2.2 i j c hb
    by_cases hc : c < 13
    · exact hc
    · have := permN_lt m l i j
      have h4 : (permN m l i j).testBit c = false := Nat.testBit_lt_two_pow (Nat.lt_of_lt_of_le this (show (2 : Nat) ^ 13 ≤ 2 ^ c from Nat.pow_le_pow_right (by decide) (by omega)))
      rw [h4] at hs; cases hs
  have hsub : Sub m R (permN m (conL m R)) := fun i j hi hj c hb => (again_start hm ho ht hi hj (hlt i j c hb)).2 hb
  rcases h2 with ⟨hno, _, _⟩ | ⟨_, ⟨f', hf⟩, _, _⟩ | ⟨_, R', f', hf, rfl, rfl⟩
  · exact absurd ⟨h1, h8, conL_ok m R⟩ hno
  · obtain ⟨i, j, hi, hj, h0⟩ := (tight_sub hp f' _ _ hsub hf).1 rfl
    exact absurd h0 (hne i j hi hj)
  · have hup := (tight_sub hp f' _ _ hsub hf).2 R' rfl
    have hdn := (tight_end hm f' _ _ hf).2.2
    refine ⟨rfl, conL_congr fun i j hi hj c hc => ?_⟩
    rw [Bool.eq_iff_iff]
    exact ⟨fun hb => (again_start hm ho ht hi hj hc).1 (hdn i j c hb), fun hb => hup i j hi hj c hb⟩
end Go.Proofs.YtmmecpmeemhglaaDoor
