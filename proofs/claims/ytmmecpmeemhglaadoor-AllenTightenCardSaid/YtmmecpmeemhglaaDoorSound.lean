/-
  Periods that satisfy constraints are a path-consistent network below the permitted one, hence below the tightened one; the chapter's example of Tighten. Conditions: none.
-/
import Derived.Test.YtmmecpmeemhglaaDoorNetM
import Derived.Test.YtmmecpmeemhglaaDoorSat
namespace Go.Proofs.YtmmecpmeemhglaaDoor

theorem relPQ_inv : ∀ p q : Fin 15, relPQ q.val p.val = 12 - relPQ p.val q.val := by decide
theorem relR_inv {a b c d : Int} (h1 : vld a b = true) (h2 : vld c d = true) : relR c d a b = 12 - relR a b c d := by
  have v1 := (vld_iff a b).1 h1
  have v2 := (vld_iff c d).1 h2
  obtain ⟨p, hp, p1, p2⟩ := small_of [a, b, c, d, a, b] rfl (a := a) (b := b) (by simp) (by simp) v1.2.1
  obtain ⟨q, hq, q1, q2⟩ := small_of [a, b, c, d, a, b] rfl (a := c) (b := d) (by simp) (by simp) v2.2.1
  rw [← relPQ_rk [a, b, c, d, a, b] rfl (by simp) (by simp) (by simp) (by simp) h1 h2 p q p1 p2 q1 q2, ← relPQ_rk [a, b, c, d, a, b] rfl (by simp) (by simp) (by simp) (by simp) h2 h1 q p q1 q2 p1 p2]
  exact relPQ_inv ⟨p, hp⟩ ⟨q, hq⟩
theorem relR_self {a b : Int} (h1 : vld a b = true) : relR a b a b = 6 := by
  have v1 := (vld_iff a b).1 h1
  unfold relR bothV
  rw [h1]
  simp only [Bool.and_self, if_true]
  unfold relV sgn ovAt
  repeat' split
  all_goals omega

def at0 (l : List (Int × Int)) (i : Nat) : Int × Int := l.getD i (0, 0)
def solN (l : List (Int × Int)) : Net := fun i j => 2 ^ (relR (at0 l i).1 (at0 l i).2 (at0 l j).1 (at0 l j).2).toNat
theorem vldL_at {l : List (Int × Int)} (h : vldL l = true) {i : Nat} (hi : i < l.length) : vld (at0 l i).1 (at0 l i).2 = true := by
  unfold vldL at h
  rw [List.all_eq_true] at h
  refine h _ ?_
  unfold at0
  rw [List.getD_eq_getElem?_getD, List.getElem?_eq_getElem hi]
  exact List.getElem_mem hi
theorem solN_bit (l : List (Int × Int)) (i j c : Nat) : (solN l i j).testBit c = true ↔ (relR (at0 l i).1 (at0 l i).2 (at0 l j).1 (at0 l j).2).toNat = c := by
  unfold solN
  rw [Nat.testBit_two_pow, decide_eq_true_eq]
theorem sol_pc {l : List (Int × Int)} (h : vldL l = true) : PC l.length (solN l) := by
  intro i j k hi hj hk c hc
  rw [solN_bit] at hc
  subst hc
  have l1 := relR_lt (at0 l i).1 (at0 l i).2 (at0 l k).1 (at0 l k).2
  have l2 := relR_lt (at0 l k).1 (at0 l k).2 (at0 l j).1 (at0 l j).2
  exact ⟨_, _, by omega, by omega, (solN_bit _ _ _ _).2 rfl, (solN_bit _ _ _ _).2 rfl, tb_sound (vldL_at h hi) (vldL_at h hk) (vldL_at h hj)⟩
theorem sol_start {l : List (Int × Int)} (h : vldL l = true) : Sub l.length (solN l) (pP l.length l.length) := by
  intro i j hi hj c hc
  rw [solN_bit] at hc
  subst hc
  unfold pP
  rw [if_pos ⟨hi, hj⟩]
  by_cases e : i = j
  · subst e
    rw [if_pos rfl, relR_self (vldL_at h hi)]
    rfl
  · rw [if_neg e]
    have l1 := relR_lt (at0 l i).1 (at0 l i).2 (at0 l j).1 (at0 l j).2
    have : ∀ r : Fin 13, (8191 : Nat).testBit r.val = true := by decide
    have hb : (relR (at0 l i).1 (at0 l i).2 (at0 l j).1 (at0 l j).2).toNat < 13 := by omega
    exact this ⟨_, hb⟩
theorem conS_sub {l : List (Int × Int)} (h : vldL l = true) {M : Net} {e : Con} (he : okC l.length e = true) (hm : metC l e = true) (hS : Sub l.length (solN l) M) : Sub l.length (solN l) (conS M e) := by
  obtain ⟨⟨a0, a1⟩, ⟨b0, b1⟩, hr⟩ := okC_out he
  have hmem : relR (at0 l e.a.toNat).1 (at0 l e.a.toNat).2 (at0 l e.b.toNat).1 (at0 l e.b.toNat).2 ∈ e.r := by unfold metC relAt at hm; exact of_decide_eq_true hm
  have va := vldL_at h (show e.a.toNat < l.length by omega)
  have vb := vldL_at h (show e.b.toNat < l.length by omega)
  have hinv := relR_inv va vb
  have lt := relR_lt (at0 l e.a.toNat).1 (at0 l e.a.toNat).2 (at0 l e.b.toNat).1 (at0 l e.b.toNat).2
  have bs : (setN e.r).testBit (relR (at0 l e.a.toNat).1 (at0 l e.a.toNat).2 (at0 l e.b.toNat).1 (at0 l e.b.toNat).2).toNat = true := (setN_bit _ _).2 ⟨_, hmem, rfl⟩
  have s1 : Sub l.length (solN l) (upd M e.a.toNat e.b.toNat (M e.a.toNat e.b.toNat &&& setN e.r)) := by
    intro i j hi hj c hc
    unfold upd
    split
    · rename_i e1
      obtain ⟨rfl, rfl⟩ := e1
      rw [Nat.testBit_and, hS _ _ hi hj c hc, Bool.true_and]
      rw [solN_bit] at hc
      rw [← hc]
      exact bs
    · exact hS i j hi hj c hc
  unfold conS
  intro i j hi hj c hc
  have s1c := s1 i j hi hj c hc
  show (upd _ _ _ _ i j).testBit c = true
  generalize hM1 : upd M e.a.toNat e.b.toNat (M e.a.toNat e.b.toNat &&& setN e.r) = M1 at *
  unfold upd
  split
  · rename_i e1
    obtain ⟨rfl, rfl⟩ := e1
    rw [Nat.testBit_and, s1c, Bool.true_and, inv_bit]
    rw [solN_bit] at hc
    rw [← hc, hinv]
    refine ⟨by omega, ?_⟩
    rw [show 12 - (12 - relR (at0 l e.a.toNat).1 (at0 l e.a.toNat).2 (at0 l e.b.toNat).1 (at0 l e.b.toNat).2).toNat = (relR (at0 l e.a.toNat).1 (at0 l e.a.toNat).2 (at0 l e.b.toNat).1 (at0 l e.b.toNat).2).toNat by omega]
    exact bs
  · exact s1c
theorem perm_sub {l : List (Int × Int)} {c : List Con} (h : satB l c = true) : Sub l.length (solN l) (permN l.length c) := by
  unfold satB at h
  rw [Bool.and_eq_true, Bool.and_eq_true] at h
  obtain ⟨⟨h1, h2⟩, h3⟩ := h
  unfold permN
  have : ∀ (c : List Con) (M : Net), okL l.length c = true → c.all (metC l) = true → Sub l.length (solN l) M → Sub l.length (solN l) (c.foldl conS M) := by
    intro c
    induction c with
    | nil => intro M _ _ hS; exact hS
    | cons e c ih =>
      intro M g1 g2 hS
      unfold okL at g1
      rw [List.all_cons, Bool.and_eq_true] at g1 g2
      exact ih _ (by unfold okL; exact g1.2) g2.2 (conS_sub h2 g1.1 g2.1 hS)
  exact this c _ h1 h3 (sol_start h2)
theorem satB_vld {l : List (Int × Int)} {c : List Con} (h : satB l c = true) : vldL l = true ∧ okL l.length c = true := by
  unfold satB at h
  rw [Bool.and_eq_true, Bool.and_eq_true] at h
  exact ⟨h.1.2, h.1.1⟩
/-- What Tighten returns for satisfiable constraints: the network it ends in holds the relations of the periods. -/
theorem tres_sat {l : List (Int × Int)} {c l' : List Con} {b : Bool} (hs : satB l c = true) (h0 : 1 ≤ l.length) (h8 : l.length ≤ 8) (ht : TRes l.length c l' b) :
    b = true ∧ ∃ M, l' = conL l.length M ∧ Sub l.length (solN l) M ∧ PC l.length M ∧ ∀ i j x, (M i j).testBit x = true → (permN l.length c i j).testBit x = true := by
  obtain ⟨hv, hok⟩ := satB_vld hs
  rcases ht with ⟨h, _⟩ | ⟨_, ⟨f, hf⟩, _⟩ | ⟨_, M, f, hf, rfl, rfl⟩
  · exact absurd ⟨by omega, by omega, hok⟩ h
  · obtain ⟨i, j, hi, hj, hno⟩ := (tight_sub (sol_pc hv) f _ _ (perm_sub hs) (by simpa using hf)).1 rfl
    have := (solN_bit l i j _).2 rfl
    rw [hno] at this
    cases this
  · rw [Int.toNat_natCast] at hf ⊢
    obtain ⟨_, h2, h3⟩ := tight_end h8 f _ M hf
    exact ⟨rfl, M, rfl, (tight_sub (sol_pc hv) f _ _ (perm_sub hs) hf).2 M rfl, h2, h3⟩

theorem mb_ext {x y : Nat} (h : ∀ r, r < 13 → x.testBit r = y.testBit r) : mb x 13 = mb y 13 := by
  unfold mb
  congr 1
  exact List.filter_congr fun r hr => h r (List.mem_range.1 hr)
theorem tb00 (c : Nat) (h : (tb 0 0).testBit c = true) : c = 0 := by
  obtain ⟨p, q, r, hp, hq, hr, h1, h2, rfl⟩ := (tb_bit 0 0 c (by omega) (by omega)).1 h
  have : ∀ p q r : Fin 15, relN p.val q.val = 0 → relN q.val r.val = 0 → relN p.val r.val = 0 := by decide +kernel
  exact this ⟨p, hp⟩ ⟨q, hq⟩ ⟨r, hr⟩ h1 h2
def exC : List Con := [⟨0, 1, [0]⟩, ⟨1, 2, [0]⟩]
theorem ex_tight {l' : List Con} {b : Bool} (h : TRes 3 exC l' b) : b = true ∧ ∃ r0 r2, l' = [⟨0, 1, r0⟩, ⟨0, 2, [0]⟩, ⟨1, 2, r2⟩] := by
  obtain ⟨hb, M, rfl, hS, hP, hM⟩ := tres_sat (l := [(0, 1), (2, 3), (4, 5)]) (c := exC) (by decide) (by decide) (by decide) h
  refine ⟨hb, mb (M 0 1) 13, mb (M 1 2) 13, ?_⟩
  have e : mb (M 0 2) 13 = [0] := by
    rw [show ([0] : List Int) = mb 1 13 from by decide]
    refine mb_ext fun r hr => ?_
    cases hc : (M 0 2).testBit r
    · cases hd : (1 : Nat).testBit r
      · rfl
      · have hr0 : r = 0 := by
          rcases r with _ | r
          · rfl
          · rw [Nat.testBit_succ] at hd; simp at hd
        subst hr0
        have := hS 0 2 (by decide) (by decide) 0 (by decide)
        rw [hc] at this
        cases this
    · obtain ⟨x, y, _, _, h1, h2, h3⟩ := hP 0 2 1 (by decide) (by decide) (by decide) r hc
      have p1 := hM 0 1 x h1
      have p2 := hM 1 2 y h2
      have q1 : permN 3 exC 0 1 = 1 := by decide
      have q2 : permN 3 exC 1 2 = 1 := by decide
      have one : ∀ z : Nat, (1 : Nat).testBit z = true → z = 0 := by
        intro z hz
        rcases z with _ | z
        · rfl
        · rw [Nat.testBit_succ] at hz; simp at hz
      rw [show permN [((0 : Int), (1 : Int)), (2, 3), (4, 5)].length exC 0 1 = 1 from q1] at p1
      rw [show permN [((0 : Int), (1 : Int)), (2, 3), (4, 5)].length exC 1 2 = 1 from q2] at p2
      obtain rfl := one x p1
      obtain rfl := one y p2
      obtain rfl := tb00 r h3
      rfl
  show conL 3 M = _
  rw [← e]
  rfl
end Go.Proofs.YtmmecpmeemhglaaDoor
