/-
  Mathematics of keys: their bytes are ordered as the values are. Conditions: valid values.
-/
import Derived.Test.YtclpemmpckjemaaDoorCoR
import Derived.WalkKit
import Derived.WalkSpells
import Derived.WalkLawsBesides
import Derived.Deep.QuietTactic
import Derived.BigQuiet
import Derived.Handy
import Derived.Lib.Hide
namespace Go.Proofs.YtclpemmpckjemaaDoor
open Go.RowKit

theorem u8_lt {a b : UInt8} : (a < b) ↔ a.toNat < b.toNat := Iff.rfl
theorem bl_lt {a b : UInt8} (x y : List UInt8) (h : a < b) : Op.bytesLess (a :: x) (b :: y) = true := by
  unfold Op.bytesLess; simp [h]
theorem bl_gt {a b : UInt8} (x y : List UInt8) (h : b < a) : Op.bytesLess (a :: x) (b :: y) = false := by
  unfold Op.bytesLess
  have h1 : ¬ a < b := fun h2 => by rw [u8_lt] at h h2; omega
  have h2 : (a == b) = false := by
    rw [beq_eq_false_iff_ne]; intro e; subst e; rw [u8_lt] at h; omega
  simp [h1, h2]
theorem bl_eq (a : UInt8) (x y : List UInt8) : Op.bytesLess (a :: x) (a :: y) = Op.bytesLess x y := by
  conv => lhs; unfold Op.bytesLess
  have h1 : ¬ a < a := fun h2 => by rw [u8_lt] at h2; omega
  simp [h1]
theorem bl_cancel (c x y : List UInt8) : Op.bytesLess (c ++ x) (c ++ y) = Op.bytesLess x y := by
  induction c with
  | nil => rfl
  | cons a c ih => show Op.bytesLess (a :: (c ++ x)) (a :: (c ++ y)) = _; rw [bl_eq, ih]
theorem bl_nil (y : List UInt8) : Op.bytesLess y [] = false := by cases y <;> rfl
theorem tri (a b : UInt8) : a < b ∨ a = b ∨ b < a := by
  rcases Nat.lt_trichotomy a.toNat b.toNat with h | h | h
  · exact .inl h
  · exact .inr (.inl (UInt8.toNat_inj.1 h))
  · exact .inr (.inr h)
/-- The number that bytes stand for, the most significant first. -/
def beN : List UInt8 → Nat
  | [] => 0
  | a :: l => a.toNat * 256 ^ l.length + beN l
theorem beN_lt : ∀ l : List UInt8, beN l < 256 ^ l.length
  | [] => by decide
  | a :: l => by
    have h := beN_lt l
    have ha := a.toNat_lt
    rw [List.length_cons, Nat.pow_succ]
    show a.toNat * 256 ^ l.length + beN l < _
    have h2 : a.toNat * 256 ^ l.length ≤ 255 * 256 ^ l.length := Nat.mul_le_mul_right _ (by omega)
    omega
theorem bl_same : ∀ (l m x y : List UInt8), l.length = m.length → Op.bytesLess (l ++ x) (m ++ y) = if l = m then Op.bytesLess x y else decide (beN l < beN m)
  | [], [], x, y, _ => by simp
  | [], b :: m, _, _, h => by simp at h
  | a :: l, [], _, _, h => by simp at h
  | a :: l, b :: m, x, y, h => by
    have hl : l.length = m.length := by simpa using h
    have ih := bl_same l m x y hl
    have k1 := beN_lt l
    have k2 := beN_lt m
    show Op.bytesLess (a :: (l ++ x)) (b :: (m ++ y)) = if a :: l = b :: m then _ else decide (a.toNat * 256 ^ l.length + beN l < b.toNat * 256 ^ m.length + beN m)
    rw [← hl] at k2 ⊢
    rcases tri a b with h1 | h1 | h1
    · rw [bl_lt _ _ h1, if_neg (by intro e; injection e with e1; subst e1; rw [u8_lt] at h1; omega), decide_eq_true]
      rw [u8_lt] at h1
      have : (a.toNat + 1) * 256 ^ l.length ≤ b.toNat * 256 ^ l.length := Nat.mul_le_mul_right _ (by omega)
      rw [Nat.add_mul] at this
      omega
    · subst h1
      rw [bl_eq, ih]
      by_cases he : l = m
      · rw [if_pos he, if_pos (by rw [he])]
      · rw [if_neg he, if_neg (by intro e; injection e with _ e2; exact he e2)]
        congr 1
        rw [eq_iff_iff]
        omega
    · rw [bl_gt _ _ h1, if_neg (by intro e; injection e with e1; subst e1; rw [u8_lt] at h1; omega), decide_eq_false]
      rw [u8_lt] at h1
      have : (b.toNat + 1) * 256 ^ l.length ≤ a.toNat * 256 ^ l.length := Nat.mul_le_mul_right _ (by omega)
      rw [Nat.add_mul] at this
      omega
theorem beN_ord {N : Nat} (h : N < 18446744073709551616) : beN (ordB N) = N := by
  unfold ordB
  simp only [beN, UInt8.toNat_ofNat', List.length_cons, List.length_nil]
  omega
theorem ordB_inj {N M : Nat} (hN : N < 18446744073709551616) (hM : M < 18446744073709551616) (h : ordB N = ordB M) : N = M := by
  rw [← beN_ord hN, ← beN_ord hM, h]
theorem bl_ord {n m : Int} (hn : I64 n) (hm : I64 m) (x y : List UInt8) : Op.bytesLess (ordB (shf n) ++ x) (ordB (shf m) ++ y) = if n = m then Op.bytesLess x y else decide (n < m) := by
  have h1 : shf n < 18446744073709551616 := by unfold shf I64 at *; omega
  have h2 : shf m < 18446744073709551616 := by unfold shf I64 at *; omega
  rw [bl_same (ordB (shf n)) (ordB (shf m)) x y rfl, beN_ord h1, beN_ord h2]
  by_cases h : n = m
  · subst h; rw [if_pos rfl, if_pos rfl]
  · have h3 : shf n ≠ shf m := by unfold shf I64 at *; omega
    rw [if_neg h, if_neg (fun e => h3 (ordB_inj h1 h2 e))]
    congr 1
    rw [eq_iff_iff]
    unfold shf I64 at *; omega
theorem bl_text : ∀ (s t x y : List UInt8), prnB s = true → prnB t = true → Op.bytesLess (s ++ 0 :: x) (t ++ 0 :: y) = if s = t then Op.bytesLess x y else Op.bytesLess s t
  | [], [], x, y, _, _ => by rw [if_pos rfl]; exact bl_eq 0 x y
  | [], b :: t, x, y, _, ht => by
    have hb : (0 : UInt8) < b := by
      unfold prnB at ht
      simp only [List.all_cons, Bool.and_eq_true, decide_eq_true_eq] at ht
      rw [u8_lt]; show 0 < _; omega
    rw [if_neg (by intro e; cases e)]
    exact bl_lt _ _ hb
  | a :: s, [], x, y, hs, _ => by
    have ha : (0 : UInt8) < a := by
      unfold prnB at hs
      simp only [List.all_cons, Bool.and_eq_true, decide_eq_true_eq] at hs
      rw [u8_lt]; show 0 < _; omega
    rw [if_neg (by intro e; cases e), bl_nil]
    exact bl_gt _ _ ha
  | a :: s, b :: t, x, y, hs, ht => by
    have hs2 : prnB s = true := by unfold prnB at hs ⊢; simp only [List.all_cons, Bool.and_eq_true] at hs; exact hs.2
    have ht2 : prnB t = true := by unfold prnB at ht ⊢; simp only [List.all_cons, Bool.and_eq_true] at ht; exact ht.2
    have ih := bl_text s t x y hs2 ht2
    show Op.bytesLess (a :: (s ++ 0 :: x)) (b :: (t ++ 0 :: y)) = _
    rcases tri a b with h1 | h1 | h1
    · rw [bl_lt _ _ h1, if_neg (by intro e; injection e with e1; subst e1; rw [u8_lt] at h1; omega), bl_lt _ _ h1]
    · subst h1
      rw [bl_eq, ih, bl_eq]
      by_cases he : s = t
      · rw [if_pos he, if_pos (by rw [he])]
      · rw [if_neg he, if_neg (by intro e; injection e with _ e2; exact he e2)]
    · rw [bl_gt _ _ h1, if_neg (by intro e; injection e with e1; subst e1; rw [u8_lt] at h1; omega), bl_gt _ _ h1]
/-! ### values -/
/-- p lies before q. -/
def lessP (p q : Vl) : Bool := decide (p.1 < q.1) || (decide (p.1 = q.1) && (decide (p.2.1 < q.2.1) || (decide (p.2.1 = q.2.1) && Op.bytesLess p.2.2.toList q.2.2.toList)))
theorem mk_ext {s t : ByteArray} (h : s.data.toList = t.data.toList) : s = t := by
  cases s with
  | mk a => cases t with
    | mk b =>
      have : a = b := by simpa using congrArg List.toArray h
      rw [this]
set_option maxRecDepth 100000 in
theorem bl_key (p q : Vl) (hp : okP p = true) (hq : okP q = true) (x y : List UInt8) : Op.bytesLess (keyV p ++ x) (keyV q ++ y) = if p = q then Op.bytesLess x y else lessP p q := by
  rcases okP_cases hp with rfl | ⟨n, rfl, h1, h2⟩ | ⟨s, rfl, h1, h2⟩ | rfl | rfl <;> rcases okP_cases hq with rfl | ⟨m, rfl, k1, k2⟩ | ⟨t, rfl, k1, k2⟩ | rfl | rfl
  · rw [if_pos rfl]; exact bl_eq 1 x y
  · rw [if_neg (by intro e; simp at e)]; exact (bl_lt (a := 1) (b := 2) _ _ (by decide)).trans (by simp [lessP])
  · rw [if_neg (by intro e; simp at e)]; exact (bl_lt (a := 1) (b := 3) _ _ (by decide)).trans (by simp [lessP])
  · rw [if_neg (by intro e; simp at e)]; exact (bl_lt (a := 1) (b := 4) _ _ (by decide)).trans (by simp [lessP])
  · rw [if_neg (by intro e; simp at e)]; exact (bl_lt (a := 1) (b := 4) _ _ (by decide)).trans (by simp [lessP])
  · rw [if_neg (by intro e; simp at e)]; exact (bl_gt (a := 2) (b := 1) _ _ (by decide)).trans (by simp [lessP])
  · show Op.bytesLess (2 :: (ordB (shf n) ++ x)) (2 :: (ordB (shf m) ++ y)) = _
    rw [bl_eq, bl_ord ⟨by omega, by omega⟩ ⟨by omega, by omega⟩]
    by_cases h : n = m
    · subst h; rw [if_pos rfl, if_pos rfl]
    · rw [if_neg h, if_neg (by intro e; simp at e; exact h e)]
      simp [lessP, h]
  · rw [if_neg (by intro e; simp at e)]; exact (bl_lt (a := 2) (b := 3) _ _ (by decide)).trans (by simp [lessP])
  · rw [if_neg (by intro e; simp at e)]; exact (bl_lt (a := 2) (b := 4) _ _ (by decide)).trans (by simp [lessP])
  · rw [if_neg (by intro e; simp at e)]; exact (bl_lt (a := 2) (b := 4) _ _ (by decide)).trans (by simp [lessP])
  · rw [if_neg (by intro e; simp at e)]; exact (bl_gt (a := 3) (b := 1) _ _ (by decide)).trans (by simp [lessP])
  · rw [if_neg (by intro e; simp at e)]; exact (bl_gt (a := 3) (b := 2) _ _ (by decide)).trans (by simp [lessP])
  · have e1 : keyV (2, 0, s) ++ x = 3 :: (s.data.toList ++ 0 :: x) := by show ([3] ++ s.data.toList ++ [0]) ++ x = _; simp
    have e2 : keyV (2, 0, t) ++ y = 3 :: (t.data.toList ++ 0 :: y) := by show ([3] ++ t.data.toList ++ [0]) ++ y = _; simp
    rw [e1, e2, bl_eq, bl_text _ _ x y h2 k2]
    by_cases h : s = t
    · subst h; rw [if_pos rfl, if_pos rfl]
    · rw [if_neg (fun e => h (mk_ext e)), if_neg (by intro e; simp at e; exact h e)]
      simp [lessP, Lib.toList_data]
  · rw [if_neg (by intro e; simp at e)]; exact (bl_lt (a := 3) (b := 4) _ _ (by decide)).trans (by simp [lessP])
  · rw [if_neg (by intro e; simp at e)]; exact (bl_lt (a := 3) (b := 4) _ _ (by decide)).trans (by simp [lessP])
  · rw [if_neg (by intro e; simp at e)]; exact (bl_gt (a := 4) (b := 1) _ _ (by decide)).trans (by simp [lessP])
  · rw [if_neg (by intro e; simp at e)]; exact (bl_gt (a := 4) (b := 2) _ _ (by decide)).trans (by simp [lessP])
  · rw [if_neg (by intro e; simp at e)]; exact (bl_gt (a := 4) (b := 3) _ _ (by decide)).trans (by simp [lessP])
  · rw [if_pos rfl]; exact (bl_eq 4 _ _).trans (bl_eq 0 x y)
  · rw [if_neg (by intro e; simp at e)]; exact ((bl_eq 4 _ _).trans (bl_lt (a := 0) (b := 1) _ _ (by decide))).trans (by simp [lessP])
  · rw [if_neg (by intro e; simp at e)]; exact (bl_gt (a := 4) (b := 1) _ _ (by decide)).trans (by simp [lessP])
  · rw [if_neg (by intro e; simp at e)]; exact (bl_gt (a := 4) (b := 2) _ _ (by decide)).trans (by simp [lessP])
  · rw [if_neg (by intro e; simp at e)]; exact (bl_gt (a := 4) (b := 3) _ _ (by decide)).trans (by simp [lessP])
  · rw [if_neg (by intro e; simp at e)]; exact ((bl_eq 4 _ _).trans (bl_gt (a := 1) (b := 0) _ _ (by decide))).trans (by simp [lessP])
  · rw [if_pos rfl]; exact (bl_eq 4 _ _).trans (bl_eq 1 x y)
theorem bl_total : ∀ s t : List UInt8, s ≠ t → Op.bytesLess s t = !Op.bytesLess t s
  | [], [], h => absurd rfl h
  | [], b :: t, _ => rfl
  | a :: s, [], _ => rfl
  | a :: s, b :: t, h => by
    rcases tri a b with h1 | h1 | h1
    · rw [bl_lt _ _ h1, bl_gt _ _ h1]; rfl
    · subst h1
      rw [bl_eq, bl_eq]
      exact bl_total s t (fun e => h (by rw [e]))
    · rw [bl_lt _ _ h1, bl_gt _ _ h1]; rfl
theorem lessP_total (p q : Vl) (h : p ≠ q) : lessP p q = !lessP q p := by
  obtain ⟨k, n, s⟩ := p
  obtain ⟨k2, n2, t⟩ := q
  unfold lessP
  dsimp only
  rcases Int.lt_trichotomy k k2 with h1 | h1 | h1
  · simp [h1, show ¬ k2 < k by omega, show ¬ k2 = k by omega]
  · subst h1
    rcases Int.lt_trichotomy n n2 with h2 | h2 | h2
    · simp [h2, show ¬ n2 < n by omega, show ¬ n2 = n by omega]
    · subst h2
      have hst : s.toList ≠ t.toList := fun e => h (by rw [mk_ext (s := s) (t := t) (by rw [← Lib.toList_data, ← Lib.toList_data]; exact e)])
      simp [bl_total _ _ hst]
    · simp [h2, show ¬ n < n2 by omega, show ¬ n = n2 by omega]
  · simp [h1, show ¬ k < k2 by omega, show ¬ k = k2 by omega]
/-- The order of rows. -/
def cmpR : List Vl → List Vl → Int
  | [], [] => 0
  | [], _ :: _ => -1
  | _ :: _, [] => 1
  | p :: ps, q :: qs => if lessP p q = true then -1 else if p = q then cmpR ps qs else 1
def sgnB (x y : List UInt8) : Int := if Op.bytesLess x y = true then -1 else if Op.bytesLess y x = true then 1 else 0
theorem keyL_cons (p : Vl) (ps : List Vl) : keyL (p :: ps) = keyV p ++ keyL ps := by unfold keyL; simp
theorem keyV_cons (p : Vl) : ∃ b t, keyV p = b :: t := by
  unfold keyV
  split
  · exact ⟨_, _, rfl⟩
  · split
    · exact ⟨_, _, rfl⟩
    · split <;> exact ⟨_, _, rfl⟩
theorem bl_irr : ∀ x : List UInt8, Op.bytesLess x x = false
  | [] => rfl
  | a :: x => by rw [bl_eq]; exact bl_irr x
theorem lessP_irr (p : Vl) : lessP p p = false := by
  unfold lessP; simp [bl_irr]
theorem key_order : ∀ ps qs : List Vl, okL ps = true → okL qs = true → sgnB (keyL ps) (keyL qs) = cmpR ps qs
  | [], [], _, _ => by decide
  | [], q :: qs, _, _ => by
    obtain ⟨b, t, h⟩ := keyV_cons q
    rw [keyL_cons, h]; rfl
  | p :: ps, [], _, _ => by
    obtain ⟨b, t, h⟩ := keyV_cons p
    rw [keyL_cons, h]; rfl
  | p :: ps, q :: qs, hp, hq => by
    unfold okL at hp hq
    simp only [List.all_cons, Bool.and_eq_true] at hp hq
    have ih := key_order ps qs (by unfold okL; exact hp.2) (by unfold okL; exact hq.2)
    unfold sgnB at ih ⊢
    rw [keyL_cons, keyL_cons, bl_key p q hp.1 hq.1, bl_key q p hq.1 hp.1]
    show _ = if lessP p q = true then -1 else if p = q then cmpR ps qs else 1
    by_cases h : p = q
    · subst h
      rw [if_pos rfl, if_pos rfl, ih, lessP_irr, if_neg (by decide), if_pos rfl]
    · rw [show (if p = q then Op.bytesLess (keyL ps) (keyL qs) else lessP p q) = lessP p q from if_neg h, show (if q = p then Op.bytesLess (keyL qs) (keyL ps) else lessP q p) = lessP q p from if_neg (fun e => h e.symm), show (if p = q then cmpR ps qs else (1 : Int)) = 1 from if_neg h]
      have ht := lessP_total p q h
      cases hl : lessP p q
      · rw [hl] at ht
        have : lessP q p = true := by simpa using ht.symm
        rw [this, if_neg (by decide), if_pos rfl, if_neg (by decide)]
      · rw [if_pos rfl, if_pos rfl]
end Go.Proofs.YtclpemmpckjemaaDoor
