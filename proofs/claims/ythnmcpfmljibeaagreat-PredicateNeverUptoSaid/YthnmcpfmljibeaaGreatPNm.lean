import Derived.Test.YthnmcpfmljibeaaGreatPXm
import Derived.Test.YthnmcpfmljibeaaGreatMT
import Derived.WalkKit
import Derived.WalkSpells
import Derived.WalkLawsBesides
import Derived.Deep.QuietTactic
import Derived.BigQuiet
import Derived.Handy
import Derived.Lib.Hide
import Derived.Test.YthnmcpfmljibeaaGreatPN
import Derived.Test.YthnmcpfmljibeaaGreatQEE
/-
  Never by the program and by the reference answer the same (mathematics). Conditions: the values of conditions are valid and no nulls.
-/
namespace Go.Proofs.YthnmcpfmljibeaaGreat
set_option maxRecDepth 100000
set_option linter.unusedVariables false
set_option linter.unusedSimpArgs false
open Go.RowKit

def lowO (op : Int) : Bool := op == 7 || op == 11 || op == 12
def uppO (op : Int) : Bool := op == 7 || op == 9 || op == 10
def txL (s t : ByteArray) : Bool := Op.bytesLess s.toList t.toList
def txE (s t : ByteArray) : Bool := s.toList == t.toList
/-- Whether two conditions on texts contradict each other. -/
def txtC (a b : Cnd) : Bool :=
  if b.op = 9 ∧ Va.emp b.v.2.2 = true then true
  else if lowO a.op = false ∨ uppO b.op = false then false
  else !(txL a.v.2.2 b.v.2.2 || txE a.v.2.2 b.v.2.2) || (txE a.v.2.2 b.v.2.2 && (a.op == 11 || b.op == 9))
/-- The loop of contradict. -/
def conL (k0 : Int) (all : List Cnd) : List Cnd → Int × Int → Bool
  | [], r => decide (k0 ≠ 2 ∧ r.2 < r.1)
  | c :: t, r => if c.v.1 ≠ k0 then true else if k0 = 2 ∧ (all.any fun x => x.v.1 == 2 && txtC c x) = true then true else conL k0 all t (narR r c)
def iniR (k0 : Int) : Int × Int := if k0 = 3 then (0, 1) else (-1125899906842624, 1125899906842624)
def conR : List Cnd → Bool
  | [] => false
  | c :: t => conL c.v.1 (c :: t) (c :: t) (iniR c.v.1)
def nevR (cs : List Ex) : Bool := cs.any nevA || (cs.filterMap condE).any fun x => conR (onC (cs.filterMap condE) x.col)
/-! ### Bounds of texts -/
abbrev Bd := Vl × Bool
def abP (p b : Bd) : Bd := if 0 < cmpP b.1 p.1 ∨ cmpP b.1 p.1 = 0 ∧ b.2 = true then b else p
def blP (p b : Bd) : Bd := if cmpP b.1 p.1 < 0 ∨ cmpP b.1 p.1 = 0 ∧ b.2 = true then b else p
def bad (x y : Bd) : Prop := 0 < cmpP x.1 y.1 ∨ cmpP x.1 y.1 = 0 ∧ (x.2 = true ∨ y.2 = true)
theorem cmp_gt (p q : Vl) : 0 < cmpP p q ↔ lessP q p = true := by
  rw [← cmpP_lt, cmpP_neg p q]
  omega
theorem bad_iff (x y : Bd) : bad x y ↔ lessP y.1 x.1 = true ∨ x.1 = y.1 ∧ (x.2 = true ∨ y.2 = true) := by
  unfold bad
  rw [cmp_gt, cmpP_zero]
theorem less_tri (p q : Vl) : lessP p q = true ∨ p = q ∨ lessP q p = true := by
  by_cases h : p = q
  · exact .inr (.inl h)
  · have h2 := lessP_total p q h
    cases h3 : lessP q p
    · rw [h3] at h2; exact .inl h2
    · exact .inr (.inr rfl)
theorem less_asym {p q : Vl} (h : lessP p q = true) : ¬ lessP q p = true := fun h2 => by
  have h3 := lessP_trans _ _ _ h h2
  rw [lessP_irr] at h3
  cases h3
theorem bad_ab (p b y : Bd) : bad (abP p b) y ↔ bad p y ∨ bad b y := by
  unfold abP
  obtain ⟨p1, p2⟩ := p
  obtain ⟨b1, b2⟩ := b
  obtain ⟨y1, y2⟩ := y
  dsimp only
  split
  · rename_i h
    rw [cmp_gt, cmpP_zero] at h
    constructor
    · exact .inr
    · rintro (h2 | h2)
      · rw [bad_iff] at h2 ⊢
        dsimp only at h2 ⊢
        rcases h with h | ⟨rfl, rfl⟩
        · rcases h2 with h2 | ⟨rfl, _⟩
          · exact .inl (lessP_trans _ _ _ h2 h)
          · exact .inl h
        · rcases h2 with h2 | ⟨rfl, _⟩
          · exact .inl h2
          · exact .inr ⟨rfl, .inl rfl⟩
      · exact h2
  · rename_i h
    rw [cmp_gt, cmpP_zero] at h
    constructor
    · exact .inl
    · rintro (h2 | h2)
      · exact h2
      · rw [bad_iff] at h2 ⊢
        dsimp only at h2 ⊢
        rcases less_tri b1 p1 with h3 | rfl | h3
        · rcases h2 with h2 | ⟨rfl, _⟩
          · exact .inl (lessP_trans _ _ _ h2 h3)
          · exact .inl h3
        · rcases h2 with h2 | ⟨rfl, h4 | h4⟩
          · exact .inl h2
          · exact absurd (.inr ⟨rfl, h4⟩) h
          · exact .inr ⟨rfl, .inr h4⟩
        · exact absurd (.inl h3) h
theorem bad_bl (x p b : Bd) : bad x (blP p b) ↔ bad x p ∨ bad x b := by
  unfold blP
  obtain ⟨p1, p2⟩ := p
  obtain ⟨b1, b2⟩ := b
  obtain ⟨x1, x2⟩ := x
  dsimp only
  split
  · rename_i h
    rw [cmpP_lt, cmpP_zero] at h
    constructor
    · exact .inr
    · rintro (h2 | h2)
      · rw [bad_iff] at h2 ⊢
        dsimp only at h2 ⊢
        rcases h with h | ⟨rfl, rfl⟩
        · rcases h2 with h2 | ⟨rfl, _⟩
          · exact .inl (lessP_trans _ _ _ h h2)
          · exact .inl h
        · rcases h2 with h2 | ⟨rfl, _⟩
          · exact .inl h2
          · exact .inr ⟨rfl, .inr rfl⟩
      · exact h2
  · rename_i h
    rw [cmpP_lt, cmpP_zero] at h
    constructor
    · exact .inl
    · rintro (h2 | h2)
      · exact h2
      · rw [bad_iff] at h2 ⊢
        dsimp only at h2 ⊢
        rcases less_tri p1 b1 with h3 | rfl | h3
        · rcases h2 with h2 | ⟨rfl, _⟩
          · exact .inl (lessP_trans _ _ _ h3 h2)
          · exact .inl h3
        · rcases h2 with h2 | ⟨rfl, h4 | h4⟩
          · exact .inl h2
          · exact .inr ⟨rfl, .inl h4⟩
          · exact absurd (.inr ⟨rfl, h4⟩) h
        · exact absurd (.inl h3) h
theorem bad_abs (y : Bd) : ∀ (L : List Bd) (p : Bd), bad (L.foldl abP p) y ↔ bad p y ∨ ∃ b ∈ L, bad b y
  | [], p => by simp
  | b :: L, p => by
    rw [List.foldl_cons, bad_abs y L, bad_ab]
    simp only [List.mem_cons, exists_eq_or_imp, or_assoc]
theorem bad_bls (x : Bd) : ∀ (L : List Bd) (p : Bd), bad x (L.foldl blP p) ↔ bad x p ∨ ∃ b ∈ L, bad x b
  | [], p => by simp
  | b :: L, p => by
    rw [List.foldl_cons, bad_bls x L, bad_bl]
    simp only [List.mem_cons, exists_eq_or_imp, or_assoc]
def itvP (p q : Bd) : Itv := ⟨p.1, p.2, q.1, q.2, false⟩
theorem abv_P (p q : Bd) (v : Vl) (s : Bool) : abvI (itvP p q) v s = itvP (abP p (v, s)) q := by
  unfold abvI abP itvP
  dsimp only
  split <;> rfl
theorem blw_P (p q : Bd) (v : Vl) (s : Bool) : blwI (itvP p q) v s = itvP p (blP q (v, s)) := by
  unfold blwI blP itvP
  dsimp only
  split <;> rfl
def lows (c : Cnd) : List Bd := if c.op = 7 then [(c.v, false)] else if c.op = 11 then [(c.v, true)] else if c.op = 12 then [(c.v, false)] else []
def upps (c : Cnd) : List Bd := if c.op = 7 then [(c.v, false)] else if c.op = 11 then [] else if c.op = 12 then [] else if c.op = 9 then [(c.v, true)] else [(c.v, false)]
theorem nar_P (p q : Bd) (c : Cnd) (h1 : c.v.1 = 2) (h2 : p.1.1 = 2) : narI (itvP p q) c = itvP ((lows c).foldl abP p) ((upps c).foldl blP q) := by
  have hb : ∀ st, beyI c.v st = (c.v, true) := fun st => by unfold beyI; rw [if_pos h1]
  unfold narI lows upps
  rw [if_neg (by rw [h1]; show ¬ (2 : Int) ≠ p.1.1; rw [h2]; simp)]
  by_cases h7 : c.op = 7
  · rw [if_pos h7, if_pos h7, if_pos h7, abv_P, blw_P]; rfl
  rw [if_neg h7, if_neg h7, if_neg h7]
  by_cases h11 : c.op = 11
  · rw [if_pos h11, if_pos h11, if_pos h11, hb, abv_P]; rfl
  rw [if_neg h11, if_neg h11, if_neg h11]
  by_cases h12 : c.op = 12
  · rw [if_pos h12, if_pos h12, if_pos h12, abv_P]; rfl
  rw [if_neg h12, if_neg h12, if_neg h12]
  by_cases h9 : c.op = 9
  · rw [if_pos h9, if_pos h9, hb, blw_P]; rfl
  rw [if_neg h9, if_neg h9, blw_P]; rfl
theorem abs_kind (L : List Bd) (hL : ∀ b ∈ L, b.1.1 = 2) : ∀ p : Bd, p.1.1 = 2 → (L.foldl abP p).1.1 = 2 := by
  induction L with
  | nil => intro p h; exact h
  | cons b L ih =>
    intro p h
    rw [List.foldl_cons]
    refine ih (fun x hx => hL x (List.mem_cons_of_mem _ hx)) _ ?_
    unfold abP
    split
    · exact hL b List.mem_cons_self
    · exact h
theorem lows_mem {c : Cnd} {b : Bd} (h : b ∈ lows c) : b.1 = c.v := by
  unfold lows at h
  split at h
  · rw [List.mem_singleton.1 h]
  · split at h
    · rw [List.mem_singleton.1 h]
    · split at h
      · rw [List.mem_singleton.1 h]
      · cases h
theorem upps_mem {c : Cnd} {b : Bd} (h : b ∈ upps c) : b.1 = c.v := by
  unfold upps at h
  split at h
  · rw [List.mem_singleton.1 h]
  · split at h
    · cases h
    · split at h
      · cases h
      · split at h
        · rw [List.mem_singleton.1 h]
        · rw [List.mem_singleton.1 h]
theorem fold_P (l : List Cnd) (hk : ∀ c ∈ l, c.v.1 = 2) : ∀ p q : Bd, p.1.1 = 2 → l.foldl narI (itvP p q) = itvP ((l.flatMap lows).foldl abP p) ((l.flatMap upps).foldl blP q) := by
  induction l with
  | nil => intro p q _; rfl
  | cons c l ih =>
    intro p q hp
    rw [List.foldl_cons, nar_P p q c (hk c List.mem_cons_self) hp, ih (fun x hx => hk x (List.mem_cons_of_mem _ hx)) _ _ (abs_kind _ (fun b hb => by rw [lows_mem hb]; exact hk c List.mem_cons_self) p hp)]
    rw [List.flatMap_cons, List.flatMap_cons, List.foldl_append, List.foldl_append]
theorem emp_P (p q : Bd) : empI (itvP p q) = true ↔ bad p q := by
  unfold empI bad itvP
  simp
theorem v_txt {v : Vl} (hv : vldP v = true) (h1 : v.1 = 2) : v = (2, 0, v.2.2) ∧ Va.prnL v.2.2.data.toList = true := by
  obtain ⟨k, n, s⟩ := v
  dsimp only at h1
  subst h1
  unfold vldP Va.vldV at hv
  dsimp only at hv
  rw [if_neg (by omega), if_neg (by omega), if_pos rfl] at hv
  simp only [Bool.and_eq_true, decide_eq_true_eq] at hv
  obtain ⟨⟨h2, _⟩, h3⟩ := hv
  subst h2
  exact ⟨rfl, h3⟩
theorem emp_iff (s : ByteArray) : Va.emp s = true ↔ s = ⟨#[]⟩ := by
  unfold Va.emp
  constructor
  · intro h
    have h6 : s.toList = [] := by simpa using h
    exact mk_ext (by rw [← Lib.toList_data, ← Lib.toList_data, h6, Lib.toList_data])
  · rintro rfl
    rw [Lib.toList_data]
    rfl
theorem less_txt (s t : ByteArray) : lessP (2, 0, s) (2, 0, t) = txL s t := by
  unfold lessP txL
  simp
theorem less_top {s : ByteArray} (h : Va.prnL s.data.toList = true) : lessP (2, 0, s) (2, 0, ⟨#[127]⟩) = true := by
  rw [less_txt]
  unfold txL
  rw [Lib.toList_data, Lib.toList_data]
  generalize s.data.toList = l at *
  cases l with
  | nil => rfl
  | cons a l =>
    unfold Va.prnL at h
    simp only [List.all_cons, Bool.and_eq_true, decide_eq_true_eq] at h
    have h2 : a < 127 := by
      show a.toNat < 127
      omega
    show Op.bytesLess (a :: l) [127] = true
    unfold Op.bytesLess
    simp [h2]
theorem not_less_emp (s : ByteArray) : lessP (2, 0, s) (2, 0, ⟨#[]⟩) = false := by
  rw [less_txt]
  unfold txL
  rw [Lib.toList_data, Lib.toList_data]
  generalize s.data.toList = l
  cases l <;> rfl
theorem less_of_emp {s : ByteArray} (h : s ≠ ⟨#[]⟩) : lessP (2, 0, ⟨#[]⟩) (2, 0, s) = true := by
  rcases less_tri (2, 0, ⟨#[]⟩) (2, 0, s) with h2 | h2 | h2
  · exact h2
  · injection h2 with _ h2
    injection h2 with _ h2
    exact absurd h2.symm h
  · rw [not_less_emp] at h2
    cases h2
theorem lows_ex (a : Cnd) (P : Bd → Prop) : (∃ x ∈ lows a, P x) ↔ lowO a.op = true ∧ P (a.v, a.op == 11) := by
  unfold lows lowO
  by_cases h7 : a.op = 7
  · rw [if_pos h7, h7]; simp
  rw [if_neg h7]
  by_cases h11 : a.op = 11
  · rw [if_pos h11, h11]; simp
  rw [if_neg h11]
  by_cases h12 : a.op = 12
  · rw [if_pos h12, h12]; simp
  rw [if_neg h12]
  simp [h7, h11, h12]
theorem upps_ex (a : Cnd) (h : cmqO a.op = true) (P : Bd → Prop) : (∃ x ∈ upps a, P x) ↔ uppO a.op = true ∧ P (a.v, a.op == 9) := by
  unfold upps uppO
  by_cases h7 : a.op = 7
  · rw [if_pos h7, h7]; simp
  rw [if_neg h7]
  by_cases h11 : a.op = 11
  · rw [if_pos h11, h11]; simp
  rw [if_neg h11]
  by_cases h12 : a.op = 12
  · rw [if_pos h12, h12]; simp
  rw [if_neg h12]
  by_cases h9 : a.op = 9
  · rw [if_pos h9, h9]; simp
  rw [if_neg h9]
  have h10 : a.op = 10 := by
    unfold cmqO at h
    simp only [Bool.or_eq_true, beq_iff_eq] at h
    omega
  rw [h10]; simp
theorem txt_bad {a b : Cnd} (ha : vldP a.v = true) (hb : vldP b.v = true) (ha2 : a.v.1 = 2) (hb2 : b.v.1 = 2) (ho : cmqO b.op = true) :
    txtC a b = true ↔ (∃ y ∈ upps b, bad ((2, 0, ⟨#[]⟩), false) y) ∨ ∃ x ∈ lows a, ∃ y ∈ upps b, bad x y := by
  rw [lows_ex, upps_ex _ ho, upps_ex _ ho]
  obtain ⟨oa, ca, va⟩ := a
  obtain ⟨ob, cb, vb⟩ := b
  dsimp only at ha hb ha2 hb2 ho ⊢
  obtain ⟨ea, pa⟩ := v_txt ha ha2
  obtain ⟨eb, pb⟩ := v_txt hb hb2
  generalize va.2.2 = s at *
  generalize vb.2.2 = t at *
  subst ea eb
  have hE : txE s t = true ↔ s = t := by
    unfold txE
    rw [beq_iff_eq]
    exact ⟨fun e => mk_ext (by rw [← Lib.toList_data, ← Lib.toList_data]; exact e), fun e => by rw [e]⟩
  have hP : ((2, 0, s) : Vl) = (2, 0, t) ↔ s = t := by simp
  have hG : lessP (2, 0, t) (2, 0, s) = true ↔ (!(txL s t || txE s t)) = true := by
    rw [← less_txt s t]
    constructor
    · intro h
      have h2 := less_asym h
      have h3 : ¬ s = t := by rintro rfl; rw [lessP_irr] at h; cases h
      rw [← hE] at h3
      simp [h2, h3]
    · intro h
      simp only [Bool.not_eq_true', Bool.or_eq_false_iff] at h
      rcases less_tri (2, 0, s) (2, 0, t) with h2 | h2 | h2
      · rw [h2] at h; cases h.1
      · rw [hP, ← hE] at h2; rw [h2] at h; cases h.2
      · exact h2
  have hbad : ∀ sa sb, bad ((2, 0, s), sa) ((2, 0, t), sb) ↔ ((!(txL s t || txE s t)) = true ∨ txE s t = true ∧ (sa = true ∨ sb = true)) := fun sa sb => by
    rw [bad_iff]
    dsimp only
    rw [hG, hP, hE]
  have hemp : ∀ sb, bad ((2, 0, ⟨#[]⟩), false) ((2, 0, t), sb) ↔ (Va.emp t = true ∧ sb = true) := fun sb => by
    rw [bad_iff]
    dsimp only
    rw [not_less_emp, emp_iff]
    simp only [Bool.false_eq_true, false_or, Prod.mk.injEq, true_and]
    exact ⟨fun h => ⟨h.1.symm, h.2⟩, fun h => ⟨h.1.symm, h.2⟩⟩
  rw [hbad, hemp]
  unfold txtC
  dsimp only
  generalize txE s t = eq
  generalize txL s t = lt
  generalize Va.emp t = em
  by_cases h9 : ob = 9 ∧ em = true
  · rw [if_pos h9]
    obtain ⟨rfl, rfl⟩ := h9
    simp [uppO]
  · rw [if_neg h9]
    have h8 : ¬ (uppO ob = true ∧ em = true ∧ (ob == 9) = true) := fun h => h9 ⟨by simpa using h.2.2, h.2.1⟩
    by_cases h5 : lowO oa = false ∨ uppO ob = false
    · rw [if_pos h5]
      constructor
      · intro h; cases h
      · rintro (h | h)
        · exact absurd h h8
        · rcases h5 with h5 | h5
          · rw [h5] at h; cases h.1
          · rw [h5] at h; cases h.2.1
    · rw [if_neg h5]
      have h6 : lowO oa = true := by cases h : lowO oa; exact absurd (.inl h) h5; rfl
      have h7 : uppO ob = true := by cases h : uppO ob; exact absurd (.inr h) h5; rfl
      rw [h6, h7]
      constructor
      · intro h
        refine .inr ⟨rfl, rfl, ?_⟩
        simpa [Bool.or_eq_true, Bool.and_eq_true] using h
      · rintro (h | h)
        · exact absurd ⟨h7, h.2⟩ h8
        · simpa [Bool.or_eq_true, Bool.and_eq_true] using h.2.2
/-! ### Numbers and truth values -/
theorem cmp_intK (k : Int) {a b : Int} : cmpP (k, a, ⟨#[]⟩) (k, b, ⟨#[]⟩) = if a < b then -1 else if b < a then 1 else 0 := by
  rw [← cmpV_P]
  unfold cmpV
  rw [if_neg (by omega), if_neg (by omega)]
  by_cases h1 : a < b
  · rw [if_pos h1, if_pos h1]
  · rw [if_neg h1, if_neg h1]
    by_cases h2 : b < a
    · rw [if_pos h2, if_pos h2]
    · rw [if_neg h2, if_neg h2]
      rfl
def ofK (k : Int) (r : Int × Int) : Itv := ⟨(k, r.1, ⟨#[]⟩), false, (k, r.2, ⟨#[]⟩), false, false⟩
theorem v_intK {v : Vl} {k : Int} (hk : k = 1 ∨ k = 3) (hv : vldP v = true) (h1 : v.1 = k) : v = (k, v.2.1, ⟨#[]⟩) := by
  obtain ⟨j, n, s⟩ := v
  dsimp only at h1
  subst h1
  unfold vldP Va.vldV at hv
  dsimp only at hv
  have h2 : Va.emp s = true := by
    rcases hk with rfl | rfl
    · rw [if_neg (by omega), if_pos rfl] at hv
      simp only [Bool.and_eq_true] at hv
      exact hv.2
    · rw [if_neg (by omega), if_neg (by omega), if_neg (by omega), if_pos rfl] at hv
      simp only [Bool.and_eq_true] at hv
      exact hv.2
  rw [(emp_iff s).1 h2]
theorem abv_ofK (k : Int) (r : Int × Int) (n : Int) : abvI (ofK k r) (k, n, ⟨#[]⟩) false = ofK k (max r.1 n, r.2) := by
  unfold abvI
  have h : cmpP (k, n, ⟨#[]⟩) (ofK k r).lo = if n < r.1 then -1 else if r.1 < n then 1 else 0 := cmp_intK k
  rw [h]
  by_cases h1 : r.1 < n
  · rw [if_pos (.inl (by rw [if_neg (by omega), if_pos h1]; decide))]
    unfold ofK
    rw [Int.max_eq_right (by omega)]
  · rw [if_neg (by
      rintro (h2 | h2)
      · by_cases h3 : n < r.1
        · rw [if_pos h3] at h2; omega
        · rw [if_neg h3, if_neg h1] at h2; omega
      · exact absurd h2.2 (by simp))]
    unfold ofK
    rw [Int.max_eq_left (by omega)]
theorem blw_ofK (k : Int) (r : Int × Int) (n : Int) : blwI (ofK k r) (k, n, ⟨#[]⟩) false = ofK k (r.1, min r.2 n) := by
  unfold blwI
  have h : cmpP (k, n, ⟨#[]⟩) (ofK k r).hi = if n < r.2 then -1 else if r.2 < n then 1 else 0 := cmp_intK k
  rw [h]
  by_cases h1 : n < r.2
  · rw [if_pos (.inl (by rw [if_pos h1]; decide))]
    unfold ofK
    rw [Int.min_eq_right (by omega)]
  · rw [if_neg (by rintro (h2 | h2); (rw [if_neg h1] at h2; split at h2 <;> simp at h2); (simp at h2))]
    unfold ofK
    rw [Int.min_eq_left (by omega)]
theorem nar_ofK (k : Int) (hk : k = 1 ∨ k = 3) (r : Int × Int) (c : Cnd) (hv : vldP c.v = true) (h1 : c.v.1 = k) (ho : cmqO c.op = true) : narI (ofK k r) c = ofK k (narR r c) := by
  have e := v_intK hk hv h1
  unfold narI narR
  rw [if_neg (by rw [h1]; simp [ofK])]
  have hb : ∀ st, beyI c.v st = ((k, c.v.2.1 + st, ⟨#[]⟩), false) := fun st => by
    rw [e]
    unfold beyI
    rw [if_neg (by show ¬ k = 2; omega)]
  by_cases h7 : c.op = 7
  · rw [if_pos h7, if_pos h7, e, abv_ofK, blw_ofK]
  rw [if_neg h7, if_neg h7]
  by_cases h11 : c.op = 11
  · rw [if_pos h11, if_neg (by omega), if_neg (by omega), if_pos h11, hb, abv_ofK]
  rw [if_neg h11]
  by_cases h12 : c.op = 12
  · rw [if_pos h12, if_neg (by omega), if_neg (by omega), if_neg (by omega), e, abv_ofK]
  rw [if_neg h12]
  by_cases h9 : c.op = 9
  · rw [if_pos h9, if_pos h9, hb, blw_ofK]
    rfl
  rw [if_neg h9, if_neg h9]
  have h10 : c.op = 10 := by
    unfold cmqO at ho
    simp only [Bool.or_eq_true, beq_iff_eq] at ho
    omega
  rw [if_pos h10, e, blw_ofK]
theorem emp_ofK (k : Int) (r : Int × Int) : empI (ofK k r) = decide (r.2 < r.1) := by
  unfold empI
  have h : cmpP (ofK k r).lo (ofK k r).hi = if r.1 < r.2 then -1 else if r.2 < r.1 then 1 else 0 := cmp_intK k
  rw [h]
  by_cases h1 : r.1 < r.2
  · rw [if_pos h1]
    simp [ofK]
    omega
  · rw [if_neg h1]
    by_cases h2 : r.2 < r.1
    · rw [if_pos h2]
      simp [ofK, h2]
    · rw [if_neg h2]
      simp [ofK]
      omega
theorem con_num (k : Int) (hk : k = 1 ∨ k = 3) (all : List Cnd) : ∀ (l : List Cnd) (r : Int × Int), (∀ c ∈ l, vldP c.v = true ∧ cmqO c.op = true) → conL k all l r = empI (l.foldl narI (ofK k r))
  | [], r, _ => by
    unfold conL
    rw [List.foldl_nil, emp_ofK]
    have h2 : k ≠ 2 := by omega
    simp [h2]
  | c :: l, r, hv => by
    unfold conL
    rw [List.foldl_cons]
    by_cases h1 : c.v.1 ≠ k
    · rw [if_pos h1]
      refine (emp_im (nar_im l _ ?_)).symm
      unfold narI
      rw [if_pos (by simpa [ofK] using h1)]
    · rw [if_neg h1, if_neg (by rintro ⟨h2, _⟩; omega)]
      have h2 : c.v.1 = k := by simpa using h1
      rw [nar_ofK k hk r c (hv c List.mem_cons_self).1 h2 (hv c List.mem_cons_self).2]
      exact con_num k hk all l _ fun x hx => hv x (List.mem_cons_of_mem _ hx)
theorem con_txt (all : List Cnd) : ∀ (l : List Cnd) (r : Int × Int), conL 2 all l r = l.any fun c => decide (c.v.1 ≠ 2) || all.any fun x => x.v.1 == 2 && txtC c x
  | [], r => by unfold conL; simp
  | c :: l, r => by
    unfold conL
    rw [List.any_cons, ← con_txt all l (narR r c)]
    by_cases h1 : c.v.1 ≠ 2
    · rw [if_pos h1]; simp [h1]
    · rw [if_neg h1]
      have h2 : c.v.1 = 2 := by simpa using h1
      cases h3 : all.any fun x => x.v.1 == 2 && txtC c x
      · rw [if_neg (by rintro ⟨_, h4⟩; cases h4)]; simp [h2]
      · rw [if_pos ⟨rfl, rfl⟩]; simp
/-- A kind that is another one makes the interval impossible. -/
theorem lo_kind (l : List Cnd) (k : Int) : ∀ i : Itv, i.lo.1 = k → (∃ c ∈ l, c.v.1 ≠ k) → (l.foldl narI i).im = true := by
  have step : ∀ (i : Itv) (c : Cnd), i.lo.1 = k → c.v.1 = k → (narI i c).lo.1 = k := fun i c h1 h2 => by
    have ha : ∀ (i : Itv) b s, i.lo.1 = k → b.1 = k → (abvI i b s).lo.1 = k := fun i b s h h2 => by unfold abvI; split; exact h2; exact h
    have hb : ∀ (i : Itv) b s, i.lo.1 = k → (blwI i b s).lo.1 = k := fun i b s h => by unfold blwI; split <;> exact h
    have hy : ∀ st, (beyI c.v st).1.1 = k := fun st => by unfold beyI; split <;> exact h2
    unfold narI
    split
    · exact h1
    · split
      · exact hb _ _ _ (ha _ _ _ h1 h2)
      · split
        · exact ha _ _ _ h1 (hy _)
        · split
          · exact ha _ _ _ h1 h2
          · split
            · exact hb _ _ _ h1
            · exact hb _ _ _ h1
  induction l with
  | nil => rintro i _ ⟨c, hc, _⟩; cases hc
  | cons c l ih =>
    rintro i hi ⟨x, hx, hk⟩
    rw [List.foldl_cons]
    by_cases h1 : c.v.1 = k
    · rcases List.mem_cons.1 hx with rfl | hx
      · exact absurd h1 hk
      · exact ih _ (step i c hi h1) ⟨x, hx, hk⟩
    · refine nar_im l _ ?_
      unfold narI
      rw [if_pos (by rw [hi]; exact h1)]
theorem cont_eq (c : Cnd) (t : List Cnd) (hv : ∀ x ∈ c :: t, vldP x.v = true ∧ x.v ≠ nullP ∧ cmqO x.op = true) : conR (c :: t) = empI ((c :: t).foldl narI (allI c.v.1)) := by
  have hc := hv c List.mem_cons_self
  have h123 : c.v.1 = 1 ∨ c.v.1 = 2 ∨ c.v.1 = 3 := by
    have h1 := hc.1
    have h2 := hc.2.1
    generalize c.v = v at h1 h2 ⊢
    obtain ⟨k, n, s⟩ := v
    unfold vldP Va.vldV at h1
    dsimp only at h1 ⊢
    split at h1
    · rename_i h3
      simp only [Bool.and_eq_true, decide_eq_true_eq] at h1
      obtain ⟨rfl, h4⟩ := h1
      subst h3
      exact absurd (by rw [(emp_iff s).1 h4]; rfl) h2
    · split at h1
      · exact .inl ‹_›
      · split at h1
        · exact .inr (.inl ‹_›)
        · split at h1
          · exact .inr (.inr ‹_›)
          · cases h1
  show conL c.v.1 (c :: t) (c :: t) (iniR c.v.1) = _
  generalize hk : c.v.1 = k at *
  generalize hl : c :: t = l at *
  have hv2 : ∀ x ∈ l, vldP x.v = true ∧ cmqO x.op = true := fun x hx => ⟨(hv x hx).1, (hv x hx).2.2⟩
  rcases h123 with rfl | rfl | rfl
  · rw [con_num 1 (.inl rfl) l l _ hv2]
    refine congrArg (fun i => empI (l.foldl narI i)) ?_
    unfold allI
    rw [if_pos rfl, itI_of (by omega) (by omega)]
    rfl
  · rw [con_txt]
    unfold allI
    rw [if_neg (by omega), if_neg (by omega)]
    have ht : txtP ⟨#[]⟩ = (2, 0, ⟨#[]⟩) := by decide
    rw [ht]
    by_cases hall : ∀ x ∈ l, x.v.1 = 2
    · have he := fold_P l hall ((2, 0, ⟨#[]⟩), false) ((2, 0, ⟨#[127]⟩), false) rfl
      have hb : btw (2, 0, ⟨#[]⟩) (2, 0, ⟨#[127]⟩) = itvP ((2, 0, ⟨#[]⟩), false) ((2, 0, ⟨#[127]⟩), false) := rfl
      rw [hb, he]
      apply Bool.eq_iff_iff.2
      rw [emp_P, bad_abs, bad_bls]
      have htop : ∀ x ∈ l.flatMap lows, ¬ bad x ((2, 0, ⟨#[127]⟩), false) := fun x hx h => by
        obtain ⟨a, ha, hx⟩ := List.mem_flatMap.1 hx
        have e := lows_mem hx
        obtain ⟨ev, pv⟩ := v_txt (hv2 a ha).1 (hall a ha)
        rw [bad_iff, e, ev] at h
        dsimp only at h
        have h3 := less_top pv
        rcases h with h | ⟨h, _⟩
        · exact less_asym h3 h
        · rw [h, lessP_irr] at h3; cases h3
      have hbot : ¬ bad ((2, 0, ⟨#[]⟩), false) ((2, 0, ⟨#[127]⟩), false) := fun h => by
        rw [bad_iff] at h
        dsimp only at h
        rcases h with h | ⟨h, _⟩
        · rw [not_less_emp] at h; cases h
        · exact absurd h (by decide)
      have hx : (∃ b ∈ l.flatMap lows, bad b ((l.flatMap upps).foldl blP ((2, 0, ⟨#[127]⟩), false))) ↔ ∃ b ∈ l.flatMap lows, ∃ y ∈ l.flatMap upps, bad b y := by
        constructor
        · rintro ⟨b, hb, h⟩
          rw [bad_bls] at h
          rcases h with h | h
          · exact absurd h (htop b hb)
          · exact ⟨b, hb, h⟩
        · rintro ⟨b, hb, h⟩
          exact ⟨b, hb, by rw [bad_bls]; exact .inr h⟩
      rw [hx]
      have hany : (l.any fun c => decide (c.v.1 ≠ 2) || l.any fun x => x.v.1 == 2 && txtC c x) = true ↔ ∃ a ∈ l, ∃ b ∈ l, txtC a b = true := by
        rw [List.any_eq_true]
        constructor
        · rintro ⟨a, ha, h⟩
          simp only [hall a ha, ne_eq, not_true_eq_false, decide_false, Bool.false_or, List.any_eq_true, Bool.and_eq_true] at h
          obtain ⟨b, hb, _, h⟩ := h
          exact ⟨a, ha, b, hb, h⟩
        · rintro ⟨a, ha, b, hb, h⟩
          refine ⟨a, ha, ?_⟩
          rw [Bool.or_eq_true]
          right
          rw [List.any_eq_true]
          exact ⟨b, hb, by rw [hall b hb, h]; rfl⟩
      rw [hany]
      constructor
      · rintro ⟨a, ha, b, hb, h⟩
        rcases (txt_bad (hv2 a ha).1 (hv2 b hb).1 (hall a ha) (hall b hb) (hv2 b hb).2).1 h with ⟨y, hy, h⟩ | ⟨x, hx, y, hy, h⟩
        · exact .inl (.inr ⟨y, List.mem_flatMap.2 ⟨b, hb, hy⟩, h⟩)
        · exact .inr ⟨x, List.mem_flatMap.2 ⟨a, ha, hx⟩, y, List.mem_flatMap.2 ⟨b, hb, hy⟩, h⟩
      · rintro ((h | ⟨y, hy, h⟩) | ⟨x, hx, y, hy, h⟩)
        · exact absurd h hbot
        · obtain ⟨b, hb, hy⟩ := List.mem_flatMap.1 hy
          exact ⟨b, hb, b, hb, (txt_bad (hv2 b hb).1 (hv2 b hb).1 (hall b hb) (hall b hb) (hv2 b hb).2).2 (.inl ⟨y, hy, h⟩)⟩
        · obtain ⟨a, ha, hx⟩ := List.mem_flatMap.1 hx
          obtain ⟨b, hb, hy⟩ := List.mem_flatMap.1 hy
          exact ⟨a, ha, b, hb, (txt_bad (hv2 a ha).1 (hv2 b hb).1 (hall a ha) (hall b hb) (hv2 b hb).2).2 (.inr ⟨x, hx, y, hy, h⟩)⟩
    · have hex : ∃ c ∈ l, c.v.1 ≠ 2 := by
        rcases Classical.not_forall.1 hall with ⟨x, h⟩
        rcases Classical.not_imp.1 h with ⟨h1, h2⟩
        exact ⟨x, h1, h2⟩
      rw [emp_im (lo_kind l 2 _ (by rfl) hex)]
      rw [List.any_eq_true]
      obtain ⟨x, hx, h⟩ := hex
      exact ⟨x, hx, by simp [h]⟩
  · rw [con_num 3 (.inr rfl) l l _ hv2]
    refine congrArg (fun i => empI (l.foldl narI i)) ?_
    unfold allI
    rw [if_neg (by omega), if_pos rfl]
    rfl
/-! ### All columns -/
theorem abv_emp (i : Itv) (b : Vl) (s : Bool) (h : empI i = true) : empI (abvI i b s) = true := by
  unfold empI at h ⊢
  cases hi : i.im
  · rw [hi] at h
    have h1 : bad (i.lo, i.ls) (i.hi, i.hs) := by unfold bad; simpa using h
    have h2 := (bad_ab (i.lo, i.ls) (b, s) (i.hi, i.hs)).2 (.inl h1)
    unfold bad abP at h2
    unfold abvI
    dsimp only at h2
    split at h2 <;> rename_i hc
    · rw [if_pos hc]
      dsimp only
      rw [hi]
      simpa using h2
    · rw [if_neg hc]
      rw [hi]
      simpa using h2
  · have : (abvI i b s).im = true := by unfold abvI; split <;> exact hi
    rw [this]; rfl
theorem blw_emp (i : Itv) (b : Vl) (s : Bool) (h : empI i = true) : empI (blwI i b s) = true := by
  unfold empI at h ⊢
  cases hi : i.im
  · rw [hi] at h
    have h1 : bad (i.lo, i.ls) (i.hi, i.hs) := by unfold bad; simpa using h
    have h2 := (bad_bl (i.lo, i.ls) (i.hi, i.hs) (b, s)).2 (.inl h1)
    unfold bad blP at h2
    unfold blwI
    dsimp only at h2
    split at h2 <;> rename_i hc
    · rw [if_pos hc]
      dsimp only
      rw [hi]
      simpa using h2
    · rw [if_neg hc]
      rw [hi]
      simpa using h2
  · have : (blwI i b s).im = true := by unfold blwI; split <;> exact hi
    rw [this]; rfl
theorem nar_emp (i : Itv) (c : Cnd) (h : empI i = true) : empI (narI i c) = true := by
  unfold narI
  split
  · exact emp_im rfl
  · split
    · exact blw_emp _ _ _ (abv_emp _ _ _ h)
    · split
      · exact abv_emp _ _ _ h
      · split
        · exact abv_emp _ _ _ h
        · split
          · exact blw_emp _ _ _ h
          · exact blw_emp _ _ _ h
def optN (o : Option Itv) (c : Cnd) : Option Itv := some (narI (o.getD (allI c.v.1)) c)
theorem nev_col (k : Int) : ∀ (l : List Cnd) (s : (Int → Option Itv) × Bool), (l.foldl nevS s).1 k = (onC l k).foldl optN (s.1 k)
  | [], s => rfl
  | c :: l, s => by
    rw [List.foldl_cons, nev_col k l]
    unfold onC
    rw [List.filter_cons]
    by_cases h : c.col = k
    · subst h
      rw [if_pos (by simp), List.foldl_cons]
      refine congrArg (fun o => List.foldl optN o (l.filter fun x => x.col == c.col)) ?_
      unfold nevS optN
      dsimp only
      rw [if_pos rfl]
    · rw [if_neg (by simpa using h)]
      refine congrArg (fun o => List.foldl optN o (l.filter fun x => x.col == k)) ?_
      unfold nevS
      dsimp only
      rw [if_neg (fun e => h e.symm)]
def empO (o : Option Itv) : Bool := match o with | none => false | some i => empI i
theorem optN_emp : ∀ (l : List Cnd) (i : Itv), empI i = true → empO (l.foldl optN (some i)) = true
  | [], i, h => h
  | c :: l, i, h => optN_emp l _ (nar_emp i c h)
theorem nev_any : ∀ (l : List Cnd) (s : (Int → Option Itv) × Bool), (l.foldl nevS s).2 = (s.2 || l.any fun c => empO ((l.foldl nevS s).1 c.col))
  | [], s => by simp
  | c :: l, s => by
    rw [List.foldl_cons, nev_any l]
    generalize hs : nevS s c = s1
    have h2 : s1.2 = (s.2 || empO (s1.1 c.col)) := by
      rw [← hs]
      unfold nevS empO
      dsimp only
      rw [if_pos rfl]
    rw [h2, List.any_cons, Bool.or_assoc]
    refine congrArg (s.2 || ·) ?_
    obtain ⟨i, hi⟩ : ∃ i, s1.1 c.col = some i := by
      rw [← hs]
      unfold nevS
      dsimp only
      rw [if_pos rfl]
      exact ⟨_, rfl⟩
    rw [hi]
    show (empI i || _) = _
    cases he : empI i
    · rw [Bool.false_or]
      cases ha : l.any fun c => empO ((l.foldl nevS s1).1 c.col)
      · rw [Bool.or_false]
        rw [nev_col, hi]
        cases hc : onC l c.col with
        | nil => exact he.symm
        | cons x t =>
          have hx : x ∈ onC l c.col := by rw [hc]; exact List.mem_cons_self
          have h4 := List.mem_filter.1 hx
          have h5 : x.col = c.col := by simpa using h4.2
          have h6 : empO ((l.foldl nevS s1).1 x.col) = false := by
            have h7 := List.any_eq_false.1 ha x h4.1
            simpa using h7
          rw [h5, nev_col, hi, hc] at h6
          exact h6.symm
      · rw [Bool.or_true]
    · rw [Bool.true_or]
      rw [nev_col, hi, optN_emp _ i he]
      rfl
theorem optN_some : ∀ (l : List Cnd) (i : Itv), l.foldl optN (some i) = some (l.foldl narI i)
  | [], i => rfl
  | c :: l, i => optN_some l _
theorem any_congr {α : Type} (l : List α) (f g : α → Bool) (h : ∀ x ∈ l, f x = g x) : l.any f = l.any g := by
  induction l with
  | nil => rfl
  | cons a l ih => rw [List.any_cons, List.any_cons, h a List.mem_cons_self, ih fun x hx => h x (List.mem_cons_of_mem _ hx)]
/-- Never by the program and by the reference. -/
theorem nev_eq (cs : List Ex) : nevE cs = nevR cs := by
  unfold nevE nevR
  rw [nev_any]
  refine congrArg ((cs.any nevA) || ·) ?_
  refine any_congr _ _ _ fun x hx => ?_
  rw [nev_col]
  have hm : x ∈ onC (cs.filterMap condE) x.col := List.mem_filter.2 ⟨hx, by simp⟩
  have hv : ∀ y ∈ onC (cs.filterMap condE) x.col, vldP y.v = true ∧ y.v ≠ nullP ∧ cmqO y.op = true := fun y hy => by
    obtain ⟨z, _, hz⟩ := List.mem_filterMap.1 (List.mem_filter.1 hy).1
    exact ⟨(cond_vld hz).1, (cond_vld hz).2, cond_op hz⟩
  generalize onC (cs.filterMap condE) x.col = l at *
  cases l with
  | nil => cases hm
  | cons c t =>
    rw [cont_eq c t hv, List.foldl_cons]
    show empO (t.foldl optN (some (narI (allI c.v.1) c))) = _
    rw [optN_some]
    rfl
end Go.Proofs.YthnmcpfmljibeaaGreat
/-
  The reference's Truth of a constant; texts. Conditions: none.
-/
namespace Go.Proofs.YthnmcpfmljibeaaGreat
set_option maxRecDepth 100000
set_option linter.unusedVariables false
set_option linter.unusedSimpArgs false
open Go.RowKit

set_option maxRecDepth 100000 in
set_option maxHeartbeats 6400000 in
theorem rLeaf1_any (n k1 k2 : Int) (s nm : ByteArray) (A : Option Addr) (m c : Nat) (rv : Value) (w : World) (hv : Va.vldV k1 k2 s = true) :
    Calls Tryz.prog 36 #[.agg #[.int .i64 1, .int .i64 n, .int .i64 k1, .int .i64 k2, .string s, .string nm, .slice A m c], rv] w fun e w' => e = .returned (valV (k1, k2, s)) ∧ Below w.heap.size w w' := by
  have hV := fun W => Va.rValid_any k1 k2 s W
  rw [hv] at hV
  unfold Va.vV at hV
  have HV := Lib.hid hV
  unfold valV
  dsimp only
  have oV := own_three (w := w) (t := 23) (cs := #[.int .i64 k1, .int .i64 k2, .string s]) (.cells #[.int .i64 1, .int .i64 n, .int .i64 k1, .int .i64 k2, .string s, .string nm, .slice A m c] 26) (.cells #[.int .i64 0, .int .i64 0, .string ⟨#[]⟩] 23)
  have oR := (Va.own_two (w := w) (t := 23) (cs := #[.int .i64 0, .int .i64 0, .string ⟨#[]⟩]) (.cells #[.int .i64 1, .int .i64 n, .int .i64 k1, .int .i64 k2, .string s, .string nm, .slice A m c] 26)).alloc (.cells #[.int .i64 k1, .int .i64 k2, .string s] 23)
  have B0 : Below w.heap.size w (((w.alloc (.cells #[.int .i64 1, .int .i64 n, .int .i64 k1, .int .i64 k2, .string s, .string nm, .slice A m c] 26)).alloc (.cells #[.int .i64 0, .int .i64 0, .string ⟨#[]⟩] 23)).alloc (.cells #[.int .i64 k1, .int .i64 k2, .string s] 23)) := ((bel_mk w _).trans ((bel_mk _ _).mono (by simp))).trans ((bel_mk _ _).mono (by simp; omega))
  clear hV hv
  go_enter Tryz.func36, Tryz.ntmps36
  go_wp2_with fail
  with_reducible refine (HV.out _).mono ?_
  rintro e w1 ⟨rfl, hb1⟩
  have v1 := oV.below hb1 oV.lt
  have o1 := oR.below hb1 oR.lt
  have B1 := B0.trans (hb1.mono B0.size)
  clear hb1 oV oR B0
  have d0 := o1.cell 0; have e0 := o1.free 0; have d1 := o1.cell 1; have e1 := o1.free 1; have d2 := o1.cell 2; have e2 := o1.free 2; (try simp only [List.getElem?_toArray, List.getElem?_cons_zero, List.getElem?_cons_succ] at d0 d1 d2)
  have d0a := v1.cell 0; have e0a := v1.free 0; have d1a := v1.cell 1; have e1a := v1.free 1; have d2a := v1.cell 2; have e2a := v1.free 2; (try simp only [List.getElem?_toArray, List.getElem?_cons_zero, List.getElem?_cons_succ] at d0a d1a d2a)
  go_wp2
  (try simp only [Exit.inBlock, Exit.then]); refine bodyPost_ret_by (results_cell_row1 (by rfl) _ _ (w.heap.size + 1) _ (by rfl) (load_val (((o1.store 0 _).store 1 _).store 2 _))) ?_ ?_; (focus rfl); refine ⟨rfl, ?_⟩
  (repeat' (first | (with_reducible exact Below.refl _ _) | (with_reducible assumption) | (with_reducible refine Below.alloc ?_ ?_ _) | (with_reducible refine Below.drew ?_) | (with_reducible refine Below.setCell ?_ ?_ _) | (with_reducible refine Below.trans ?_ (Below.mono (by assumption) ?_)) | go_size))
theorem opE_const (n : Int) (v : Vl) (row : List Vl) (l : List Vl) : opE 1 n v row l = v := rfl
set_option maxRecDepth 100000 in
set_option maxHeartbeats 6400000 in
theorem rEv1_any (n k1 k2 : Int) (s nm : ByteArray) (es : List Ex) (A : Option Addr) (c : Nat) (rv : Value) (w : World) (hl : es.length ≤ 1099511627776) :
    Calls Tryz.prog 9 #[.agg #[.int .i64 1, .int .i64 n, .int .i64 k1, .int .i64 k2, .string s, .string nm, .slice A es.length c], rv] w fun e' w' => e' = .returned (valV (evE [] 1 ⟨1, n, (k1, k2, s), nm, es⟩)) ∧ Below w.heap.size w w' := by
  have HF := Lib.hid (fun W => rFormed_any 1 n k1 k2 s nm A es.length c W hl)
  have hN := fun W => fNull W
  unfold valV nullP at hN
  unfold valV
  dsimp only at hN ⊢
  have HN := Lib.hid hN
  have HO0 := Lib.hid (Va.own_two (w := w) _ : Own ((w.alloc (.cells #[.int .i64 1, .int .i64 n, .int .i64 k1, .int .i64 k2, .string s, .string nm, .slice A es.length c] 26)).alloc (.cells #[.int .i64 0, .int .i64 0, .string ⟨#[]⟩] 23)) (w.heap.size + 1) 23 #[.int .i64 0, .int .i64 0, .string ⟨#[]⟩])
  have HE0 := Lib.hid ((Own.new w _ _).alloc _ : Own ((w.alloc (.cells #[.int .i64 1, .int .i64 n, .int .i64 k1, .int .i64 k2, .string s, .string nm, .slice A es.length c] 26)).alloc (.cells #[.int .i64 0, .int .i64 0, .string ⟨#[]⟩] 23)) w.heap.size 26 #[.int .i64 1, .int .i64 n, .int .i64 k1, .int .i64 k2, .string s, .string nm, .slice A es.length c])
  have HB0 := Lib.hid (show Below w.heap.size w ((w.alloc (.cells #[.int .i64 1, .int .i64 n, .int .i64 k1, .int .i64 k2, .string s, .string nm, .slice A es.length c] 26)).alloc (.cells #[.int .i64 0, .int .i64 0, .string ⟨#[]⟩] 23)) from (bel_mk w _).trans ((bel_mk _ _).mono (by simp)))
  clear hN
  unfold evE
  dsimp only
  cases hW : wfE 1 n k1 k2 s nm es.length
  · rw [if_neg (by simp)]
    rw [hW] at HF
    unfold nullP
    dsimp only
    clear hW
    go_enter Tryz.func9, Tryz.ntmps9
    go_wp2_with fail
    with_reducible refine (HF.out _).mono ?_
    rintro e w1 ⟨rfl, hb1⟩
    have o1 := HO0.out.below hb1 HO0.out.lt
    have B1 := HB0.out.trans (hb1.mono HB0.out.size)
    clear hb1
    go_wp2_with fail
    with_reducible refine (HN.out _).mono ?_
    rintro e w2 ⟨rfl, hb2⟩
    have o2 := o1.below hb2 o1.lt
    have B2 := B1.trans (hb2.mono B1.size)
    clear hb2
    have d0 := o2.cell 0; have e0 := o2.free 0; have d1 := o2.cell 1; have e1 := o2.free 1; have d2 := o2.cell 2; have e2 := o2.free 2; (try simp only [List.getElem?_toArray, List.getElem?_cons_zero, List.getElem?_cons_succ] at d0 d1 d2)
    go_wp2
    (try simp only [Exit.inBlock, Exit.then]); refine bodyPost_ret_by (results_cell_row1 (by rfl) _ _ (w.heap.size + 1) _ (by rfl) (load_val (((o2.store 0 _).store 1 _).store 2 _))) ?_ ?_; (focus rfl); refine ⟨rfl, ?_⟩
    (repeat' (first | (with_reducible exact Below.refl _ _) | (with_reducible assumption) | (with_reducible refine Below.alloc ?_ ?_ _) | (with_reducible refine Below.drew ?_) | (with_reducible refine Below.setCell ?_ ?_ _) | (with_reducible refine Below.trans ?_ (Below.mono (by assumption) ?_)) | go_size))
  · rw [if_pos rfl, opE_const]
    dsimp only
    rw [hW] at HF
    have hv := wf_const hW rfl
    obtain rfl : es = [] := by
      unfold wfE at hW
      simp only [Bool.and_eq_true, decide_eq_true_eq] at hW
      have h2 := hW.1.2
      unfold opHi at h2
      simp at h2
      exact h2
    clear hW
    have HI := Lib.hid (fun W => rLeaf1_any n k1 k2 s nm A 0 c rv W hv)
    unfold valV at HI
    dsimp only at HI
    simp only [List.length_nil] at *
    go_enter Tryz.func9, Tryz.ntmps9
    go_wp2_with fail
    with_reducible refine (HF.out _).mono ?_
    rintro e w1 ⟨rfl, hb1⟩
    have HE1 := Lib.hid ((HE0.out.below hb1 HE0.out.lt).alloc (.cells #[] 23))
    have HO1 := Lib.hid ((HO0.out.below hb1 HO0.out.lt).alloc (.cells #[] 23))
    have HB1 := Lib.hid ((HB0.out.trans (hb1.mono HB0.out.size)).trans ((bel_mk w1 (.cells #[] 23)).mono (HB0.out.trans (hb1.mono HB0.out.size)).size))
    clear hb1 HE0 HO0 HB0
    have x0 := HE1.out.cell 0
    have x1 := HE1.out.cell 1
    have x2 := HE1.out.cell 2
    have x3 := HE1.out.cell 3
    have x4 := HE1.out.cell 4
    have x5 := HE1.out.cell 5
    have x6 := HE1.out.cell 6
    go_wp2_with fail
    go_loopw [5, 6] (fun vb i wr => vb = .slice (some ⟨w1.heap.size, 0, none⟩) 0 0 ∧ i = .int .i64 0 ∧ wr = w1.alloc (.cells #[] 23)) (fun _ _ _ => 0)
    case atStart => exact ⟨rfl, rfl, rfl⟩
    case round =>
      obtain ⟨rfl, rfl, rfl⟩ := hrel
      go_wp2_with fail
      with_reducible refine (HI.out _).mono ?_
      rintro e w3 ⟨rfl, hb3⟩
      have o3 := HO1.out.below hb3 HO1.out.lt
      have B3 := HB1.out.trans (hb3.mono HB1.out.size)
      clear hb3
      have d0 := o3.cell 0; have e0 := o3.free 0; have d1 := o3.cell 1; have e1 := o3.free 1; have d2 := o3.cell 2; have e2 := o3.free 2; (try simp only [List.getElem?_toArray, List.getElem?_cons_zero, List.getElem?_cons_succ] at d0 d1 d2)
      go_wp2
      (try simp only [Exit.inBlock, Exit.then]); refine bodyPost_ret_by (results_cell_row1 (by rfl) _ _ (w.heap.size + 1) _ (by rfl) (load_val (((o3.store 0 _).store 1 _).store 2 _))) ?_ ?_; (focus rfl); refine ⟨rfl, ?_⟩
      (repeat' (first | (with_reducible exact Below.refl _ _) | (with_reducible assumption) | (with_reducible refine Below.alloc ?_ ?_ _) | (with_reducible refine Below.drew ?_) | (with_reducible refine Below.setCell ?_ ?_ _) | (with_reducible refine Below.trans ?_ (Below.mono (by assumption) ?_)) | go_size))
set_option maxRecDepth 100000 in
set_option maxHeartbeats 3200000 in
theorem rTru1_any (n k1 k2 : Int) (s nm : ByteArray) (es : List Ex) (A : Option Addr) (c : Nat) (rv : Value) (w : World) (hl : es.length ≤ 1099511627776) :
    Calls Tryz.prog 69 #[.agg #[.int .i64 1, .int .i64 n, .int .i64 k1, .int .i64 k2, .string s, .string nm, .slice A es.length c], rv] w fun e' w' => e' = .returned (.int .i64 (truP (evE [] 1 ⟨1, n, (k1, k2, s), nm, es⟩))) ∧ Below w.heap.size w w' := by
  have b1 := bel_mk w (.cells #[.int .i64 1, .int .i64 n, .int .i64 k1, .int .i64 k2, .string s, .string nm, .slice A es.length c] 26)
  have hev := rEv1_any n k1 k2 s nm es A c rv (w.alloc (.cells #[.int .i64 1, .int .i64 n, .int .i64 k1, .int .i64 k2, .string s, .string nm, .slice A es.length c] 26)) hl
  have HT := Lib.hid (fun W => fTruth (evE [] 1 ⟨1, n, (k1, k2, s), nm, es⟩) W)
  generalize evE [] 1 ⟨1, n, (k1, k2, s), nm, es⟩ = r at *
  have HV := Lib.hid hev
  have HB := Lib.hid b1
  clear hev b1
  go_enter Tryz.func69, Tryz.ntmps69
  go_wp2_with fail
  with_reducible refine HV.out.mono ?_
  rintro e w3 ⟨rfl, hb3⟩
  have B3 := HB.out.trans (hb3.mono HB.out.size)
  go_wp2_with fail
  with_reducible refine (HT.out _).mono ?_
  rintro e w4 ⟨rfl, hb4⟩
  go_wp2
  go_ret
  exact ⟨rfl, B3.trans (hb4.mono B3.size)⟩
end Go.Proofs.YthnmcpfmljibeaaGreat
