import Derived.Test.YtdhemhmgenhmaaaGreatPV
import Derived.Test.YtdhemhmgenhmaaaGreatQJb
import Derived.Laws.OwnMore
import Derived.WalkKit
import Derived.WalkSpells
import Derived.WalkLawsBesides
import Derived.Deep.QuietTactic
import Derived.BigQuiet
import Derived.Handy
import Derived.Lib.Hide
import Derived.Test.YtdhemhmgenhmaaaGreatPKb
import Derived.Test.YtdhemhmgenhmaaaGreatQEE
import Derived.Deep.DeepCutAuto
import Derived.Test.YtdhemhmgenhmaaaGreatPX
import Derived.Test.YtdhemhmgenhmaaaGreatPIb
set_option maxRecDepth 100000
set_option maxHeartbeats 25600000
set_option linter.unusedVariables false
set_option linter.unusedSimpArgs false
/-
  Conjuncts, by the reference. Conditions: lengths, a bounded depth.
-/
namespace Go.Proofs.YtdhemhmgenhmaaaGreat
open Go.RowKit
def narR (r : Int × Int) (c : Cnd) : Int × Int :=
 if c.op = 7 then (max r.1 c.v.2.1, min r.2 c.v.2.1)
 else if c.op = 9 then (r.1, min r.2 (c.v.2.1 - 1))
 else if c.op = 10 then (r.1, min r.2 c.v.2.1)
 else if c.op = 11 then (max r.1 (c.v.2.1 + 1), r.2)
 else (max r.1 c.v.2.1, r.2)
def bndR : List Cnd → Int × Int → (Int × Int) × Bool
 | [], r => (r, true)
 | c :: l, r => if c.v.1 ≠ 1 then (r, false) else bndR l (narR r c)
def winQ (a b : (Int × Int) × Bool) : (Int × Int) × Bool :=
 if a.2 = false ∨ b.2 = false ∨ a.1.2 < a.1.1 ∨ b.1.2 < b.1.1 ∨ b.1.2 ≤ a.1.1 then ((0, 0), false)
 else if a.1.2 < b.1.1 then ((a.1.2, b.1.1), true) else ((a.1.1, b.1.2), true)
def winR (l : List Cnd) (f t : Int) : (Int × Int) × Bool := winQ (bndR (onC l f) (0, 1099511627775)) (bndR (onC l t) (1, 1099511627776))
theorem cmp_int {a b : Int} : cmpP (1, a, ⟨#[]⟩) (1, b, ⟨#[]⟩) = if a < b then -1 else if b < a then 1 else 0 := by
 rw [← cmpV_P]
 unfold cmpV
 rw [if_neg (by omega), if_neg (by omega)]
 by_cases h1 : a < b
 ·rw [if_pos h1, if_pos h1]
 ·rw [if_neg h1, if_neg h1]
  by_cases h2 : b < a
  ·rw [if_pos h2, if_pos h2]
  ·rw [if_neg h2, if_neg h2]
   rfl
def ofR (r : Int × Int) : Itv := ⟨(1, r.1, ⟨#[]⟩), false, (1, r.2, ⟨#[]⟩), false, false⟩
theorem itI_of {a b : Int} (ha : -1125899906842624 ≤ a ∧ a ≤ 1125899906842624) (hb : -1125899906842624 ≤ b ∧ b ≤ 1125899906842624) : itI a b = ofR (a, b) := by
 have hn : ∀ n : Int, -1125899906842624 ≤ n ∧ n ≤ 1125899906842624 → intP n = (1, n, ⟨#[]⟩) := fun n h => by
  unfold intP nrmP vldP Va.vldV
  simp [h.1, h.2, Va.emp]
 unfold itI btw ofR
 rw [hn a ha, hn b hb]
theorem v_int {v : Vl} (hv : vldP v = true) (h1 : v.1 = 1) : v = (1, v.2.1, ⟨#[]⟩) := by
 obtain ⟨k, n, s⟩ := v
 dsimp only at h1
 subst h1
 unfold vldP Va.vldV at hv
 dsimp only at hv
 rw [if_neg (by omega), if_pos rfl] at hv
 simp only [Bool.and_eq_true] at hv
 have h2 := hv.2
 unfold Va.emp at h2
 have h3 : s.toList = [] := by simpa using h2
 have h4 : s = ⟨#[]⟩ := mk_ext (by rw [← Lib.toList_data, ← Lib.toList_data, h3, Lib.toList_data])
 rw [h4]
theorem abv_of (r : Int × Int) (n : Int) : abvI (ofR r) (1, n, ⟨#[]⟩) false = ofR (max r.1 n, r.2) := by
 unfold abvI
 have h : cmpP (1, n, ⟨#[]⟩) (ofR r).lo = if n < r.1 then -1 else if r.1 < n then 1 else 0 := cmp_int
 rw [h]
 by_cases h1 : r.1 < n
 ·rw [if_pos (.inl (by rw [if_neg (by omega), if_pos h1]; decide))]
  unfold ofR
  rw [Int.max_eq_right (by omega)]
 ·rw [if_neg (by
   rintro (h2 | h2)
   ·by_cases h3 : n < r.1
    ·rw [if_pos h3] at h2; omega
    ·rw [if_neg h3, if_neg h1] at h2; omega
   ·exact absurd h2.2 (by simp))]
  unfold ofR
  rw [Int.max_eq_left (by omega)]
theorem blw_of (r : Int × Int) (n : Int) : blwI (ofR r) (1, n, ⟨#[]⟩) false = ofR (r.1, min r.2 n) := by
 unfold blwI
 have h : cmpP (1, n, ⟨#[]⟩) (ofR r).hi = if n < r.2 then -1 else if r.2 < n then 1 else 0 := cmp_int
 rw [h]
 by_cases h1 : n < r.2
 ·rw [if_pos (.inl (by rw [if_pos h1]; decide))]
  unfold ofR
  rw [Int.min_eq_right (by omega)]
 ·rw [if_neg (by rintro (h2 | h2); (rw [if_neg h1] at h2; split at h2 <;> simp at h2); (simp at h2))]
  unfold ofR
  rw [Int.min_eq_left (by omega)]
theorem nar_of (r : Int × Int) (c : Cnd) (hv : vldP c.v = true) (h1 : c.v.1 = 1) (ho : cmqO c.op = true) : narI (ofR r) c = ofR (narR r c) := by
 have e := v_int hv h1
 unfold narI narR
 rw [if_neg (by rw [h1]; simp [ofR])]
 have hb : ∀ st, beyI c.v st = ((1, c.v.2.1 + st, ⟨#[]⟩), false) := fun st => by
  rw [e]
  unfold beyI
  rw [if_neg (by simp)]
 by_cases h7 : c.op = 7
 ·rw [if_pos h7, if_pos h7, e, abv_of, blw_of]
 rw [if_neg h7, if_neg h7]
 by_cases h11 : c.op = 11
 ·rw [if_pos h11, if_neg (by omega), if_neg (by omega), if_pos h11, hb, abv_of]
 rw [if_neg h11]
 by_cases h12 : c.op = 12
 ·rw [if_pos h12, if_neg (by omega), if_neg (by omega), if_neg (by omega), e, abv_of]
 rw [if_neg h12]
 by_cases h9 : c.op = 9
 ·rw [if_pos h9, if_pos h9, hb, blw_of]
  rfl
 rw [if_neg h9, if_neg h9]
 have h10 : c.op = 10 := by
  unfold cmqO at ho
  simp only [Bool.or_eq_true, beq_iff_eq] at ho
  omega
 rw [if_pos h10, e, blw_of]
theorem nar_im (l : List Cnd) : ∀ i : Itv, i.im = true → (l.foldl narI i).im = true := by
 have one : ∀ (i : Itv) (c : Cnd), i.im = true → (narI i c).im = true := fun i c h => by
  have ha : ∀ (i : Itv) b s, i.im = true → (abvI i b s).im = true := fun i b s h => by unfold abvI; split <;> exact h
  have hb : ∀ (i : Itv) b s, i.im = true → (blwI i b s).im = true := fun i b s h => by unfold blwI; split <;> exact h
  unfold narI
  split
  ·rfl
  ·split
   ·exact hb _ _ _ (ha _ _ _ h)
   ·split
    ·exact ha _ _ _ h
    ·split
     ·exact ha _ _ _ h
     ·split
      ·exact hb _ _ _ h
      ·exact hb _ _ _ h
 induction l with
 | nil => intro i h; exact h
 | cons c l ih => intro i h; exact ih _ (one i c h)
theorem fold_of (l : List Cnd) (hv : ∀ c ∈ l, vldP c.v = true ∧ cmqO c.op = true) : ∀ r : Int × Int, ((bndR l r).2 = true → l.foldl narI (ofR r) = ofR (bndR l r).1) ∧ ((bndR l r).2 = false → (l.foldl narI (ofR r)).im = true) := by
 induction l with
 | nil => intro r; exact ⟨fun _ => rfl, fun h => by cases h⟩
 | cons c l ih =>
  intro r
  unfold bndR
  by_cases h1 : c.v.1 ≠ 1
  ·rw [if_pos h1]
   refine ⟨fun h => (by cases h), fun _ => nar_im l _ ?_⟩
   unfold narI
   rw [if_pos (by simpa [ofR] using h1)]
  ·rw [if_neg h1]
   have h2 : c.v.1 = 1 := by simpa using h1
   have h3 := ih (fun c hc => hv c (List.mem_cons_of_mem _ hc)) (narR r c)
   rw [List.foldl_cons, nar_of r c (hv c List.mem_cons_self).1 h2 (hv c List.mem_cons_self).2]
   exact h3
theorem nar_mono (r : Int × Int) (c : Cnd) : r.1 ≤ (narR r c).1 ∧ (narR r c).2 ≤ r.2 := by
 unfold narR
 split
 ·dsimp only; omega
 ·split
  ·dsimp only; omega
  ·split
   ·dsimp only; omega
   ·split
    ·dsimp only; omega
    ·dsimp only; omega
theorem bnd_mono (l : List Cnd) : ∀ r : Int × Int, r.1 ≤ (bndR l r).1.1 ∧ (bndR l r).1.2 ≤ r.2 := by
 induction l with
 | nil => intro r; exact ⟨Int.le_refl _, Int.le_refl _⟩
 | cons c l ih =>
  intro r
  unfold bndR
  split
  ·exact ⟨Int.le_refl _, Int.le_refl _⟩
  ·have h1 := ih (narR r c)
   have h2 := nar_mono r c
   exact ⟨Int.le_trans h2.1 h1.1, Int.le_trans h1.2 h2.2⟩
theorem emp_of (r : Int × Int) : empI (ofR r) = true ↔ r.2 < r.1 := by
 unfold empI
 have h : cmpP (ofR r).lo (ofR r).hi = if r.1 < r.2 then -1 else if r.2 < r.1 then 1 else 0 := cmp_int
 rw [h]
 by_cases h1 : r.1 < r.2
 ·rw [if_pos h1]
  simp [ofR]
  omega
 ·rw [if_neg h1]
  by_cases h2 : r.2 < r.1
  ·rw [if_pos h2]
   simp [ofR, h2]
  ·rw [if_neg h2]
   simp [ofR]
   omega
theorem emp_im {i : Itv} (h : i.im = true) : empI i = true := by
 unfold empI
 rw [h]
 rfl
theorem win_eq (l : List Cnd) (hv : ∀ c ∈ l, vldP c.v = true ∧ cmqO c.op = true) (f t : Int) : winE l f t = winR l f t := by
 have hs : ∀ q, ∀ c ∈ onC l q, vldP c.v = true ∧ cmqO c.op = true := fun q c hc => hv c (List.mem_filter.1 hc).1
 unfold winE winR
 rw [itI_of (by omega) (by omega), itI_of (by omega) (by omega)]
 have hf := fold_of (onC l f) (hs f) (0, 1099511627775)
 have ht := fold_of (onC l t) (hs t) (1, 1099511627776)
 have mf := bnd_mono (onC l f) (0, 1099511627775)
 have mt := bnd_mono (onC l t) (1, 1099511627776)
 generalize (onC l f).foldl narI (ofR (0, 1099511627775)) = i at *
 generalize (onC l t).foldl narI (ofR (1, 1099511627776)) = j at *
 generalize bndR (onC l f) (0, 1099511627775) = a at *
 generalize bndR (onC l t) (1, 1099511627776) = b at *
 obtain ⟨⟨a1, a2⟩, ab⟩ := a
 obtain ⟨⟨b1, b2⟩, bb⟩ := b
 dsimp only at *
 unfold winB winQ
 dsimp only
 cases ab
 ·rw [if_pos (.inl (emp_im (hf.2 rfl))), if_pos (.inl rfl)]
 ·cases bb
  ·rw [if_pos (.inr (.inl (emp_im (ht.2 rfl)))), if_pos (.inr (.inl rfl))]
  ·rw [hf.1 rfl, ht.1 rfl]
   by_cases h1 : a2 < a1
   ·rw [if_pos (.inl ((emp_of _).2 h1)), if_pos (.inr (.inr (.inl h1)))]
   ·by_cases h2 : b2 < b1
    ·rw [if_pos (.inr (.inl ((emp_of _).2 h2))), if_pos (.inr (.inr (.inr (.inl h2))))]
    ·by_cases h3 : b2 ≤ a1
     ·rw [if_pos (.inr (.inr (by unfold vldW ofR; simp; omega))), if_pos (.inr (.inr (.inr (.inr h3))))]
     ·have hq : ¬ (true = false ∨ true = false ∨ a2 < a1 ∨ b2 < b1 ∨ b2 ≤ a1) := by rintro (h | h | h | h | h); cases h; cases h; exact h1 h; exact h2 h; exact h3 h
      rw [if_neg (by
       rintro (h | h | h)
       ·exact h1 ((emp_of _).1 h)
       ·exact h2 ((emp_of _).1 h)
       ·unfold vldW ofR at h; simp at h; omega)]
      by_cases h4 : a2 < b1
      ·rw [if_pos (by unfold vldW ofR; simp; omega), if_neg hq, if_pos h4]
       rfl
      ·rw [if_neg (by unfold vldW ofR; simp; omega), if_neg hq, if_neg h4]
       rfl
def colX (i : Int) : Ex := ⟨2, i, (0, 0, ⟨#[]⟩), ⟨#[]⟩, []⟩
def cpX (op i n : Int) : Ex := ⟨op, 0, (0, 0, ⟨#[]⟩), ⟨#[]⟩, [colX i, numE n]⟩
def anX (a b : Ex) : Ex := ⟨5, 0, (0, 0, ⟨#[]⟩), ⟨#[]⟩, [a, b]⟩
theorem pCpL_any (op i n : Int) (w : World) : Calls Tryz.prog 39 #[.int .i64 op, .int .i64 i, .int .i64 n] w fun e w' => ∃ u, e = .returned u ∧ IsE 2 (cpX op i n) u w' ∧ Below w.heap.size w w' := by
 go_enter Tryz.func39, Tryz.ntmps39
 go_wp2_with fail
 (try simp only [Exit.inBlock, Exit.then]); refine bodyPost_ret_by (rcell1 (by rfl) _ _ (w.heap.size) _ (by rfl) (load_exp ((Own.new w _ _).alloc _))) ?_ ?_; (focus rfl)
 exact ⟨_, rfl, ⟨_, _, rfl, rdE_two (a := colX i) (b := numE n) (rdE_nil _ 0 _ 1 (by decide)) (rdE_nil _ 0 _ 1 (by decide)) (Va.own_two _)⟩, (bel_mk w _).trans ((bel_mk _ _).mono (by simp))⟩
theorem pAnL_any (d : Nat) (a b : Ex) (va vb : Value) (w : World) (ha : IsE d a va w) (hb : IsE d b vb w) :
  Calls Tryz.prog 41 #[va, vb] w fun e w' => ∃ u, e = .returned u ∧ IsE (d + 1) (anX a b) u w' ∧ Below w.heap.size w w' := by
 obtain ⟨Aa, ca, rfl, hra⟩ := ha
 obtain ⟨Ab, cb, rfl, hrb⟩ := hb
 have HRA := Lib.hid hra
 have HRB := Lib.hid hrb
 unfold exV
 clear hra hrb
 go_enter Tryz.func41, Tryz.ntmps41
 go_wp2_with fail
 (try simp only [Exit.inBlock, Exit.then]); refine bodyPost_ret_by (rcell1 (by rfl) _ _ (w.heap.size + 1 + 1) _ (by rfl) (load_exp ((own_three0 _ _).alloc _))) ?_ ?_; (focus rfl)
 exact ⟨_, rfl, ⟨_, _, rfl, rdE_two (HRA.out.step (below_four w _ _ _ _) (Nat.le_refl _)) (HRB.out.step (below_four w _ _ _ _) (Nat.le_refl _)) (own_four _ _ _)⟩, below_four w _ _ _ _⟩
theorem wf_an (a b : Ex) : wfX (anX a b) = true := by
 simp [wfX, anX, wfE, knw, opLo, opHi, fldE, Va.eqV]
theorem conj_an (d : Nat) (a b : Ex) : conjE (d + 1) (anX a b) = conjE d a ++ conjE d b := by
 rw [conjE_and d (anX a b) ⟨rfl, wf_an a b⟩]
 simp [anX]
theorem conj_cp (d : Nat) (op i n : Int) (h : op ≠ 5) : conjE (d + 1) (cpX op i n) = [cpX op i n] := conjE_leaf d _ (fun h2 => h h2.1)
theorem cond_cp (op i n : Int) (h : cmqO op = true) (hn : -1125899906842624 ≤ n ∧ n ≤ 1125899906842624) : condE (cpX op i n) = some ⟨op, i, (1, n, ⟨#[]⟩)⟩ := by
 have hv : vldP (1, n, ⟨#[]⟩) = true := by unfold vldP Va.vldV; simp [hn.1, hn.2, Va.emp]
 unfold condE cpX
 dsimp only
 rw [if_pos h, if_neg (by simp [colX])]
 exact if_pos ⟨rfl, rfl, hv, by unfold nullP numE; simp⟩
def miX : Ex := ⟨9, 0, (0, 0, ⟨#[]⟩), ⟨#[]⟩, [numE 3, colX 0]⟩
theorem cond_mi : condE miX = some ⟨11, 0, (1, 3, ⟨#[]⟩)⟩ := by
 have hv : vldP (1, 3, ⟨#[]⟩) = true := by unfold vldP Va.vldV; simp [Va.emp]
 unfold condE miX
 dsimp only
 rw [if_pos (by rfl), if_pos (by rfl)]
 exact if_pos ⟨rfl, rfl, hv, by unfold nullP numE; simp⟩
theorem win_ex (d : Nat) : winE ((conjE (d + 2) (anX (cpX 10 0 5) (cpX 11 1 5))).filterMap condE) 0 1 = ((5, 6), true) := by
 rw [conj_an, conj_cp _ _ _ _ (by decide), conj_cp _ _ _ _ (by decide), List.filterMap_append]
 rw [show [cpX 10 0 5].filterMap condE = [⟨10, 0, (1, 5, ⟨#[]⟩)⟩] from by simp [cond_cp 10 0 5 (by rfl) (by omega)], show [cpX 11 1 5].filterMap condE = [⟨11, 1, (1, 5, ⟨#[]⟩)⟩] from by simp [cond_cp 11 1 5 (by rfl) (by omega)]]
 rw [win_eq _ (by
  intro c hc
  have hv : vldP (1, 5, ⟨#[]⟩) = true := by unfold vldP Va.vldV; simp [Va.emp]
  simp only [List.cons_append, List.nil_append, List.mem_cons, List.not_mem_nil, or_false] at hc
  rcases hc with rfl | rfl
  ·exact ⟨hv, rfl⟩
  ·exact ⟨hv, rfl⟩) 0 1]
 decide
theorem cnd_ex (d : Nat) : (conjE (d + 2) (anX miX (cpX 10 0 4))).filterMap condE = [⟨11, 0, (1, 3, ⟨#[]⟩)⟩, ⟨10, 0, (1, 4, ⟨#[]⟩)⟩] := by
 rw [conj_an, show conjE (d + 1) miX = [miX] from conjE_leaf d _ (fun h => by cases h.1), conj_cp _ _ _ _ (by decide), List.filterMap_append]
 simp [cond_mi, cond_cp 10 0 4 (by rfl) (by omega)]
theorem v_3 : vldP (1, 3, ⟨#[]⟩) = true := by unfold vldP Va.vldV; simp [Va.emp]
theorem v_4 : vldP (1, 4, ⟨#[]⟩) = true := by unfold vldP Va.vldV; simp [Va.emp]
theorem all_1 : allI 1 = ofR (-1125899906842624, 1125899906842624) := by
 unfold allI
 rw [if_pos rfl]
 exact itI_of (by omega) (by omega)
theorem nar_3 : narI (allI 1) ⟨11, 0, (1, 3, ⟨#[]⟩)⟩ = ofR (4, 1125899906842624) := by
 rw [all_1, nar_of _ _ v_3 rfl (by rfl)]
 exact congrArg ofR (by decide)
theorem nar_34 : narI (ofR (4, 1125899906842624)) ⟨10, 0, (1, 4, ⟨#[]⟩)⟩ = ofR (4, 4) := by
 rw [nar_of _ _ v_4 rfl (by rfl)]
 exact congrArg ofR (by decide)
theorem nar_33 : narI (ofR (4, 1125899906842624)) ⟨9, 0, (1, 4, ⟨#[]⟩)⟩ = ofR (4, 3) := by
 rw [nar_of _ _ v_4 rfl (by rfl)]
 exact congrArg ofR (by decide)
theorem emp_f (a b : Int) (h : a ≤ b) : empI (ofR (a, b)) = false := by
 have h1 := emp_of (a, b)
 cases h2 : empI (ofR (a, b)) with
 | false => rfl
 | true => have := h1.1 h2; dsimp only at this; omega
theorem nev_two (c d : Cnd) (cs : List Ex) (i j : Itv) (hc : cs.filterMap condE = [c, d]) (ha : cs.any nevA = false) (hk : d.col = c.col) (hi : narI (allI c.v.1) c = i) (hj : narI i d = j) : nevE cs = (empI i || empI j) := by
 unfold nevE
 rw [hc, ha]
 simp only [List.foldl_cons, List.foldl_nil]
 unfold nevS
 dsimp only
 rw [if_pos hk]
 simp only [Option.getD_none, Option.getD_some, hi, hj, Bool.false_or]
theorem conj_mi (d : Nat) (op : Int) (h : op ≠ 5) : conjE (d + 2) (anX miX (cpX op 0 4)) = [miX, cpX op 0 4] := by
 rw [conj_an, show conjE (d + 1) miX = [miX] from conjE_leaf d _ (fun h => by cases h.1), conj_cp _ _ _ _ h]
 rfl
theorem nev_ex (d : Nat) : nevE (conjE (d + 2) (anX miX (cpX 10 0 4))) = false := by
 rw [conj_mi d 10 (by decide)]
 rw [nev_two ⟨11, 0, (1, 3, ⟨#[]⟩)⟩ ⟨10, 0, (1, 4, ⟨#[]⟩)⟩ _ _ _ (by simp [cond_mi, cond_cp 10 0 4 (by rfl) (by omega)]) (by simp [nevA, miX, cpX]) rfl nar_3 nar_34, emp_f 4 1125899906842624 (by omega), emp_f 4 4 (by omega)]
 rfl
theorem nev_ex2 (d : Nat) : nevE (conjE (d + 2) (anX miX (cpX 9 0 4))) = true := by
 rw [conj_mi d 9 (by decide)]
 rw [nev_two ⟨11, 0, (1, 3, ⟨#[]⟩)⟩ ⟨9, 0, (1, 4, ⟨#[]⟩)⟩ _ _ _ (by simp [cond_mi, cond_cp 9 0 4 (by rfl) (by omega)]) (by simp [nevA, miX, cpX]) rfl nar_3 nar_33, (emp_of (4, 3)).2 (by decide)]
 simp
theorem ev_const1 (row : List Vl) (d : Nat) (e : Ex) (h : e.op = 1) : evE row (d + 1) e = evE row 1 e := by
 unfold evE
 cases hw : wfE e.op e.n e.v.1 e.v.2.1 e.v.2.2 e.nm e.args.length
 ·rfl
 ·have hz : e.args = [] := by
   unfold wfE at hw
   rw [h] at hw
   simp only [Bool.and_eq_true, decide_eq_true_eq] at hw
   have h2 := hw.1.2
   unfold opHi at h2
   simp at h2
   exact h2
  rw [hz]
  rfl
def FlagC (w : World) (g : Nat) (b : Bool) : Prop := Own w g 4 #[.bool b]
theorem pNv1_any (d : Nat) (e : Ex) (u : Value) (g L : Nat) (b : Bool) (W : World) (hu : RdE W L W.heap.size d u e.args) (hR : FlagC W g b) :
  Calls Tryz.prog 87 #[exV e u, .pointer (some ⟨g, 0, none⟩)] W fun e' w' => e' = .returned (.tuple #[]) ∧ FlagC w' g (b || nevA e) ∧ Below g W w' := by
 obtain ⟨A, c, rfl, hel⟩ := hu.slice
 have b1 := bel_mk W (.cells (exA e (.slice A e.args.length c)) 26)
 have hd1 : ∃ d', d = d' + 1 := ⟨d - 1, by have := hu.pos; omega⟩
 obtain ⟨d', rfl⟩ := hd1
 have HT := Lib.hid (pTruthE_any (.slice none 0 0) [] (d' + 1) e A c (W.alloc (.cells (exA e (.slice A e.args.length c)) 26)) L 0 (hu.step b1 (Nat.le_refl _)) ⟨none, 0, rfl, by simp, fun k p hk => by simp at hk⟩)
 have hg := hR
 unfold FlagC at hg
 have HB1 := Lib.hid b1
 have HG0 := Lib.hid hg
 have HG1 := Lib.hid (hg.below b1 hg.lt)
 have HE1 := Lib.hid (Own.new W 26 (exA e (.slice A e.args.length c)))
 have hgl := hg.lt
 have hg0 := hg.cell 0
 have f0 := hg.free 0
 unfold FlagC nevA
 clear hu hR hg b1
 cases b
 ·by_cases h1 : e.op = 1
  ·rw [ev_const1 [] d' e h1] at HT
   generalize hp : truP (evE [] 1 e) = p at *
   obtain ⟨op, n, ⟨k1, k2, s⟩, nm, es⟩ := e
   dsimp only at h1
   subst h1
   unfold exV exA at *
   dsimp only at *
   clear hp
   go_enter Tryz.func87, Tryz.ntmps87
   go_wp2_with fail
   with_reducible refine HT.out.mono ?_
   rintro e' w2 ⟨rfl, hb2⟩
   have HG2 := Lib.hid (HG1.out.below hb2 HG1.out.lt)
   have HB2 := Lib.hid (HB1.out.trans (hb2.mono HB1.out.size))
   have c0 := HG2.out.cell 0
   have m0 := HG2.out.free 0
   clear hb2
   by_cases h2 : p = 2
   ·subst h2
    go_wp2
    go_end0
    exact ⟨rfl, HG2.out.store 0 _, (HB2.out.mono (Nat.le_of_lt hgl)).sc g 0 _⟩
   ·have h2b : (p == 2) = false := by rw [beq_eq_false_iff_ne]; exact h2
    have h2c : (p != 2) = true := by simp [h2]
    go_wp2
    go_end0
    rw [h2c]
    exact ⟨rfl, HG2.out.store 0 _, (HB2.out.mono (Nat.le_of_lt hgl)).sc g 0 _⟩
  ·have h1b : (e.op == 1) = false := by rw [beq_eq_false_iff_ne]; exact h1
   rw [h1b]
   clear HT
   obtain ⟨op, n, ⟨k1, k2, s⟩, nm, es⟩ := e
   dsimp only at h1 h1b
   unfold exV exA at *
   dsimp only at *
   go_enter Tryz.func87, Tryz.ntmps87
   go_wp2
   go_end0
   exact ⟨rfl, (HG0.out.store 0 _).alloc _, ((Below.refl g W).sc g 0 _).alloc (Nat.le_of_lt (by simpa using hgl)) _⟩
 ·clear HT
  obtain ⟨op, n, ⟨k1, k2, s⟩, nm, es⟩ := e
  unfold exV exA at *
  dsimp only at *
  go_enter Tryz.func87, Tryz.ntmps87
  go_wp2
  go_end0
  exact ⟨rfl, (HG0.out.store 0 _).alloc _, ((Below.refl g W).sc g 0 _).alloc (Nat.le_of_lt (by simpa using hgl)) _⟩
theorem nev_take (zs : List Cnd) (k : Nat) (z : Cnd) (s : (Int → Option Itv) × Bool) (h : zs[k]? = some z) : (zs.take (k + 1)).foldl nevS s = nevS ((zs.take k).foldl nevS s) z := by
 rw [List.take_add_one, h, List.foldl_append]
 rfl
def NevI (w wr : World) (gf gm : Nat) (v : Value) (zs : List Cnd) (s : (Int → Option Itv) × Bool) : Prop :=
 Own wr gf 4 #[.bool s.2] ∧ MapI wr gm s.1 ∧ gf < gm ∧ w.heap.size ≤ gf ∧ RdQ wr (gm + 1) wr.heap.size v zs ∧ Below w.heap.size w wr
theorem NevI.below {w wr wx : World} {gf gm : Nat} {v : Value} {zs : List Cnd} {s : (Int → Option Itv) × Bool} (h : NevI w wr gf gm v zs s) (hb : Below wr.heap.size wr wx) : NevI w wx gf gm v zs s := by
 obtain ⟨h1, h2, h3, h4, h5, h6⟩ := h
 exact ⟨h1.below hb h1.lt, h2.below hb h2.lt, h3, h4, h5.step hb (Nat.le_refl _), h6.trans (hb.mono h6.size)⟩
theorem RdQ.grown {w w' : World} {L B : Nat} {row : Option Nat} (hg : w.grownBy w' row) (hB : B ≤ w.heap.size) (hne : ∀ g, row = some g → g < L ∨ B ≤ g) {v : Value} {zs : List Cnd} (h : RdQ w L B v zs) : RdQ w' L B v zs := by
 obtain ⟨A, c, h1, h2, h3⟩ := h
 refine ⟨A, c, h1, h2, fun k z hk => ?_⟩
 obtain ⟨ad, g1, g2, g3, c0, c1, c2, c3, c4⟩ := h3 k z hk
 have hq : ∀ a : Addr, a.block = ad.block → w'.cell? a = w.cell? a := fun a ha => World.grownBy.cell_far hg a (by omega) (by
  rw [ha]
  intro e2
  rcases hne _ e2.symm with h | h <;> omega)
 exact ⟨ad, g1, g2, g3, (hq _ (add_blk _ _)).trans c0, (hq ⟨ad.block, _, none⟩ rfl).trans c1, (hq ⟨ad.block, _, none⟩ rfl).trans c2, (hq ⟨ad.block, _, none⟩ rfl).trans c3, (hq ⟨ad.block, _, none⟩ rfl).trans c4⟩
theorem NevI.put {w wr wx : World} {gf gm : Nat} {v : Value} {zs : List Cnd} {s : (Int → Option Itv) × Bool} {M : Int → Option Itv} (h : NevI w wr gf gm v zs s) (hm : MapI wx gm M) (hg : wr.grownBy wx (some gm)) : NevI w wx gf gm v zs (M, s.2) := by
 obtain ⟨h1, h2, h3, h4, h5, h6⟩ := h
 refine ⟨h1.grownX hg (fun b hb => by injection hb with hb; omega), hm, h3, h4, ?_, h6.grown hg h6.size (fun b hb => by injection hb with hb; omega)⟩
 exact (h5.grown hg (Nat.le_refl _) (fun g e => .inl (by injection e with e; omega))).more hg.size (Nat.le_refl _)
theorem NevI.flag {w wr : World} {gf gm : Nat} {v : Value} {zs : List Cnd} {s : (Int → Option Itv) × Bool} (b : Bool) (h : NevI w wr gf gm v zs s) : NevI w (wr.setCell ⟨gf, 0, none⟩ (.bool b)) gf gm v zs (s.1, b) := by
 obtain ⟨h1, h2, h3, h4, h5, h6⟩ := h
 refine ⟨h1.store 0 _, ?_, h3, h4, ?_, h6.setCell (p := ⟨gf, 0, none⟩) h4 _⟩
 ·obtain ⟨es, c, q1, q2⟩ := h2
  exact ⟨es, c, (Below.heap_setCell wr ⟨gf, 0, none⟩ _ gm (by show gm ≠ gf; omega)).trans q1, q2⟩
 ·rw [World.size_setCell]
  exact h5.far (p := ⟨gf, 0, none⟩) (by show gf < gm + 1; omega) _
theorem pNev_any (d : Nat) (e : Ex) (u : Value) (w : World) (L : Nat) (h : RdE w L w.heap.size d u e.args) (hl : (conjE d e).length ≤ 1099511627776) (hwf : ∀ z ∈ (conjE d e).filterMap condE, (Lit.int .i64 z.col).wf = true) :
  Calls Tryz.prog 45 #[exV e u] w fun e' w' => e' = .returned (.bool (nevE (conjE d e))) ∧ Below w.heap.size w w' := by
 obtain ⟨A, c, rfl, _⟩ := h.slice
 have b1 := bel_mk w (.cells (exA e (.slice A e.args.length c)) 26)
 have b2 := bel_mk (w.alloc (.cells (exA e (.slice A e.args.length c)) 26)) (.cells #[.bool false] 4)
 have HB := Lib.hid (b1.trans (b2.mono b1.size))
 have HE := Lib.hid ((Own.new w 26 (exA e (.slice A e.args.length c))).alloc (.cells #[.bool false] 4))
 have HG := Lib.hid (show Own ((w.alloc (.cells (exA e (.slice A e.args.length c)) 26)).alloc (.cells #[.bool false] 4)) (w.heap.size + 1) 4 #[.bool false] from Va.own_two _)
 have HC := Lib.hid (fun (W : World) (hb : Below w.heap.size w W) => pConds_any d e (.slice A e.args.length c) W L (h.step hb (Nat.le_refl _)) hl)
 have HV := Lib.hid (cvld (conjE d e))
 have HWF := Lib.hid hwf
 have HVI := Lib.hid (pVisP_any 87 #[.pointer (some ⟨w.heap.size + 1, 0, none⟩)]
  (fun zs W => FlagC W (w.heap.size + 1) (zs.any nevA) ∧ Below (w.heap.size + 1) ((w.alloc (.cells (exA e (.slice A e.args.length c)) 26)).alloc (.cells #[.bool false] 4)) W)
  ((w.alloc (.cells (exA e (.slice A e.args.length c)) 26)).alloc (.cells #[.bool false] 4)) (w.heap.size + 1) L d (conjE d e) (by simp) (fun _ _ => rfl) (fun zs W h => h.2)
  (fun zs W W' ⟨hr, hb⟩ hb2 => ⟨Own.below hr hb2 (Own.lt hr), hb.trans (hb2.mono (by have := hb.size; simp at this; omega))⟩)
  (fun zs c2 u2 d2 W hd ⟨hR, hb⟩ ⟨t, hT⟩ hr => by
   have hs := hb.size
   have hz2 : (w.alloc (.cells (exA e (.slice A e.args.length c)) 26)).heap.size + 1 ≤ W.heap.size := by have := hs; simp only [World.size_alloc] at this ⊢; exact this
   refine (pNv1_any d2 c2 u2 (w.heap.size + 1) L (zs.any nevA) W ((hr.below hb).more (by simp only [World.size_alloc] at hz2; omega) (Nat.le_refl _)) hR).mono ?_
   rintro e' w' ⟨h1, h2, h3⟩
   refine ⟨h1, ?_, hb.trans h3⟩
   rw [List.any_append]
   simpa using h2)
  d (Nat.le_refl _) e (.slice A e.args.length c) [] _ ⟨HG.out, Below.refl _ _⟩ (by have h3 := (h.step b1 (Nat.le_refl _)).below b2; simp only [World.size_alloc] at h3; exact h3) ⟨[], by simp⟩)
 clear b1 b2 h hl hwf
 rw [List.nil_append] at HVI
 have hnv : nevE (conjE d e) = ((((conjE d e).filterMap condE).foldl nevS ((fun _ => none), (conjE d e).any nevA)).2) := rfl
 rw [hnv]
 clear hnv
 generalize (conjE d e).filterMap condE = zs at *
 generalize (conjE d e).any nevA = b0 at *
 unfold exV exA at *
 have e0 := HE.out.cell 0
 have e1 := HE.out.cell 1
 have e2 := HE.out.cell 2
 have e3 := HE.out.cell 3
 have e4 := HE.out.cell 4
 have e5 := HE.out.cell 5
 have e6 := HE.out.cell 6
 go_enter Tryz.func45, Tryz.ntmps45
 go_wp2_with fail
 with_reducible refine HVI.out.mono ?_
 rintro e' w2 ⟨rfl, hf2, hb2⟩
 have HB2 := Lib.hid (HB.out.trans (hb2.mono (by omega)))
 have HF2 := Lib.hid hf2
 have HE2 := Lib.hid (HE.out.below hb2 (by omega))
 clear e0 e1 e2 e3 e4 e5 e6 HVI HG HB HE hb2 hf2
 have e0 := HE2.out.cell 0
 have e1 := HE2.out.cell 1
 have e2 := HE2.out.cell 2
 have e3 := HE2.out.cell 3
 have e4 := HE2.out.cell 4
 have e5 := HE2.out.cell 5
 have e6 := HE2.out.cell 6
 have le2 := HE2.out.lt
 have hmk : (Instr.makeMap 92 none).run Tryz.prog w2 = .ok (.map (some w2.heap.size)) (w2.alloc (.map #[] 0)) := rfl
 have HM2 := Lib.hid (MapI.new w2)
 have bm := bel_mark w2 (.map #[] 0)
 have HB3 := Lib.hid (HB2.out.trans (bm.mono HB2.out.size))
 have HF3 := Lib.hid (show FlagC (w2.alloc (.map #[] 0)) (w.heap.size + 1) b0 from Own.below HF2.out bm (Own.lt HF2.out))
 have lf2 := Own.lt HF2.out
 clear bm
 go_wp2_with fail
 with_reducible refine (HC.out _ HB3.out).mono ?_
 rintro e' w3 ⟨v, rfl, hrd, hb3⟩
 have HW := Lib.hid (show NevI w w3 (w.heap.size + 1) w2.heap.size v zs ((zs.take 0).foldl nevS ((fun _ => none), b0)) from ⟨Own.below HF3.out hb3 (Own.lt HF3.out), HM2.out.below hb3 HM2.out.lt, lf2, by omega, hrd.more (Nat.le_refl _) (by simp), HB3.out.trans (hb3.mono HB3.out.size)⟩)
 obtain ⟨Av, cv, rfl, hzl, _⟩ := hrd
 clear hb3 HF3 HM2 HB3 HB2 HF2 e0 e1 e2 e3 e4 e5 e6 HE2 hmk HC
 have hgm : w.heap.size + 1 < w2.heap.size := lf2
 generalize w2.heap.size = gm at *
 go_wp2_with fail
 go_loopw [16] (fun i wr => ∃ k : Nat, k ≤ zs.length ∧ i = .int .i64 k ∧ Hid (NevI w wr (w.heap.size + 1) gm (.slice Av zs.length cv) zs ((zs.take k).foldl nevS ((fun _ => none), b0)))) (fun i _ => zs.length - (intOf i).toNat)
 case atStart => exact ⟨0, Nat.zero_le _, rfl, HW⟩
 case round =>
  clear HW
  obtain ⟨k, hk, rfl, HW⟩ := hrel
  by_cases hlt : k < zs.length
  ·have hki : (k : Int) < zs.length := by omega
   have hzk := List.getElem?_eq_getElem hlt
   have hnk := nev_take zs k _ ((fun _ => none), b0) hzk
   have hvz := HV.out _ (List.getElem_mem hlt)
   have hwz := HWF.out _ (List.getElem_mem hlt)
   obtain ⟨ad, cz, hsl, _, hab, y0, y1, y2, y3, y4⟩ := HW.out.2.2.2.2.1.at k _ hzk
   injection hsl with hs1 hs2 hs3
   subst hs1 hs3
   generalize zs[k] = z at *
   have HNK := Lib.hid hnk
   generalize (zs.take k).foldl nevS ((fun _ => none), b0) = st at *
   obtain ⟨M, fl⟩ := st
   replace HNK := Lib.hid (HNK.out.trans (show nevS (M, fl) z = (fun k => if k = z.col then some (narI ((M z.col).getD (allI z.v.1)) z) else M k, fl || empI (narI ((M z.col).getD (allI z.v.1)) z)) from rfl))
   have HN := Lib.hid (fun i W => show Calls Tryz.prog 79 #[.agg #[.int .i64 i.lo.1, .int .i64 i.lo.2.1, .string i.lo.2.2, .bool i.ls, .int .i64 i.hi.1, .int .i64 i.hi.2.1, .string i.hi.2.2, .bool i.hs, .bool i.im], .agg #[.int .i64 z.op, .int .i64 z.col, .int .i64 z.v.1, .int .i64 z.v.2.1, .string z.v.2.2]] W fun e w' => e = .returned (.agg #[.int .i64 (narI i z).lo.1, .int .i64 (narI i z).lo.2.1, .string (narI i z).lo.2.2, .bool (narI i z).ls, .int .i64 (narI i z).hi.1, .int .i64 (narI i z).hi.2.1, .string (narI i z).hi.2.2, .bool (narI i z).hs, .bool (narI i z).im]) ∧ Below W.heap.size W w' from pNar_any i z hvz W)
   have HAL := Lib.hid (fun W => show Calls Tryz.prog 88 #[.int .i64 z.v.1] W fun e w' => e = .returned (.agg #[.int .i64 (allI z.v.1).lo.1, .int .i64 (allI z.v.1).lo.2.1, .string (allI z.v.1).lo.2.2, .bool (allI z.v.1).ls, .int .i64 (allI z.v.1).hi.1, .int .i64 (allI z.v.1).hi.2.1, .string (allI z.v.1).hi.2.2, .bool (allI z.v.1).hs, .bool (allI z.v.1).im]) ∧ Below W.heap.size W w' from pAll_any z.v.1 W)
   have HEM := Lib.hid (fun i W => show Calls Tryz.prog 80 #[.agg #[.int .i64 i.lo.1, .int .i64 i.lo.2.1, .string i.lo.2.2, .bool i.ls, .int .i64 i.hi.1, .int .i64 i.hi.2.1, .string i.hi.2.2, .bool i.hs, .bool i.im]] W fun e w' => e = .returned (.bool (empI i)) ∧ Below W.heap.size W w' from pEmp_any i W)
   have b5 := bel_mk wr (.cells #[.int .i64 z.op, .int .i64 z.col, .int .i64 z.v.1, .int .i64 z.v.2.1, .string z.v.2.2] 64)
   have HW5 := Lib.hid (HW.out.below b5)
   have HZ := Lib.hid (Own.new wr 64 #[.int .i64 z.op, .int .i64 z.col, .int .i64 z.v.1, .int .i64 z.v.2.1, .string z.v.2.2])
   have hlk := HW5.out.2.1.look z.col hwz
   dsimp only at hlk
   clear hnk hvz hzk b5 hs2
   cases hM : M z.col with
   | none =>
    have HM := Lib.hid hM
    rw [hM] at hlk
    dsimp only [Option.getD, Option.isSome] at hlk
    unfold itvV zeroI nullP at hlk
    (try dsimp only at hlk)
    clear hM
    have HO7 := Lib.hid (show Own ((wr.alloc (.cells #[.int .i64 z.op, .int .i64 z.col, .int .i64 z.v.1, .int .i64 z.v.2.1, .string z.v.2.2] 64)).alloc (.cells #[.int .i64 0, .int .i64 0, .string ⟨#[]⟩, .bool false, .int .i64 0, .int .i64 0, .string ⟨#[]⟩, .bool false, .bool false] 84)) (wr.heap.size + 1) 84 #[.int .i64 0, .int .i64 0, .string ⟨#[]⟩, .bool false, .int .i64 0, .int .i64 0, .string ⟨#[]⟩, .bool false, .bool false] from Va.own_two _)
    have HOZ := Lib.hid (show Own ((wr.alloc (.cells #[.int .i64 z.op, .int .i64 z.col, .int .i64 z.v.1, .int .i64 z.v.2.1, .string z.v.2.2] 64)).alloc (.cells #[.int .i64 0, .int .i64 0, .string ⟨#[]⟩, .bool false, .int .i64 0, .int .i64 0, .string ⟨#[]⟩, .bool false, .bool false] 84)) wr.heap.size 64 #[.int .i64 z.op, .int .i64 z.col, .int .i64 z.v.1, .int .i64 z.v.2.1, .string z.v.2.2] from (Own.new wr _ _).alloc _)
    have HBW := Lib.hid (show Below wr.heap.size wr ((wr.alloc (.cells #[.int .i64 z.op, .int .i64 z.col, .int .i64 z.v.1, .int .i64 z.v.2.1, .string z.v.2.2] 64)).alloc (.cells #[.int .i64 0, .int .i64 0, .string ⟨#[]⟩, .bool false, .int .i64 0, .int .i64 0, .string ⟨#[]⟩, .bool false, .bool false] 84)) from (bel_mk wr _).trans ((bel_mk _ _).mono (by simp)))
    go_wp2_with fail
    with_reducible refine (HAL.out _).mono ?_
    rintro e' w7 ⟨rfl, hb⟩
    replace HO7 := Lib.hid (HO7.out.below hb HO7.out.lt)
    replace HOZ := Lib.hid (HOZ.out.below hb HOZ.out.lt)
    replace HBW := Lib.hid (HBW.out.trans (hb.mono HBW.out.size))
    clear hb
    have pc0 := HO7.out.cell 0
    have pc1 := HO7.out.cell 1
    have pc2 := HO7.out.cell 2
    have pc3 := HO7.out.cell 3
    have pc4 := HO7.out.cell 4
    have pc5 := HO7.out.cell 5
    have pc6 := HO7.out.cell 6
    have pc7 := HO7.out.cell 7
    have pc8 := HO7.out.cell 8
    have pf0 := HO7.out.free 0
    have pf1 := HO7.out.free 1
    have pf2 := HO7.out.free 2
    have pf3 := HO7.out.free 3
    have pf4 := HO7.out.free 4
    have pf5 := HO7.out.free 5
    have pf6 := HO7.out.free 6
    have pf7 := HO7.out.free 7
    have pf8 := HO7.out.free 8
    have pz0 := HOZ.out.cell 0
    have pz1 := HOZ.out.cell 1
    have pz2 := HOZ.out.cell 2
    have pz3 := HOZ.out.cell 3
    have pz4 := HOZ.out.cell 4
    have HNq := Lib.hid (HN.out (allI z.v.1))
    generalize allI z.v.1 = ia at *
    go_wp2_with fail
    clear pc0 pf0 pc1 pf1 pc2 pf2 pc3 pf3 pc4 pf4 pc5 pf5 pc6 pf6 pc7 pf7 pc8 pf8 pz0 pz1 pz2 pz3 pz4
    have hx := (((((((((HO7.out.store 0 (.int .i64 ia.lo.1)).store 1 (.int .i64 ia.lo.2.1)).store 2 (.string ia.lo.2.2)).store 3 (.bool ia.ls)).store 4 (.int .i64 ia.hi.1)).store 5 (.int .i64 ia.hi.2.1)).store 6 (.string ia.hi.2.2)).store 7 (.bool ia.hs)).store 8 (.bool ia.im))
    simp only [List.setIfInBounds_toArray, List.set_cons_zero, List.set_cons_succ] at hx
    replace HO7 := Lib.hid hx
    clear hx
    replace HOZ := Lib.hid (((((((((HOZ.out.far (p := ⟨wr.heap.size + 1, 0, none⟩) (by show wr.heap.size ≠ wr.heap.size + 1; omega) (.int .i64 ia.lo.1)).far (p := ⟨wr.heap.size + 1, 1, none⟩) (by show wr.heap.size ≠ wr.heap.size + 1; omega) (.int .i64 ia.lo.2.1)).far (p := ⟨wr.heap.size + 1, 2, none⟩) (by show wr.heap.size ≠ wr.heap.size + 1; omega) (.string ia.lo.2.2)).far (p := ⟨wr.heap.size + 1, 3, none⟩) (by show wr.heap.size ≠ wr.heap.size + 1; omega) (.bool ia.ls)).far (p := ⟨wr.heap.size + 1, 4, none⟩) (by show wr.heap.size ≠ wr.heap.size + 1; omega) (.int .i64 ia.hi.1)).far (p := ⟨wr.heap.size + 1, 5, none⟩) (by show wr.heap.size ≠ wr.heap.size + 1; omega) (.int .i64 ia.hi.2.1)).far (p := ⟨wr.heap.size + 1, 6, none⟩) (by show wr.heap.size ≠ wr.heap.size + 1; omega) (.string ia.hi.2.2)).far (p := ⟨wr.heap.size + 1, 7, none⟩) (by show wr.heap.size ≠ wr.heap.size + 1; omega) (.bool ia.hs)).far (p := ⟨wr.heap.size + 1, 8, none⟩) (by show wr.heap.size ≠ wr.heap.size + 1; omega) (.bool ia.im))
    replace HBW := Lib.hid (((((((((HBW.out.sc (wr.heap.size + 1) 0 (.int .i64 ia.lo.1)).sc (wr.heap.size + 1) 1 (.int .i64 ia.lo.2.1)).sc (wr.heap.size + 1) 2 (.string ia.lo.2.2)).sc (wr.heap.size + 1) 3 (.bool ia.ls)).sc (wr.heap.size + 1) 4 (.int .i64 ia.hi.1)).sc (wr.heap.size + 1) 5 (.int .i64 ia.hi.2.1)).sc (wr.heap.size + 1) 6 (.string ia.hi.2.2)).sc (wr.heap.size + 1) 7 (.bool ia.hs)).sc (wr.heap.size + 1) 8 (.bool ia.im))
    generalize hr : narI ia z = r at *
    with_reducible refine (HNq.out _).mono ?_
    rintro e' w8 ⟨rfl, hb⟩
    replace HO7 := Lib.hid (HO7.out.below hb HO7.out.lt)
    replace HOZ := Lib.hid (HOZ.out.below hb HOZ.out.lt)
    replace HBW := Lib.hid (HBW.out.trans (hb.mono HBW.out.size))
    clear hb
    have qc0 := HO7.out.cell 0
    have qc1 := HO7.out.cell 1
    have qc2 := HO7.out.cell 2
    have qc3 := HO7.out.cell 3
    have qc4 := HO7.out.cell 4
    have qc5 := HO7.out.cell 5
    have qc6 := HO7.out.cell 6
    have qc7 := HO7.out.cell 7
    have qc8 := HO7.out.cell 8
    have qf0 := HO7.out.free 0
    have qf1 := HO7.out.free 1
    have qf2 := HO7.out.free 2
    have qf3 := HO7.out.free 3
    have qf4 := HO7.out.free 4
    have qf5 := HO7.out.free 5
    have qf6 := HO7.out.free 6
    have qf7 := HO7.out.free 7
    have qf8 := HO7.out.free 8
    have qz0 := HOZ.out.cell 0
    have qz1 := HOZ.out.cell 1
    have qz2 := HOZ.out.cell 2
    have qz3 := HOZ.out.cell 3
    have qz4 := HOZ.out.cell 4
    have hx := (((((((((HO7.out.store 0 (.int .i64 r.lo.1)).store 1 (.int .i64 r.lo.2.1)).store 2 (.string r.lo.2.2)).store 3 (.bool r.ls)).store 4 (.int .i64 r.hi.1)).store 5 (.int .i64 r.hi.2.1)).store 6 (.string r.hi.2.2)).store 7 (.bool r.hs)).store 8 (.bool r.im))
    simp only [List.setIfInBounds_toArray, List.set_cons_zero, List.set_cons_succ] at hx
    replace HO7 := Lib.hid hx
    clear hx
    replace HOZ := Lib.hid (((((((((HOZ.out.far (p := ⟨wr.heap.size + 1, 0, none⟩) (by show wr.heap.size ≠ wr.heap.size + 1; omega) (.int .i64 r.lo.1)).far (p := ⟨wr.heap.size + 1, 1, none⟩) (by show wr.heap.size ≠ wr.heap.size + 1; omega) (.int .i64 r.lo.2.1)).far (p := ⟨wr.heap.size + 1, 2, none⟩) (by show wr.heap.size ≠ wr.heap.size + 1; omega) (.string r.lo.2.2)).far (p := ⟨wr.heap.size + 1, 3, none⟩) (by show wr.heap.size ≠ wr.heap.size + 1; omega) (.bool r.ls)).far (p := ⟨wr.heap.size + 1, 4, none⟩) (by show wr.heap.size ≠ wr.heap.size + 1; omega) (.int .i64 r.hi.1)).far (p := ⟨wr.heap.size + 1, 5, none⟩) (by show wr.heap.size ≠ wr.heap.size + 1; omega) (.int .i64 r.hi.2.1)).far (p := ⟨wr.heap.size + 1, 6, none⟩) (by show wr.heap.size ≠ wr.heap.size + 1; omega) (.string r.hi.2.2)).far (p := ⟨wr.heap.size + 1, 7, none⟩) (by show wr.heap.size ≠ wr.heap.size + 1; omega) (.bool r.hs)).far (p := ⟨wr.heap.size + 1, 8, none⟩) (by show wr.heap.size ≠ wr.heap.size + 1; omega) (.bool r.im))
    replace HBW := Lib.hid (((((((((HBW.out.sc (wr.heap.size + 1) 0 (.int .i64 r.lo.1)).sc (wr.heap.size + 1) 1 (.int .i64 r.lo.2.1)).sc (wr.heap.size + 1) 2 (.string r.lo.2.2)).sc (wr.heap.size + 1) 3 (.bool r.ls)).sc (wr.heap.size + 1) 4 (.int .i64 r.hi.1)).sc (wr.heap.size + 1) 5 (.int .i64 r.hi.2.1)).sc (wr.heap.size + 1) 6 (.string r.hi.2.2)).sc (wr.heap.size + 1) 7 (.bool r.hs)).sc (wr.heap.size + 1) 8 (.bool r.im))
    obtain ⟨w10, hrun, hm10, hg10, hz10⟩ := (HW.out.below HBW.out).2.1.put z.col hwz r
    have HNP := Lib.hid ((HW.out.below HBW.out).put hm10 hg10)
    have HO9 := Lib.hid (HO7.out.grownX hg10 (fun b hb => by injection hb with hb; have := HW.out.2.1.lt; omega))
    unfold itvV at hrun
    (try dsimp only at hrun)
    have gf0 := HNP.out.1.cell 0
    have gm0 := HNP.out.1.free 0
    have u0 := HO9.out.cell 0
    have u1 := HO9.out.cell 1
    have u2 := HO9.out.cell 2
    have u3 := HO9.out.cell 3
    have u4 := HO9.out.cell 4
    have u5 := HO9.out.cell 5
    have u6 := HO9.out.cell 6
    have u7 := HO9.out.cell 7
    have u8 := HO9.out.cell 8
    clear hm10 hg10 hz10 HO7 HOZ HBW HNq HN HAL HZ HW5 hwz
    cases fl
    ·have HEq := Lib.hid (HEM.out r)
     generalize hem : empI r = em at *
     go_wp2_with fail
     with_reducible refine (HEq.out _).mono ?_
     rintro e' w11 ⟨rfl, hb⟩
     have HNR := Lib.hid (HNP.out.below hb)
     clear hb u0 u1 u2 u3 u4 u5 u6 u7 u8 gf0 gm0
     have gf1 := HNR.out.1.cell 0
     have gm1 := HNR.out.1.free 0
     have HNS := Lib.hid (HNR.out.flag em)
     go_wp2
     go_roundw
     case rel => exact ⟨k + 1, by omega, by go_num, Lib.hid (by rw [HNK.out, HM.out]; dsimp only [Option.getD]; rw [hr, hem]; exact HNS.out)⟩
     case measure => simp [intOf]; omega
    ·have HNS := Lib.hid (HNP.out.flag true)
     go_wp2
     go_roundw
     case rel => exact ⟨k + 1, by omega, by go_num, Lib.hid (by rw [HNK.out, HM.out]; dsimp only [Option.getD]; rw [hr]; exact HNS.out)⟩
     case measure => simp [intOf]; omega
   | some ia =>
    have HM := Lib.hid hM
    rw [hM] at hlk
    dsimp only [Option.getD, Option.isSome] at hlk
    unfold itvV at hlk
    (try dsimp only at hlk)
    clear hM
    have HO7 := Lib.hid (show Own ((wr.alloc (.cells #[.int .i64 z.op, .int .i64 z.col, .int .i64 z.v.1, .int .i64 z.v.2.1, .string z.v.2.2] 64)).alloc (.cells #[.int .i64 ia.lo.1, .int .i64 ia.lo.2.1, .string ia.lo.2.2, .bool ia.ls, .int .i64 ia.hi.1, .int .i64 ia.hi.2.1, .string ia.hi.2.2, .bool ia.hs, .bool ia.im] 84)) (wr.heap.size + 1) 84 #[.int .i64 ia.lo.1, .int .i64 ia.lo.2.1, .string ia.lo.2.2, .bool ia.ls, .int .i64 ia.hi.1, .int .i64 ia.hi.2.1, .string ia.hi.2.2, .bool ia.hs, .bool ia.im] from Va.own_two _)
    have HOZ := Lib.hid (show Own ((wr.alloc (.cells #[.int .i64 z.op, .int .i64 z.col, .int .i64 z.v.1, .int .i64 z.v.2.1, .string z.v.2.2] 64)).alloc (.cells #[.int .i64 ia.lo.1, .int .i64 ia.lo.2.1, .string ia.lo.2.2, .bool ia.ls, .int .i64 ia.hi.1, .int .i64 ia.hi.2.1, .string ia.hi.2.2, .bool ia.hs, .bool ia.im] 84)) wr.heap.size 64 #[.int .i64 z.op, .int .i64 z.col, .int .i64 z.v.1, .int .i64 z.v.2.1, .string z.v.2.2] from (Own.new wr _ _).alloc _)
    have HBW := Lib.hid (show Below wr.heap.size wr ((wr.alloc (.cells #[.int .i64 z.op, .int .i64 z.col, .int .i64 z.v.1, .int .i64 z.v.2.1, .string z.v.2.2] 64)).alloc (.cells #[.int .i64 ia.lo.1, .int .i64 ia.lo.2.1, .string ia.lo.2.2, .bool ia.ls, .int .i64 ia.hi.1, .int .i64 ia.hi.2.1, .string ia.hi.2.2, .bool ia.hs, .bool ia.im] 84)) from (bel_mk wr _).trans ((bel_mk _ _).mono (by simp)))
    have HNq := Lib.hid (HN.out ia)
    generalize hr : narI ia z = r at *
    go_wp2_with fail
    with_reducible refine (HNq.out _).mono ?_
    rintro e' w8 ⟨rfl, hb⟩
    replace HO7 := Lib.hid (HO7.out.below hb HO7.out.lt)
    replace HOZ := Lib.hid (HOZ.out.below hb HOZ.out.lt)
    replace HBW := Lib.hid (HBW.out.trans (hb.mono HBW.out.size))
    clear hb
    have qc0 := HO7.out.cell 0
    have qc1 := HO7.out.cell 1
    have qc2 := HO7.out.cell 2
    have qc3 := HO7.out.cell 3
    have qc4 := HO7.out.cell 4
    have qc5 := HO7.out.cell 5
    have qc6 := HO7.out.cell 6
    have qc7 := HO7.out.cell 7
    have qc8 := HO7.out.cell 8
    have qf0 := HO7.out.free 0
    have qf1 := HO7.out.free 1
    have qf2 := HO7.out.free 2
    have qf3 := HO7.out.free 3
    have qf4 := HO7.out.free 4
    have qf5 := HO7.out.free 5
    have qf6 := HO7.out.free 6
    have qf7 := HO7.out.free 7
    have qf8 := HO7.out.free 8
    have qz0 := HOZ.out.cell 0
    have qz1 := HOZ.out.cell 1
    have qz2 := HOZ.out.cell 2
    have qz3 := HOZ.out.cell 3
    have qz4 := HOZ.out.cell 4
    have hx := (((((((((HO7.out.store 0 (.int .i64 r.lo.1)).store 1 (.int .i64 r.lo.2.1)).store 2 (.string r.lo.2.2)).store 3 (.bool r.ls)).store 4 (.int .i64 r.hi.1)).store 5 (.int .i64 r.hi.2.1)).store 6 (.string r.hi.2.2)).store 7 (.bool r.hs)).store 8 (.bool r.im))
    simp only [List.setIfInBounds_toArray, List.set_cons_zero, List.set_cons_succ] at hx
    replace HO7 := Lib.hid hx
    clear hx
    replace HOZ := Lib.hid (((((((((HOZ.out.far (p := ⟨wr.heap.size + 1, 0, none⟩) (by show wr.heap.size ≠ wr.heap.size + 1; omega) (.int .i64 r.lo.1)).far (p := ⟨wr.heap.size + 1, 1, none⟩) (by show wr.heap.size ≠ wr.heap.size + 1; omega) (.int .i64 r.lo.2.1)).far (p := ⟨wr.heap.size + 1, 2, none⟩) (by show wr.heap.size ≠ wr.heap.size + 1; omega) (.string r.lo.2.2)).far (p := ⟨wr.heap.size + 1, 3, none⟩) (by show wr.heap.size ≠ wr.heap.size + 1; omega) (.bool r.ls)).far (p := ⟨wr.heap.size + 1, 4, none⟩) (by show wr.heap.size ≠ wr.heap.size + 1; omega) (.int .i64 r.hi.1)).far (p := ⟨wr.heap.size + 1, 5, none⟩) (by show wr.heap.size ≠ wr.heap.size + 1; omega) (.int .i64 r.hi.2.1)).far (p := ⟨wr.heap.size + 1, 6, none⟩) (by show wr.heap.size ≠ wr.heap.size + 1; omega) (.string r.hi.2.2)).far (p := ⟨wr.heap.size + 1, 7, none⟩) (by show wr.heap.size ≠ wr.heap.size + 1; omega) (.bool r.hs)).far (p := ⟨wr.heap.size + 1, 8, none⟩) (by show wr.heap.size ≠ wr.heap.size + 1; omega) (.bool r.im))
    replace HBW := Lib.hid (((((((((HBW.out.sc (wr.heap.size + 1) 0 (.int .i64 r.lo.1)).sc (wr.heap.size + 1) 1 (.int .i64 r.lo.2.1)).sc (wr.heap.size + 1) 2 (.string r.lo.2.2)).sc (wr.heap.size + 1) 3 (.bool r.ls)).sc (wr.heap.size + 1) 4 (.int .i64 r.hi.1)).sc (wr.heap.size + 1) 5 (.int .i64 r.hi.2.1)).sc (wr.heap.size + 1) 6 (.string r.hi.2.2)).sc (wr.heap.size + 1) 7 (.bool r.hs)).sc (wr.heap.size + 1) 8 (.bool r.im))
    obtain ⟨w10, hrun, hm10, hg10, hz10⟩ := (HW.out.below HBW.out).2.1.put z.col hwz r
    have HNP := Lib.hid ((HW.out.below HBW.out).put hm10 hg10)
    have HO9 := Lib.hid (HO7.out.grownX hg10 (fun b hb => by injection hb with hb; have := HW.out.2.1.lt; omega))
    unfold itvV at hrun
    (try dsimp only at hrun)
    have gf0 := HNP.out.1.cell 0
    have gm0 := HNP.out.1.free 0
    have u0 := HO9.out.cell 0
    have u1 := HO9.out.cell 1
    have u2 := HO9.out.cell 2
    have u3 := HO9.out.cell 3
    have u4 := HO9.out.cell 4
    have u5 := HO9.out.cell 5
    have u6 := HO9.out.cell 6
    have u7 := HO9.out.cell 7
    have u8 := HO9.out.cell 8
    clear hm10 hg10 hz10 HO7 HOZ HBW HNq HN HAL HZ HW5 hwz
    cases fl
    ·have HEq := Lib.hid (HEM.out r)
     generalize hem : empI r = em at *
     go_wp2_with fail
     with_reducible refine (HEq.out _).mono ?_
     rintro e' w11 ⟨rfl, hb⟩
     have HNR := Lib.hid (HNP.out.below hb)
     clear hb u0 u1 u2 u3 u4 u5 u6 u7 u8 gf0 gm0
     have gf1 := HNR.out.1.cell 0
     have gm1 := HNR.out.1.free 0
     have HNS := Lib.hid (HNR.out.flag em)
     go_wp2
     go_roundw
     case rel => exact ⟨k + 1, by omega, by go_num, Lib.hid (by rw [HNK.out, HM.out]; dsimp only [Option.getD]; rw [hr, hem]; exact HNS.out)⟩
     case measure => simp [intOf]; omega
    ·have HNS := Lib.hid (HNP.out.flag true)
     go_wp2
     go_roundw
     case rel => exact ⟨k + 1, by omega, by go_num, Lib.hid (by rw [HNK.out, HM.out]; dsimp only [Option.getD]; rw [hr]; exact HNS.out)⟩
     case measure => simp [intOf]; omega
  ·have hki : ¬ (k : Int) < zs.length := by omega
   have HWE := Lib.hid (show NevI w wr (w.heap.size + 1) gm (.slice Av zs.length cv) zs (zs.foldl nevS ((fun _ => none), b0)) from by have h := HW.out; rwa [List.take_of_length_le (by omega)] at h)
   clear HW
   have c0 := HWE.out.1.cell 0
   go_wp2
   go_ret
   exact ⟨rfl, HWE.out.2.2.2.2.2⟩
end Go.Proofs.YtdhemhmgenhmaaaGreat
