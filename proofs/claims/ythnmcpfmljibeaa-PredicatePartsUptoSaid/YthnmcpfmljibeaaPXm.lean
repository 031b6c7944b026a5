import Derived.Test.YthnmcpfmljibeaaPRh
import Derived.WalkKit
import Derived.WalkSpells
import Derived.WalkLawsBesides
import Derived.Deep.QuietTactic
import Derived.BigQuiet
import Derived.Handy
import Derived.Lib.Hide
import Derived.Test.YthnmcpfmljibeaaQEE
/-
  Both windows are the same. Conditions: none.
-/
namespace Go.Proofs.Ythnmcpfmljibeaa
set_option maxRecDepth 100000
set_option linter.unusedVariables false
set_option linter.unusedSimpArgs false
open Go.RowKit

theorem cmp_int {a b : Int} : cmpP (1, a, ⟨#[]⟩) (1, b, ⟨#[]⟩) = if a < b then -1 else if b < a then 1 else 0 := by
  rw [← cmpV_P]
  unfold cmpV
  rw [if_neg (by omega), if_neg (by omega)]
  by_cases h1 : a < b
  · rw [if_pos h1, if_pos h1]
  · rw [if_neg h1, if_neg h1]
    by_cases h2 : b < a
    · rw [if_pos h2, if_pos h2]
    · rw [if_neg h2, if_neg h2]
      rfl
/-- The interval of a range. -/
def ofR (r : Int × Int) : Itv := ⟨(1, r.1, ⟨#[]⟩), false, (1, r.2, ⟨#[]⟩), false, false⟩
theorem itI_of {a b : Int} (ha : -1125899906842624 ≤ a ∧ a ≤ 1125899906842624) (hb : -1125899906842624 ≤ b ∧ b ≤ 1125899906842624) : itI a b = ofR (a, b) := by
  have hn : ∀ n : Int, -1125899906842624 ≤ n ∧ n ≤ 1125899906842624 → intP n = (1, n, ⟨#[]⟩) := fun n h => by
    unfold intP nrmP vldP Va.vldV
    simp [h.1, h.2, Va.emp]
  unfold itI btw ofR
  rw [hn a ha, hn b hb]
theorem v_int {v : Vl} (hv : vldP v = true) (h1 : v.1 = 1) : v = (1, v.2.1, ⟨#[]⟩) := by
  obtain ⟨k, n, s⟩ := v
  dsimp only at h1
  subst h1
  unfold vldP Va.vldV at hv
  dsimp only at hv
  rw [if_neg (by omega), if_pos rfl] at hv
  simp only [Bool.and_eq_true] at hv
  have h2 := hv.2
  unfold Va.emp at h2
  have h3 : s.toList = [] := by simpa using h2
  have h4 : s = ⟨#[]⟩ := mk_ext (by rw [← Lib.toList_data, ← Lib.toList_data, h3, Lib.toList_data])
  rw [h4]
theorem abv_of (r : Int × Int) (n : Int) : abvI (ofR r) (1, n, ⟨#[]⟩) false = ofR (max r.1 n, r.2) := by
  unfold abvI
  have h : cmpP (1, n, ⟨#[]⟩) (ofR r).lo = if n < r.1 then -1 else if r.1 < n then 1 else 0 := cmp_int
  rw [h]
  by_cases h1 : r.1 < n
  · rw [if_pos (.inl (by rw [if_neg (by omega), if_pos h1]; decide))]
    unfold ofR
    rw [Int.max_eq_right (by omega)]
  · rw [if_neg (by
      rintro (h2 | h2)
      · by_cases h3 : n < r.1
        · rw [if_pos h3] at h2; omega
        · rw [if_neg h3, if_neg h1] at h2; omega
      · exact absurd h2.2 (by simp))]
    unfold ofR
    rw [Int.max_eq_left (by omega)]
theorem blw_of (r : Int × Int) (n : Int) : blwI (ofR r) (1, n, ⟨#[]⟩) false = ofR (r.1, min r.2 n) := by
  unfold blwI
  have h : cmpP (1, n, ⟨#[]⟩) (ofR r).hi = if n < r.2 then -1 else if r.2 < n then 1 else 0 := cmp_int
  rw [h]
  by_cases h1 : n < r.2
  · rw [if_pos (.inl (by rw [if_pos h1]; decide))]
    unfold ofR
    rw [Int.min_eq_right (by omega)]
  · rw [if_neg (by rintro (h2 | h2); (rw [if_neg h1] at h2; split at h2 <;> simp at h2); (simp at h2))]
    unfold ofR
    rw [Int.min_eq_left (by omega)]
theorem nar_of (r : Int × Int) (c : Cnd) (hv : vldP c.v = true) (h1 : c.v.1 = 1) (ho : cmqO c.op = true) : narI (ofR r) c = ofR (narR r c) := by
  have e := v_int hv h1
  unfold narI narR
  rw [if_neg (by rw [h1]; simp [ofR])]
  have hb : ∀ st, beyI c.v st = ((1, c.v.2.1 + st, ⟨#[]⟩), false) := fun st => by
    rw [e]
    unfold beyI
    rw [if_neg (by simp)]
  by_cases h7 : c.op = 7
  · rw [if_pos h7, if_pos h7, e, abv_of, blw_of]
  rw [if_neg h7, if_neg h7]
  by_cases h11 : c.op = 11
  · rw [if_pos h11, if_neg (by omega), if_neg (by omega), if_pos h11, hb, abv_of]
  rw [if_neg h11]
  by_cases h12 : c.op = 12
  · rw [if_pos h12, if_neg (by omega), if_neg (by omega), if_neg (by omega), e, abv_of]
  rw [if_neg h12]
  by_cases h9 : c.op = 9
  · rw [if_pos h9, if_pos h9, hb, blw_of]
    rfl
  rw [if_neg h9, if_neg h9]
  have h10 : c.op = 10 := by
    unfold cmqO at ho
    simp only [Bool.or_eq_true, beq_iff_eq] at ho
    omega
  rw [if_pos h10, e, blw_of]
theorem cond_op {e : Ex} {c : Cnd} (h : condE e = some c) : cmqO c.op = true := by
  have hm : ∀ op, cmqO op = true → cmqO (mirO op) = true := fun op h => by
    unfold cmqO at h
    simp only [Bool.or_eq_true, beq_iff_eq] at h
    rcases h with (((h | h) | h) | h) | h <;> subst h <;> rfl
  have hc : ∀ op a b, cmqO op = true → cndO op a b = some c → cmqO c.op = true := fun op a b h0 h => by
    unfold cndO at h
    split at h
    · injection h with h
      subst h
      exact h0
    · cases h
  unfold condE at h
  split at h
  · split at h
    · rename_i h0
      split at h
      · exact hc _ _ _ (hm _ h0) h
      · exact hc _ _ _ h0 h
    · cases h
  · cases h
/-- Once impossible, an interval stays so. -/
theorem nar_im (l : List Cnd) : ∀ i : Itv, i.im = true → (l.foldl narI i).im = true := by
  have one : ∀ (i : Itv) (c : Cnd), i.im = true → (narI i c).im = true := fun i c h => by
    have ha : ∀ (i : Itv) b s, i.im = true → (abvI i b s).im = true := fun i b s h => by unfold abvI; split <;> exact h
    have hb : ∀ (i : Itv) b s, i.im = true → (blwI i b s).im = true := fun i b s h => by unfold blwI; split <;> exact h
    unfold narI
    split
    · rfl
    · split
      · exact hb _ _ _ (ha _ _ _ h)
      · split
        · exact ha _ _ _ h
        · split
          · exact ha _ _ _ h
          · split
            · exact hb _ _ _ h
            · exact hb _ _ _ h
  induction l with
  | nil => intro i h; exact h
  | cons c l ih => intro i h; exact ih _ (one i c h)
/-- The interval of the program against the range of the reference. -/
theorem fold_of (l : List Cnd) (hv : ∀ c ∈ l, vldP c.v = true ∧ cmqO c.op = true) : ∀ r : Int × Int, ((bndR l r).2 = true → l.foldl narI (ofR r) = ofR (bndR l r).1) ∧ ((bndR l r).2 = false → (l.foldl narI (ofR r)).im = true) := by
  induction l with
  | nil => intro r; exact ⟨fun _ => rfl, fun h => by cases h⟩
  | cons c l ih =>
    intro r
    unfold bndR
    by_cases h1 : c.v.1 ≠ 1
    · rw [if_pos h1]
      refine ⟨fun h => (by cases h), fun _ => nar_im l _ ?_⟩
      unfold narI
      rw [if_pos (by simpa [ofR] using h1)]
    · rw [if_neg h1]
      have h2 : c.v.1 = 1 := by simpa using h1
      have h3 := ih (fun c hc => hv c (List.mem_cons_of_mem _ hc)) (narR r c)
      rw [List.foldl_cons, nar_of r c (hv c List.mem_cons_self).1 h2 (hv c List.mem_cons_self).2]
      exact h3
theorem nar_mono (r : Int × Int) (c : Cnd) : r.1 ≤ (narR r c).1 ∧ (narR r c).2 ≤ r.2 := by
  unfold narR
  split
  · dsimp only; omega
  · split
    · dsimp only; omega
    · split
      · dsimp only; omega
      · split
        · dsimp only; omega
        · dsimp only; omega
theorem bnd_mono (l : List Cnd) : ∀ r : Int × Int, r.1 ≤ (bndR l r).1.1 ∧ (bndR l r).1.2 ≤ r.2 := by
  induction l with
  | nil => intro r; exact ⟨Int.le_refl _, Int.le_refl _⟩
  | cons c l ih =>
    intro r
    unfold bndR
    split
    · exact ⟨Int.le_refl _, Int.le_refl _⟩
    · have h1 := ih (narR r c)
      have h2 := nar_mono r c
      exact ⟨Int.le_trans h2.1 h1.1, Int.le_trans h1.2 h2.2⟩
theorem emp_of (r : Int × Int) : empI (ofR r) = true ↔ r.2 < r.1 := by
  unfold empI
  have h : cmpP (ofR r).lo (ofR r).hi = if r.1 < r.2 then -1 else if r.2 < r.1 then 1 else 0 := cmp_int
  rw [h]
  by_cases h1 : r.1 < r.2
  · rw [if_pos h1]
    simp [ofR]
    omega
  · rw [if_neg h1]
    by_cases h2 : r.2 < r.1
    · rw [if_pos h2]
      simp [ofR, h2]
    · rw [if_neg h2]
      simp [ofR]
      omega
theorem emp_im {i : Itv} (h : i.im = true) : empI i = true := by
  unfold empI
  rw [h]
  rfl
/-- Both windows are the same. -/
theorem win_eq (l : List Cnd) (hv : ∀ c ∈ l, vldP c.v = true ∧ cmqO c.op = true) (f t : Int) : winE l f t = winR l f t := by
  have hs : ∀ q, ∀ c ∈ onC l q, vldP c.v = true ∧ cmqO c.op = true := fun q c hc => hv c (List.mem_filter.1 hc).1
  unfold winE winR
  rw [itI_of (by omega) (by omega), itI_of (by omega) (by omega)]
  have hf := fold_of (onC l f) (hs f) (0, 1099511627775)
  have ht := fold_of (onC l t) (hs t) (1, 1099511627776)
  have mf := bnd_mono (onC l f) (0, 1099511627775)
  have mt := bnd_mono (onC l t) (1, 1099511627776)
  generalize (onC l f).foldl narI (ofR (0, 1099511627775)) = i at *
  generalize (onC l t).foldl narI (ofR (1, 1099511627776)) = j at *
  generalize bndR (onC l f) (0, 1099511627775) = a at *
  generalize bndR (onC l t) (1, 1099511627776) = b at *
  obtain ⟨⟨a1, a2⟩, ab⟩ := a
  obtain ⟨⟨b1, b2⟩, bb⟩ := b
  dsimp only at *
  unfold winB winQ
  dsimp only
  cases ab
  · rw [if_pos (.inl (emp_im (hf.2 rfl))), if_pos (.inl rfl)]
  · cases bb
    · rw [if_pos (.inr (.inl (emp_im (ht.2 rfl)))), if_pos (.inr (.inl rfl))]
    · rw [hf.1 rfl, ht.1 rfl]
      by_cases h1 : a2 < a1
      · rw [if_pos (.inl ((emp_of _).2 h1)), if_pos (.inr (.inr (.inl h1)))]
      · by_cases h2 : b2 < b1
        · rw [if_pos (.inr (.inl ((emp_of _).2 h2))), if_pos (.inr (.inr (.inr (.inl h2))))]
        · by_cases h3 : b2 ≤ a1
          · rw [if_pos (.inr (.inr (by unfold vldW ofR; simp; omega))), if_pos (.inr (.inr (.inr (.inr h3))))]
          · have hq : ¬ (true = false ∨ true = false ∨ a2 < a1 ∨ b2 < b1 ∨ b2 ≤ a1) := by rintro (h | h | h | h | h); cases h; cases h; exact h1 h; exact h2 h; exact h3 h
            rw [if_neg (by
              rintro (h | h | h)
              · exact h1 ((emp_of _).1 h)
              · exact h2 ((emp_of _).1 h)
              · unfold vldW ofR at h; simp at h; omega)]
            by_cases h4 : a2 < b1
            · rw [if_pos (by unfold vldW ofR; simp; omega), if_neg hq, if_pos h4]
              rfl
            · rw [if_neg (by unfold vldW ofR; simp; omega), if_neg hq, if_neg h4]
              rfl
end Go.Proofs.Ythnmcpfmljibeaa
/-
  The expressions of the statements' examples: compare, and; what the program answers to them. Conditions: none.
-/
namespace Go.Proofs.Ythnmcpfmljibeaa
set_option maxRecDepth 100000
set_option linter.unusedVariables false
set_option linter.unusedSimpArgs false
open Go.RowKit

def colX (i : Int) : Ex := ⟨2, i, (0, 0, ⟨#[]⟩), ⟨#[]⟩, []⟩
/-- The comparison of column i with a number. -/
def cpX (op i n : Int) : Ex := ⟨op, 0, (0, 0, ⟨#[]⟩), ⟨#[]⟩, [colX i, numE n]⟩
def anX (a b : Ex) : Ex := ⟨5, 0, (0, 0, ⟨#[]⟩), ⟨#[]⟩, [a, b]⟩
set_option maxRecDepth 100000 in
set_option maxHeartbeats 6400000 in
theorem pCpL_any (op i n : Int) (w : World) : Calls Try.prog 30 #[.int .i64 op, .int .i64 i, .int .i64 n] w fun e w' => ∃ u, e = .returned u ∧ IsE 2 (cpX op i n) u w' ∧ Below w.heap.size w w' := by
  go_enter Try.func30, Try.ntmps30
  go_wp2_with fail
  (try simp only [Exit.inBlock, Exit.then]); refine bodyPost_ret_by (rcell1 (by rfl) _ _ (w.heap.size) _ (by rfl) (load_exp ((Own.new w _ _).alloc _))) ?_ ?_; (focus rfl)
  exact ⟨_, rfl, ⟨_, _, rfl, rdE_two (a := colX i) (b := numE n) (rdE_nil _ 0 _ 1 (by decide)) (rdE_nil _ 0 _ 1 (by decide)) (Va.own_two _)⟩, (bel_mk w _).trans ((bel_mk _ _).mono (by simp))⟩
set_option maxRecDepth 100000 in
set_option maxHeartbeats 6400000 in
theorem pAnL_any (d : Nat) (a b : Ex) (va vb : Value) (w : World) (ha : IsE d a va w) (hb : IsE d b vb w) :
    Calls Try.prog 31 #[va, vb] w fun e w' => ∃ u, e = .returned u ∧ IsE (d + 1) (anX a b) u w' ∧ Below w.heap.size w w' := by
  obtain ⟨Aa, ca, rfl, hra⟩ := ha
  obtain ⟨Ab, cb, rfl, hrb⟩ := hb
  have HRA := Lib.hid hra
  have HRB := Lib.hid hrb
  unfold exV
  clear hra hrb
  go_enter Try.func31, Try.ntmps31
  go_wp2_with fail
  (try simp only [Exit.inBlock, Exit.then]); refine bodyPost_ret_by (rcell1 (by rfl) _ _ (w.heap.size + 1 + 1) _ (by rfl) (load_exp ((own_three0 _ _).alloc _))) ?_ ?_; (focus rfl)
  exact ⟨_, rfl, ⟨_, _, rfl, rdE_two (HRA.out.step (below_four w _ _ _ _) (Nat.le_refl _)) (HRB.out.step (below_four w _ _ _ _) (Nat.le_refl _)) (own_four _ _ _)⟩, below_four w _ _ _ _⟩
theorem wf_an (a b : Ex) : wfX (anX a b) = true := by
  simp [wfX, anX, wfE, knw, opLo, opHi, fldE, Va.eqV]
theorem conj_an (d : Nat) (a b : Ex) : conjE (d + 1) (anX a b) = conjE d a ++ conjE d b := by
  rw [conjE_and d (anX a b) ⟨rfl, wf_an a b⟩]
  simp [anX]
theorem conj_cp (d : Nat) (op i n : Int) (h : op ≠ 5) : conjE (d + 1) (cpX op i n) = [cpX op i n] := conjE_leaf d _ (fun h2 => h h2.1)
theorem cond_cp (op i n : Int) (h : cmqO op = true) (hn : -1125899906842624 ≤ n ∧ n ≤ 1125899906842624) : condE (cpX op i n) = some ⟨op, i, (1, n, ⟨#[]⟩)⟩ := by
  have hv : vldP (1, n, ⟨#[]⟩) = true := by unfold vldP Va.vldV; simp [hn.1, hn.2, Va.emp]
  unfold condE cpX
  dsimp only
  rw [if_pos h, if_neg (by simp [colX])]
  exact if_pos ⟨rfl, rfl, hv, by unfold nullP numE; simp⟩
/-- The constant first: 3 < column 0. -/
def miX : Ex := ⟨9, 0, (0, 0, ⟨#[]⟩), ⟨#[]⟩, [numE 3, colX 0]⟩
theorem cond_mi : condE miX = some ⟨11, 0, (1, 3, ⟨#[]⟩)⟩ := by
  have hv : vldP (1, 3, ⟨#[]⟩) = true := by unfold vldP Va.vldV; simp [Va.emp]
  unfold condE miX
  dsimp only
  rw [if_pos (by rfl), if_pos (by rfl)]
  exact if_pos ⟨rfl, rfl, hv, by unfold nullP numE; simp⟩
theorem win_ex (d : Nat) : winE ((conjE (d + 2) (anX (cpX 10 0 5) (cpX 11 1 5))).filterMap condE) 0 1 = ((5, 6), true) := by
  rw [conj_an, conj_cp _ _ _ _ (by decide), conj_cp _ _ _ _ (by decide), List.filterMap_append]
  rw [show [cpX 10 0 5].filterMap condE = [⟨10, 0, (1, 5, ⟨#[]⟩)⟩] from by simp [cond_cp 10 0 5 (by rfl) (by omega)], show [cpX 11 1 5].filterMap condE = [⟨11, 1, (1, 5, ⟨#[]⟩)⟩] from by simp [cond_cp 11 1 5 (by rfl) (by omega)]]
  rw [win_eq _ (by
    intro c hc
    have hv : vldP (1, 5, ⟨#[]⟩) = true := by unfold vldP Va.vldV; simp [Va.emp]
    simp only [List.cons_append, List.nil_append, List.mem_cons, List.not_mem_nil, or_false] at hc
    rcases hc with rfl | rfl
    · exact ⟨hv, rfl⟩
    · exact ⟨hv, rfl⟩) 0 1]
  decide
theorem cnd_ex (d : Nat) : (conjE (d + 2) (anX miX (cpX 10 0 4))).filterMap condE = [⟨11, 0, (1, 3, ⟨#[]⟩)⟩, ⟨10, 0, (1, 4, ⟨#[]⟩)⟩] := by
  rw [conj_an, show conjE (d + 1) miX = [miX] from conjE_leaf d _ (fun h => by cases h.1), conj_cp _ _ _ _ (by decide), List.filterMap_append]
  simp [cond_mi, cond_cp 10 0 4 (by rfl) (by omega)]
end Go.Proofs.Ythnmcpfmljibeaa
/-
  What Never answers at the statements' examples. Conditions: none.
-/
namespace Go.Proofs.Ythnmcpfmljibeaa
set_option maxRecDepth 100000
set_option linter.unusedVariables false
set_option linter.unusedSimpArgs false
open Go.RowKit

theorem v_3 : vldP (1, 3, ⟨#[]⟩) = true := by unfold vldP Va.vldV; simp [Va.emp]
theorem v_4 : vldP (1, 4, ⟨#[]⟩) = true := by unfold vldP Va.vldV; simp [Va.emp]
theorem all_1 : allI 1 = ofR (-1125899906842624, 1125899906842624) := by
  unfold allI
  rw [if_pos rfl]
  exact itI_of (by omega) (by omega)
theorem nar_3 : narI (allI 1) ⟨11, 0, (1, 3, ⟨#[]⟩)⟩ = ofR (4, 1125899906842624) := by
  rw [all_1, nar_of _ _ v_3 rfl (by rfl)]
  exact congrArg ofR (by decide)
theorem nar_34 : narI (ofR (4, 1125899906842624)) ⟨10, 0, (1, 4, ⟨#[]⟩)⟩ = ofR (4, 4) := by
  rw [nar_of _ _ v_4 rfl (by rfl)]
  exact congrArg ofR (by decide)
theorem nar_33 : narI (ofR (4, 1125899906842624)) ⟨9, 0, (1, 4, ⟨#[]⟩)⟩ = ofR (4, 3) := by
  rw [nar_of _ _ v_4 rfl (by rfl)]
  exact congrArg ofR (by decide)
theorem emp_f (a b : Int) (h : a ≤ b) : empI (ofR (a, b)) = false := by
  have h1 := emp_of (a, b)
  cases h2 : empI (ofR (a, b)) with
  | false => rfl
  | true => have := h1.1 h2; dsimp only at this; omega
theorem nev_two (c d : Cnd) (cs : List Ex) (i j : Itv) (hc : cs.filterMap condE = [c, d]) (ha : cs.any nevA = false) (hk : d.col = c.col) (hi : narI (allI c.v.1) c = i) (hj : narI i d = j) : nevE cs = (empI i || empI j) := by
  unfold nevE
  rw [hc, ha]
  simp only [List.foldl_cons, List.foldl_nil]
  unfold nevS
  dsimp only
  rw [if_pos hk]
  simp only [Option.getD_none, Option.getD_some, hi, hj, Bool.false_or]
theorem conj_mi (d : Nat) (op : Int) (h : op ≠ 5) : conjE (d + 2) (anX miX (cpX op 0 4)) = [miX, cpX op 0 4] := by
  rw [conj_an, show conjE (d + 1) miX = [miX] from conjE_leaf d _ (fun h => by cases h.1), conj_cp _ _ _ _ h]
  rfl
theorem nev_ex (d : Nat) : nevE (conjE (d + 2) (anX miX (cpX 10 0 4))) = false := by
  rw [conj_mi d 10 (by decide)]
  rw [nev_two ⟨11, 0, (1, 3, ⟨#[]⟩)⟩ ⟨10, 0, (1, 4, ⟨#[]⟩)⟩ _ _ _ (by simp [cond_mi, cond_cp 10 0 4 (by rfl) (by omega)]) (by simp [nevA, miX, cpX]) rfl nar_3 nar_34, emp_f 4 1125899906842624 (by omega), emp_f 4 4 (by omega)]
  rfl
theorem nev_ex2 (d : Nat) : nevE (conjE (d + 2) (anX miX (cpX 9 0 4))) = true := by
  rw [conj_mi d 9 (by decide)]
  rw [nev_two ⟨11, 0, (1, 3, ⟨#[]⟩)⟩ ⟨9, 0, (1, 4, ⟨#[]⟩)⟩ _ _ _ (by simp [cond_mi, cond_cp 9 0 4 (by rfl) (by omega)]) (by simp [nevA, miX, cpX]) rfl nar_3 nar_33, (emp_of (4, 3)).2 (by decide)]
  simp
end Go.Proofs.Ythnmcpfmljibeaa
