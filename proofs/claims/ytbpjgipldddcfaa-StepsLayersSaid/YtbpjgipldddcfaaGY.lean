import Derived.Test.YtbpjgipldddcfaaGX
import Derived.WalkKit
import Derived.WalkSpells
import Derived.WalkLawsBesides
import Derived.Deep.QuietTactic
import Derived.BigQuiet
import Derived.Handy
import Derived.Lib.Hide
/-
  Comparing periods; the layers of a step function, as mathematics. Conditions: none.
-/
namespace Go.Proofs.Ytbpjgipldddcfaa
set_option maxRecDepth 100000
set_option linter.unusedVariables false
set_option linter.unusedSimpArgs false
open Go.RowKit Go.Sort Go.Lib

def cmpP (a b c d : Int) : Int := if a < c then -1 else if c < a then 1 else if b < d then -1 else if d < b then 1 else 0

set_option maxHeartbeats 400000 in
theorem compare_any (a b c d : Int) (w : World) :
    Calls Try.prog 28 #[.agg #[.int .i64 a, .int .i64 b], .agg #[.int .i64 c, .int .i64 d]] w fun e w' => e = .returned (.int .i64 (cmpP a b c d)) ∧ Below w.heap.size w w' := by
  unfold cmpP
  rcases Int.lt_trichotomy a c with h | h | h
  · have k : (a == c) = false := by simp; omega
    rw [if_pos h]
    go_enter Try.func28, Try.ntmps28
    go_wp2
    go_ret
    refine ⟨rfl, ?_⟩; (repeat' (first | (with_reducible exact Below.refl _ _) | (with_reducible assumption) | (with_reducible refine Below.alloc ?_ ?_ _) | (with_reducible refine Below.drew ?_) | (with_reducible refine Below.setCell ?_ ?_ _) | (with_reducible refine Below.trans ?_ (Below.mono (by assumption) ?_)) | go_size))
  · subst h
    rw [if_neg (by omega), if_neg (by omega)]
    rcases Int.lt_trichotomy b d with h | h | h
    · have k : (b == d) = false := by simp; omega
      rw [if_pos h]
      go_enter Try.func28, Try.ntmps28
      go_wp2
      go_ret
      refine ⟨rfl, ?_⟩; (repeat' (first | (with_reducible exact Below.refl _ _) | (with_reducible assumption) | (with_reducible refine Below.alloc ?_ ?_ _) | (with_reducible refine Below.drew ?_) | (with_reducible refine Below.setCell ?_ ?_ _) | (with_reducible refine Below.trans ?_ (Below.mono (by assumption) ?_)) | go_size))
    · subst h
      rw [if_neg (by omega), if_neg (by omega)]
      go_enter Try.func28, Try.ntmps28
      go_wp2
      go_ret
      refine ⟨rfl, ?_⟩; (repeat' (first | (with_reducible exact Below.refl _ _) | (with_reducible assumption) | (with_reducible refine Below.alloc ?_ ?_ _) | (with_reducible refine Below.drew ?_) | (with_reducible refine Below.setCell ?_ ?_ _) | (with_reducible refine Below.trans ?_ (Below.mono (by assumption) ?_)) | go_size))
    · have k : (b == d) = false := by simp; omega
      rw [if_neg (by omega), if_pos h]
      go_enter Try.func28, Try.ntmps28
      go_wp2
      go_ret
      refine ⟨rfl, ?_⟩; (repeat' (first | (with_reducible exact Below.refl _ _) | (with_reducible assumption) | (with_reducible refine Below.alloc ?_ ?_ _) | (with_reducible refine Below.drew ?_) | (with_reducible refine Below.setCell ?_ ?_ _) | (with_reducible refine Below.trans ?_ (Below.mono (by assumption) ?_)) | go_size))
  · have k : (a == c) = false := by simp; omega
    rw [if_neg (by omega), if_pos h]
    go_enter Try.func28, Try.ntmps28
    go_wp2
    go_ret
    refine ⟨rfl, ?_⟩; (repeat' (first | (with_reducible exact Below.refl _ _) | (with_reducible assumption) | (with_reducible refine Below.alloc ?_ ?_ _) | (with_reducible refine Below.drew ?_) | (with_reducible refine Below.setCell ?_ ?_ _) | (with_reducible refine Below.trans ?_ (Below.mono (by assumption) ?_)) | go_size))

set_option maxHeartbeats 400000 in
theorem compare_grow (a b c d : Int) (w : World) :
    Calls Try.prog 28 #[.agg #[.int .i64 a, .int .i64 b], .agg #[.int .i64 c, .int .i64 d]] w fun e w' => e = .returned (.int .i64 (cmpP a b c d)) ∧ ∃ q os, w' = grow (w.drewN q) os := by
  unfold cmpP
  rcases Int.lt_trichotomy a c with h | h | h
  · have k : (a == c) = false := by simp; omega
    rw [if_pos h]
    go_enter Try.func28, Try.ntmps28
    go_wp2
    go_ret
    exact ⟨rfl, 0, _, by rw [alloc_eq_grow, alloc_eq_grow, grow_grow]; rfl⟩
  · subst h
    rw [if_neg (by omega), if_neg (by omega)]
    rcases Int.lt_trichotomy b d with h | h | h
    · have k : (b == d) = false := by simp; omega
      rw [if_pos h]
      go_enter Try.func28, Try.ntmps28
      go_wp2
      go_ret
      exact ⟨rfl, 0, _, by rw [alloc_eq_grow, alloc_eq_grow, grow_grow]; rfl⟩
    · subst h
      rw [if_neg (by omega), if_neg (by omega)]
      go_enter Try.func28, Try.ntmps28
      go_wp2
      go_ret
      exact ⟨rfl, 0, _, by rw [alloc_eq_grow, alloc_eq_grow, grow_grow]; rfl⟩
    · have k : (b == d) = false := by simp; omega
      rw [if_neg (by omega), if_pos h]
      go_enter Try.func28, Try.ntmps28
      go_wp2
      go_ret
      exact ⟨rfl, 0, _, by rw [alloc_eq_grow, alloc_eq_grow, grow_grow]; rfl⟩
  · have k : (a == c) = false := by simp; omega
    rw [if_neg (by omega), if_pos h]
    go_enter Try.func28, Try.ntmps28
    go_wp2
    go_ret
    exact ⟨rfl, 0, _, by rw [alloc_eq_grow, alloc_eq_grow, grow_grow]; rfl⟩

set_option maxHeartbeats 400000 in
theorem rcompare_any (a b c d : Int) (w : World) :
    Calls Try.prog 44 #[.agg #[.int .i64 a, .int .i64 b], .agg #[.int .i64 c, .int .i64 d]] w fun e w' => e = .returned (.int .i64 (cmpP a b c d)) ∧ Below w.heap.size w w' := by
  unfold cmpP
  rcases Int.lt_trichotomy a c with h | h | h
  · have k : (a == c) = false := by simp; omega
    rw [if_pos h]
    go_enter Try.func44, Try.ntmps44
    go_wp2
    go_ret
    refine ⟨rfl, ?_⟩; (repeat' (first | (with_reducible exact Below.refl _ _) | (with_reducible assumption) | (with_reducible refine Below.alloc ?_ ?_ _) | (with_reducible refine Below.drew ?_) | (with_reducible refine Below.setCell ?_ ?_ _) | (with_reducible refine Below.trans ?_ (Below.mono (by assumption) ?_)) | go_size))
  · subst h
    rw [if_neg (by omega), if_neg (by omega)]
    rcases Int.lt_trichotomy b d with h | h | h
    · have k : (b == d) = false := by simp; omega
      rw [if_pos h]
      go_enter Try.func44, Try.ntmps44
      go_wp2
      go_ret
      refine ⟨rfl, ?_⟩; (repeat' (first | (with_reducible exact Below.refl _ _) | (with_reducible assumption) | (with_reducible refine Below.alloc ?_ ?_ _) | (with_reducible refine Below.drew ?_) | (with_reducible refine Below.setCell ?_ ?_ _) | (with_reducible refine Below.trans ?_ (Below.mono (by assumption) ?_)) | go_size))
    · subst h
      rw [if_neg (by omega), if_neg (by omega)]
      go_enter Try.func44, Try.ntmps44
      go_wp2
      go_ret
      refine ⟨rfl, ?_⟩; (repeat' (first | (with_reducible exact Below.refl _ _) | (with_reducible assumption) | (with_reducible refine Below.alloc ?_ ?_ _) | (with_reducible refine Below.drew ?_) | (with_reducible refine Below.setCell ?_ ?_ _) | (with_reducible refine Below.trans ?_ (Below.mono (by assumption) ?_)) | go_size))
    · have k : (b == d) = false := by simp; omega
      rw [if_neg (by omega), if_pos h]
      go_enter Try.func44, Try.ntmps44
      go_wp2
      go_ret
      refine ⟨rfl, ?_⟩; (repeat' (first | (with_reducible exact Below.refl _ _) | (with_reducible assumption) | (with_reducible refine Below.alloc ?_ ?_ _) | (with_reducible refine Below.drew ?_) | (with_reducible refine Below.setCell ?_ ?_ _) | (with_reducible refine Below.trans ?_ (Below.mono (by assumption) ?_)) | go_size))
  · have k : (a == c) = false := by simp; omega
    rw [if_neg (by omega), if_pos h]
    go_enter Try.func44, Try.ntmps44
    go_wp2
    go_ret
    refine ⟨rfl, ?_⟩; (repeat' (first | (with_reducible exact Below.refl _ _) | (with_reducible assumption) | (with_reducible refine Below.alloc ?_ ?_ _) | (with_reducible refine Below.drew ?_) | (with_reducible refine Below.setCell ?_ ?_ _) | (with_reducible refine Below.trans ?_ (Below.mono (by assumption) ?_)) | go_size))

/-- The order of periods. -/
def lexL (p q : Int × Int) : Bool := decide (cmpP p.1 p.2 q.1 q.2 ≤ 0)
theorem lexL_iff {p q : Int × Int} : lexL p q = true ↔ p.1 < q.1 ∨ (p.1 = q.1 ∧ p.2 ≤ q.2) := by
  unfold lexL cmpP
  rw [decide_eq_true_eq]
  repeat' split
  all_goals omega
theorem lexL_false {p q : Int × Int} (h : lexL p q = false) : lexL q p = true := by
  rw [lexL_iff]
  have : ¬ (p.1 < q.1 ∨ (p.1 = q.1 ∧ p.2 ≤ q.2)) := fun h2 => by rw [lexL_iff.2 h2] at h; cases h
  omega
/-- A period put into its place. -/
def plc (p : Int × Int) : List (Int × Int) → List (Int × Int)
  | [] => [p]
  | q :: l => if lexL q p then q :: plc p l else p :: q :: l
theorem plc_perm (p : Int × Int) : ∀ l, (plc p l).Perm (p :: l)
  | [] => List.Perm.refl _
  | q :: l => by
    unfold plc
    split
    · exact ((plc_perm p l).cons q).trans (List.Perm.swap p q l)
    · exact List.Perm.refl _
def srtL (l : List (Int × Int)) : Prop := l.Pairwise (fun p q => lexL p q = true)
theorem plc_sorted (p : Int × Int) : ∀ {l}, srtL l → srtL (plc p l)
  | [], _ => List.pairwise_singleton _ _
  | q :: l, h => by
    obtain ⟨h1, h2⟩ := List.pairwise_cons.1 h
    unfold plc
    split
    · rename_i hq
      refine List.pairwise_cons.2 ⟨fun r hr => ?_, plc_sorted p h2⟩
      rcases List.mem_cons.1 ((plc_perm p l).mem_iff.1 hr) with rfl | hr
      · exact hq
      · exact h1 r hr
    · rename_i hq
      have hq2 := lexL_false (by simpa using hq)
      refine List.pairwise_cons.2 ⟨fun r hr => ?_, h⟩
      rcases List.mem_cons.1 hr with rfl | hr
      · exact hq2
      · have h3 := lexL_iff.1 (h1 r hr)
        have h4 := lexL_iff.1 hq2
        exact lexL_iff.2 (by omega)
def plcs (acc l : List (Int × Int)) : List (Int × Int) := l.foldl (fun a p => plc p a) acc
theorem plcs_facts : ∀ (l acc : List (Int × Int)), srtL acc → srtL (plcs acc l) ∧ (plcs acc l).Perm (acc ++ l)
  | [], acc, h => ⟨h, by simp [plcs]⟩
  | p :: l, acc, h => by
    obtain ⟨h1, h2⟩ := plcs_facts l (plc p acc) (plc_sorted p h)
    refine ⟨h1, h2.trans ?_⟩
    exact ((plc_perm p acc).append_right l).trans (by simpa using (List.perm_middle (a := p) (l₁ := acc) (l₂ := l)).symm)
theorem srtL_ext : ∀ {l m : List (Int × Int)}, srtL l → srtL m → l.Perm m → l = m
  | [], m, _, _, hp => (List.Perm.eq_nil hp.symm).symm
  | p :: l, [], _, _, hp => absurd hp.eq_nil (by simp)
  | p :: l, q :: m, h1, h2, hp => by
    obtain ⟨a1, a2⟩ := List.pairwise_cons.1 h1
    obtain ⟨b1, b2⟩ := List.pairwise_cons.1 h2
    have hpq : p = q := by
      have hp1 : p ∈ q :: m := hp.mem_iff.1 (by simp)
      have hq1 : q ∈ p :: l := hp.mem_iff.2 (by simp)
      rcases List.mem_cons.1 hp1 with rfl | hp1
      · rfl
      · rcases List.mem_cons.1 hq1 with rfl | hq1
        · rfl
        · have x := lexL_iff.1 (a1 q hq1)
          have y := lexL_iff.1 (b1 p hp1)
          exact Prod.ext (by omega) (by omega)
    subst hpq
    rw [srtL_ext a2 b2 (List.Perm.cons_inv hp)]

/-- The level of a value. -/
def cl (v : Int) : Nat := (min (max v 0) 1048576).toNat
/-- One step on the starts of the open levels and on the closed periods. -/
def lvStep (S : List Int × List (Int × Int)) (p : Int × Int) : List Int × List (Int × Int) :=
  if cl p.2 ≤ S.1.length then (S.1.take (cl p.2), S.2 ++ (S.1.drop (cl p.2)).map fun f => (f, p.1)) else (S.1 ++ List.replicate (cl p.2 - S.1.length) p.1, S.2)
def lvRun (l : List (Int × Int)) : List Int × List (Int × Int) := l.foldl lvStep ([], [])
def lvAll (l : List (Int × Int)) : List (Int × Int) := (lvRun l).2 ++ (lvRun l).1.map fun f => (f, 1099511627776)
/-- The periods of the levels, sorted. -/
def levL (l : List (Int × Int)) : List (Int × Int) := plcs [] (lvAll l)
theorem lvRun_step {l : List (Int × Int)} {k : Nat} {p : Int × Int} (h : l[k]? = some p) : lvRun (l.take (k + 1)) = lvStep (lvRun (l.take k)) p := by
  rw [take_snocP h]; unfold lvRun; rw [List.foldl_append]; rfl
def expS (O : List Pc) : List Int := O.flatMap fun c => List.replicate c.2.2.toNat c.1
def expC (C : List Pc) : List (Int × Int) := C.flatMap fun c => List.replicate c.2.2.toNat (c.1, c.2.1)
theorem expS_append (O P : List Pc) : expS (O ++ P) = expS O ++ expS P := by simp [expS]
theorem expC_append (O P : List Pc) : expC (O ++ P) = expC O ++ expC P := by simp [expC]
theorem expS_one (c : Pc) : expS [c] = List.replicate c.2.2.toNat c.1 := by simp [expS]
theorem expC_one (c : Pc) : expC [c] = List.replicate c.2.2.toNat (c.1, c.2.1) := by simp [expC]
def opOk (O : List Pc) : Prop := ∀ c ∈ O, 0 < c.2.2 ∧ c.2.1 = 1099511627776
theorem expC_open : ∀ {O : List Pc}, opOk O → expC O = (expS O).map fun f => (f, 1099511627776)
  | [], _ => rfl
  | c :: O, h => by
    have ih := expC_open (O := O) fun d hd => h d (List.mem_cons_of_mem _ hd)
    have hc := h c (by simp)
    show List.replicate c.2.2.toNat (c.1, c.2.1) ++ expC O = (List.replicate c.2.2.toNat c.1 ++ expS O).map _
    rw [ih, List.map_append, List.map_replicate, hc.2]
/-- One round of closing. -/
theorem lay_step {E : List Int} {out : List (Int × Int)} {O C : List Pc} {f x : Int} {N e L : Nat} (hO : expS O ++ List.replicate N f = E.take L) (hL : L ≤ E.length) (hC : (expC C).Perm (out ++ (E.drop L).map fun f => (f, x))) (heN : e ≤ N) :
    expS O ++ List.replicate (N - e) f = E.take (L - e) ∧ (expC C ++ List.replicate e (f, x)).Perm (out ++ (E.drop (L - e)).map fun f => (f, x)) := by
  have hlen := congrArg List.length hO
  rw [List.length_append, List.length_replicate, List.length_take] at hlen
  have e1 : E.take (L - e) = (E.take L).take (L - e) := by rw [List.take_take]; congr 1; omega
  have e2 : E.drop (L - e) = (E.take L).drop (L - e) ++ E.drop L := by
    conv => lhs; rw [← List.take_append_drop L E]
    rw [List.drop_append_of_le_length (by rw [List.length_take]; omega)]
  constructor
  · rw [e1, ← hO, List.take_append, List.take_of_length_le (by omega), List.take_replicate]
    congr 2
    omega
  · have e3 : (E.take L).drop (L - e) = List.replicate e f := by
      rw [← hO, List.drop_append, List.drop_of_length_le (by omega), List.drop_replicate, List.nil_append]
      congr 1
      omega
    rw [e2, e3, List.map_append, List.map_replicate]
    refine (hC.append_right _).trans ?_
    rw [List.append_assoc]
    exact (List.perm_append_comm).append_left out
end Go.Proofs.Ytbpjgipldddcfaa
