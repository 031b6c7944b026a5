import Derived.Test.YtbpjgipldddcfaaGAw
import Derived.WalkKit
import Derived.WalkSpells
import Derived.WalkLawsBesides
import Derived.Deep.QuietTactic
import Derived.BigQuiet
import Derived.Handy
import Derived.Lib.Hide
/-
  Mathematics of the statements: combinations and sums are valid and have the values that they should. Conditions: none.
-/
namespace Go.Proofs.Ytbpjgipldddcfaa
set_option maxRecDepth 100000
set_option linter.unusedVariables false
set_option linter.unusedSimpArgs false
open Go.RowKit

theorem ascP_of : ∀ (P : List Int) (x : Int), (∀ y ∈ P, x < y) → P.Pairwise (· < ·) → (∀ y ∈ P, y < 1099511627776) → ascP x P = true
  | [], _, _, _, _ => rfl
  | p :: P, x, h1, h2, h3 => by
    obtain ⟨a, b⟩ := List.pairwise_cons.1 h2
    exact ascP_cons.2 ⟨h1 p (by simp), h3 p (by simp), ascP_of P p a b fun y hy => h3 y (List.mem_cons_of_mem _ hy)⟩
theorem norm_form {P : List Int} (hs : P.Pairwise (· < ·)) (h0 : (0 : Int) ∈ P) (hr : ∀ x ∈ P, 0 ≤ x ∧ x < 1099511627776) : ∃ Q, P = 0 :: Q ∧ ascP 0 Q = true := by
  match P, hs, h0, hr with
  | p :: Q, hs, h0, hr =>
    obtain ⟨a, b⟩ := List.pairwise_cons.1 hs
    have hp : p = 0 := by
      rcases List.mem_cons.1 h0 with h | h
      · exact h.symm
      · have := a 0 h; have := hr p (by simp); omega
    subst hp
    exact ⟨Q, rfl, ascP_of Q 0 a b fun y hy => (hr y (List.mem_cons_of_mem _ hy)).2⟩
theorem norm_ok (f : Int → Int) {P : List Int} (hs : P.Pairwise (· < ·)) (h0 : (0 : Int) ∈ P) (hr : ∀ x ∈ P, 0 ≤ x ∧ x < 1099511627776) : stV (nrmV f P) = true := by
  obtain ⟨Q, rfl, hQ⟩ := norm_form hs h0 hr
  exact nrmV_ok f Q hQ
theorem norm_val (f : Int → Int) {P : List Int} (hs : P.Pairwise (· < ·)) (h0 : (0 : Int) ∈ P) (hr : ∀ x ∈ P, 0 ≤ x ∧ x < 1099511627776)
    (hc : ∀ s u, 0 ≤ s → s ≤ u → u < 1099511627776 → (∀ p ∈ P, ¬ (s < p ∧ p ≤ u)) → f s = f u) (t : Int) (ht : 0 ≤ t) (hF : t < 1099511627776) : valF 0 (nrmV f P) t = f t := by
  obtain ⟨Q, rfl, hQ⟩ := norm_form hs h0 hr
  rw [nrmV_val f Q t hQ ht]
  refine fAt_eq f Q 0 t hQ ht fun s u h1 h2 h3 h4 => hc s u h1 h2 (by omega) fun p hp => ?_
  rcases List.mem_cons.1 hp with rfl | hp
  · omega
  · exact h4 p hp
theorem stV_zero {l : List (Int × Int)} (h : stV l = true) : ∃ p ∈ l, p.1 = 0 := by
  cases l with
  | nil => cases h
  | cons q l =>
    obtain ⟨x, n⟩ := q
    have h2 : (decide (x = 0) && stT x n l) = true := h
    rw [Bool.and_eq_true] at h2
    exact ⟨(x, n), by simp, of_decide_eq_true h2.1⟩
theorem atV_const {l : List (Int × Int)} (s u : Int) (h0 : 0 ≤ s) (hsu : s ≤ u) (hu : u < 1099511627776) (h : ∀ p ∈ l, ¬ (s < p.1 ∧ p.1 ≤ u)) : atV l s = atV l u := by
  unfold atV
  rw [if_pos ⟨h0, by omega⟩, if_pos ⟨by omega, hu⟩]
  exact valF_const l 0 s u hsu h
theorem cmb_valid (kd : Int) {a b : List (Int × Int)} (ha : stV a = true) (hb : stV b = true) : stV (cmbL kd a b) = true :=
  norm_ok _ (ptsS_sorted a b) (by obtain ⟨p, hp, he⟩ := stV_zero ha; exact ptsS_mem.2 (.inl ⟨p, hp, he⟩)) (ptsS_range ha hb)
theorem opV_zero {kd : Int} (hk : kd = 1 ∨ kd = 2 ∨ kd = 3 ∨ kd = 4) : opV kd 0 0 = 0 := by rcases hk with rfl | rfl | rfl | rfl <;> rfl
theorem cmb_val {kd : Int} (hk : kd = 1 ∨ kd = 2 ∨ kd = 3 ∨ kd = 4) {a b : List (Int × Int)} (ha : stV a = true) (hb : stV b = true) (t : Int) : atV (cmbL kd a b) t = opV kd (atV a t) (atV b t) := by
  by_cases ht : 0 ≤ t ∧ t < 1099511627776
  · have := norm_val (fun t => opV kd (atV a t) (atV b t)) (ptsS_sorted a b) (by obtain ⟨p, hp, he⟩ := stV_zero ha; exact ptsS_mem.2 (.inl ⟨p, hp, he⟩)) (ptsS_range ha hb) (fun s u h0 hsu hu h => by
      rw [atV_const s u h0 hsu hu (l := a) fun p hp => h _ (ptsS_mem.2 (.inl ⟨p, hp, rfl⟩)), atV_const s u h0 hsu hu (l := b) fun p hp => h _ (ptsS_mem.2 (.inr ⟨p, hp, rfl⟩))]) t ht.1 ht.2
    rw [← this]
    unfold atV
    rw [if_pos ht]
    rfl
  · have e : ∀ l, atV l t = 0 := fun l => by unfold atV; rw [if_neg ht]
    rw [e, e, e, opV_zero hk]
theorem ofR_pts (l : List Pc) : ((ptsA [0] l).filter fun x => decide (x < 1099511627776)).Pairwise (· < ·) ∧ (∀ x, x ∈ ((ptsA [0] l).filter fun x => decide (x < 1099511627776)) ↔ x < 1099511627776 ∧ (x = 0 ∨ ∃ c ∈ l, okPc c = true ∧ (x = c.1 ∨ x = c.2.1))) := by
  obtain ⟨r1, r2⟩ := ptsA_facts l [0] (by simp)
  refine ⟨r1.sublist List.filter_sublist, fun x => ?_⟩
  rw [List.mem_filter, r2 x, decide_eq_true_eq, List.mem_singleton]
  exact and_comm
theorem ofR_range (l : List Pc) : ∀ x ∈ ((ptsA [0] l).filter fun x => decide (x < 1099511627776)), 0 ≤ x ∧ x < 1099511627776 := fun x hx => by
  obtain ⟨h1, h2⟩ := ((ofR_pts l).2 x).1 hx
  refine ⟨?_, h1⟩
  rcases h2 with rfl | ⟨c, _, ho, h⟩
  · omega
  · have hv := vld_iff.1 ho
    rcases h with rfl | rfl <;> omega
theorem of_valid (l : List Pc) : stV (ofR l) = true := norm_ok _ (ofR_pts l).1 (((ofR_pts l).2 0).2 ⟨by decide, .inl rfl⟩) (ofR_range l)
theorem of_val (l : List Pc) (t : Int) (h0 : 0 ≤ t) (hF : t < 1099511627776) : valF 0 (ofR l) t = refS l t :=
  norm_val (refS l) (ofR_pts l).1 (((ofR_pts l).2 0).2 ⟨by decide, .inl rfl⟩) (ofR_range l) (fun s u h1 h2 h3 h => by
    rw [refS_eq, refS_eq, sumT_const l s u h2 fun c hc ho => ⟨fun ⟨a, b⟩ => h c.1 (((ofR_pts l).2 _).2 ⟨by omega, .inr ⟨c, hc, ho, .inl rfl⟩⟩) ⟨a, b⟩, fun ⟨a, b⟩ => h c.2.1 (((ofR_pts l).2 _).2 ⟨by omega, .inr ⟨c, hc, ho, .inr rfl⟩⟩) ⟨a, b⟩⟩]) t h0 hF
theorem sumT_append (a b : List Pc) (t : Int) : sumT (a ++ b) t = sumT a t + sumT b t := by unfold sumT; rw [List.map_append, List.sum_append]
theorem sumT_perm {l m : List Pc} (h : l.Perm m) (t : Int) : sumT l t = sumT m t := by
  induction h with
  | nil => rfl
  | cons x _ ih => rw [sumT_cons, sumT_cons, ih]
  | swap x y l => simp only [sumT_cons]; omega
  | trans _ _ a b => exact a.trans b
theorem ofR_perm {l m : List Pc} (h : l.Perm m) : ofR l = ofR m :=
  stV_ext (of_valid l) (of_valid m) fun t h0 hF => by rw [of_val l t h0 hF, of_val m t h0 hF, refS_eq, refS_eq, sumT_perm h]
theorem ofR_add (a b : List Pc) : ofR (a ++ b) = cmbL 1 (ofR a) (ofR b) :=
  stV_ext (of_valid _) (cmb_valid 1 (of_valid a) (of_valid b)) fun t h0 hF => by
    have := cmb_val (kd := 1) (.inl rfl) (of_valid a) (of_valid b) t
    unfold atV at this
    rw [if_pos ⟨h0, hF⟩, if_pos ⟨h0, hF⟩, if_pos ⟨h0, hF⟩] at this
    rw [this, of_val _ t h0 hF, of_val a t h0 hF, of_val b t h0 hF, refS_eq, refS_eq, refS_eq, sumT_append]
    show _ = IntKind.i64.wrap (IntKind.i64.wrap (sumT a t) + IntKind.i64.wrap (sumT b t))
    rw [wr_add, wr_add2]
theorem ofR_len (l : List Pc) : (ofR l).length ≤ 2 * l.length + 1 := by
  have h1 := nrmV_len (refS l) ((ptsA [0] l).filter fun x => decide (x < 1099511627776))
  have h2 := List.length_filter_le (fun x => decide (x < 1099511627776)) (ptsA [0] l)
  have h3 := ptsA_len [0] l
  unfold ofR
  simp at h3
  omega
theorem cmb_len (kd : Int) (a b : List (Int × Int)) : (cmbL kd a b).length ≤ a.length + b.length := by
  have := nrmV_len (fun t => opV kd (atV a t) (atV b t)) (ptsS a b)
  have h3 := insAll_len (insAll [] a) b
  have h4 := insAll_len [] a
  unfold cmbL
  unfold ptsS at this ⊢
  simp at h4
  omega
/-- Whether a list is a valid step function of limited length. -/
def fineL (l : List (Int × Int)) : Bool := decide (l.length ≤ 24) && stV l
theorem fineL_iff {l : List (Int × Int)} : fineL l = true ↔ l.length ≤ 24 ∧ stV l = true := by unfold fineL; rw [Bool.and_eq_true, decide_eq_true_eq]
set_option maxHeartbeats 800000 in
theorem fine_any (v : Value) (l : List (Int × Int)) (w : World) (L : Nat) (hv : RdP w L w.heap.size v l) :
    Calls Try.prog 5 #[v] w fun e w' => e = .returned (.bool (fineL l)) ∧ Below w.heap.size w w' := by
  have hx := rStValid_any v l w L hv
  obtain ⟨A, c, rfl, _, _⟩ := hv
  unfold fineL
  by_cases h : l.length ≤ 24
  · have hi : (l.length : Int) ≤ 24 := by omega
    rw [decide_eq_true h, Bool.true_and]
    generalize stV l = r at *
    go_enter Try.func5, Try.ntmps5
    go_wp2_with fail
    refine hx.mono ?_
    rintro e w1 ⟨rfl, hb1⟩
    go_wp2
    go_ret
    exact ⟨rfl, hb1⟩
  · have hi : ¬ (l.length : Int) ≤ 24 := by omega
    rw [decide_eq_false h, Bool.false_and]
    clear hx
    go_enter Try.func5, Try.ntmps5
    go_wp2
    go_ret
    exact ⟨rfl, Below.refl _ _⟩
end Go.Proofs.Ytbpjgipldddcfaa
