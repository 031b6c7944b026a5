/-
  Slices of periods that calls of this program have made: what they hold, and the contract of Same (two such slices are compared element by element). Conditions: the lengths are below 2^40.
-/
import Derived.Test.YtclopijbmjocmaaDoorPer2
import Derived.WalkSmall
import Derived.WalkKit
import Derived.WalkSpells
import Derived.WalkLawsBesides
import Derived.Deep.QuietTactic
import Derived.BigQuiet
import Derived.Handy
import Derived.Lib.Hide
namespace Go.Proofs.YtclopijbmjocmaaDoor
open Go.RowKit

/-- The slice v (made by a call: at the head of its block, or empty) holds the periods l; it lies below block B. -/
def PerSl (w : World) (B : Nat) (v : Value) (l : List (Int × Int)) : Prop :=
  (l = [] ∧ ∃ A c, v = .slice A 0 c) ∨
  ∃ g c, v = .slice (some ⟨g, 0, none⟩) l.length c ∧ g < B ∧ l.length ≤ 1099511627776 ∧ ∀ (k : Nat) (p : Int × Int), l[k]? = some p → w.cell? ⟨g, k * 2, none⟩ = some (.int .i64 p.1) ∧ w.cell? ⟨g, k * 2 + 1, none⟩ = some (.int .i64 p.2)

theorem PerSl.below {w w' : World} {B : Nat} {v : Value} {l : List (Int × Int)} (h : PerSl w B v l) (hb : Below B w w') : PerSl w' B v l := by
  rcases h with h | ⟨g, c, hv, hg, hl, hc⟩
  · exact .inl h
  · exact .inr ⟨g, c, hv, hg, hl, fun k p hk => ⟨(hb.cell (p := ⟨g, k * 2, none⟩) hg).trans (hc k p hk).1, (hb.cell (p := ⟨g, k * 2 + 1, none⟩) hg).trans (hc k p hk).2⟩⟩
theorem PerSl.more {w : World} {B B' : Nat} {v : Value} {l : List (Int × Int)} (h : PerSl w B v l) (hB : B ≤ B') : PerSl w B' v l := by
  rcases h with h | ⟨g, c, hv, hg, hl, hc⟩
  · exact .inl h
  · exact .inr ⟨g, c, hv, by omega, hl, hc⟩

def flatP (l : List (Int × Int)) : List Value := l.flatMap fun p => [.int .i64 p.1, .int .i64 p.2]
theorem flatP_get : ∀ (l : List (Int × Int)) (k : Nat) (p : Int × Int), l[k]? = some p → (flatP l)[k * 2]? = some (.int .i64 p.1) ∧ (flatP l)[k * 2 + 1]? = some (.int .i64 p.2)
  | [], k, p, h => by simp at h
  | q :: l, 0, p, h => by simp at h; subst h; simp [flatP]
  | q :: l, k + 1, p, h => by
    have := flatP_get l k p (by simpa using h)
    rw [show (k + 1) * 2 = k * 2 + 1 + 1 by omega, show k * 2 + 1 + 1 + 1 = (k * 2 + 1) + 1 + 1 by omega]
    simpa [flatP] using this
theorem flatP_length : ∀ (l : List (Int × Int)), (flatP l).length = l.length * 2
  | [] => rfl
  | q :: l => by have := flatP_length l; simp only [flatP, List.flatMap_cons, List.length_append, List.length_cons, List.length_nil] at this ⊢; omega
theorem flatP_snoc (l : List (Int × Int)) (p : Int × Int) : flatP (l ++ [p]) = flatP l ++ [.int .i64 p.1, .int .i64 p.2] := by simp [flatP]

theorem PerSl.of_own {w : World} {base : Nat} {v : Value} {l : List (Int × Int)} (h : w.ownsRow base 23 2 v l.length (flatP l)) (hl : l.length ≤ 1099511627776) : PerSl w w.heap.size v l := by
  rcases h.2 with ⟨rfl, h0⟩ | ⟨g, cap, cur, rfl, hb, hh, hn, hc, hs, ht⟩
  · exact .inl ⟨List.eq_nil_of_length_eq_zero h0, none, 0, rfl⟩
  · have hg : g < w.heap.size := by
      rcases Nat.lt_or_ge g w.heap.size with h1 | h1
      · exact h1
      · rw [Array.getElem?_eq_none h1] at hh; cases hh
    refine .inr ⟨g, cap, rfl, hg, hl, fun k p hk => ?_⟩
    have hkl : k < l.length := (List.getElem?_eq_some_iff.1 hk).1
    have get : ∀ j u, (flatP l)[j]? = some u → w.cell? ⟨g, j, none⟩ = some u := fun j u hj => by
      have e : w.cell? ⟨g, j, none⟩ = cur[j]? := cell_of_row w g j cur _ _ hh
      rw [e, ← hj, ← ht, ← Array.getElem?_toList, List.getElem?_take]
      have : j < (flatP l).length := (List.getElem?_eq_some_iff.1 hj).1
      rw [flatP_length] at this
      rw [if_pos this]
    exact ⟨get _ _ (flatP_get l k p hk).1, get _ _ (flatP_get l k p hk).2⟩

theorem differ {l m : List (Int × Int)} {k : Nat} {p1 p2 q1 q2 : Int} (h : l[k]? = some (p1, p2)) (h' : m[k]? = some (q1, q2)) (hd : ((p1 == q1) && (p2 == q2)) = false) : ¬ l = m := by
  intro e; subst e
  rw [h] at h'; cases h'
  simp at hd
theorem agree {l m : List (Int × Int)} {k : Nat} {p1 p2 q1 q2 : Int} (h : l[k]? = some (p1, p2)) (h' : m[k]? = some (q1, q2)) (hd : ((p1 == q1) && (p2 == q2)) = true) (ht : l.take k = m.take k) : l.take (k + 1) = m.take (k + 1) := by
  simp only [Bool.and_eq_true, beq_iff_eq] at hd
  obtain ⟨rfl, rfl⟩ := hd
  rw [List.take_add_one, List.take_add_one, ht, h, h']

theorem PerSl.form {w : World} {B : Nat} {v : Value} {l : List (Int × Int)} (h : PerSl w B v l) : ∃ A c, v = .slice A l.length c ∧ l.length ≤ 1099511627776 := by
  rcases h with ⟨rfl, A, c, rfl⟩ | ⟨g, c, rfl, hg, hl, hc⟩
  · exact ⟨A, c, rfl, by simp⟩
  · exact ⟨_, c, rfl, hl⟩

set_option maxHeartbeats 800000 in
theorem same_len (u v : Value) (l m : List (Int × Int)) (w : World) (hu : PerSl w w.heap.size u l) (hv : PerSl w w.heap.size v m) (hne : (l.length == m.length) = false) :
    Calls Tryd.prog 24 #[u, v] w fun e w' => e = .returned (.bool false) ∧ ∃ n, w' = w.drewN n := by
  obtain ⟨A, c, rfl, hl⟩ := hu.form
  obtain ⟨A', c', rfl, hl'⟩ := hv.form
  have hne' : ((l.length : Int) == (m.length : Int)) = false := by simp at hne ⊢; omega
  have hne2 : ((l.length : Int) != (m.length : Int)) = true := by simp at hne ⊢; omega
  clear hu hv
  go_enter Tryd.func24, Tryd.ntmps24
  go_wp2
  go_ret
  exact ⟨rfl, 0, rfl⟩

set_option maxHeartbeats 800000 in
theorem same_main (l m : List (Int × Int)) (w : World) (g g' c c' : Nat) (hl : l.length ≤ 1099511627776) (he : l.length = m.length)
    (hc : ∀ (k : Nat) (p : Int × Int), l[k]? = some p → w.cell? ⟨g, k * 2, none⟩ = some (.int .i64 p.1) ∧ w.cell? ⟨g, k * 2 + 1, none⟩ = some (.int .i64 p.2))
    (hc' : ∀ (k : Nat) (p : Int × Int), m[k]? = some p → w.cell? ⟨g', k * 2, none⟩ = some (.int .i64 p.1) ∧ w.cell? ⟨g', k * 2 + 1, none⟩ = some (.int .i64 p.2)) :
    Calls Tryd.prog 24 #[.slice (some ⟨g, 0, none⟩) l.length c, .slice (some ⟨g', 0, none⟩) m.length c'] w fun e w' => e = .returned (.bool (decide (l = m))) ∧ ∃ n, w' = w.drewN n := by
  rw [← he]
  have H1 := Lib.hid hc
  have H2 := Lib.hid hc'
  have H3 := Lib.hid he
  clear hc hc' he
  generalize hn : l.length = n at *
  have H4 := Lib.hid hn
  clear hn
  go_enter Tryd.func24, Tryd.ntmps24
  go_wp2
  go_loopw [5] (fun i wr => ∃ k nq : Nat, k ≤ n ∧ i = .int .i64 k ∧ wr = w.drewN nq ∧ Hid (l.take k = m.take k)) (fun i _ => n - (intOf i).toNat)
  case atStart => exact ⟨0, 0, Nat.zero_le _, rfl, rfl, Lib.hid rfl⟩
  case round =>
    obtain ⟨k, nq, hk, rfl, rfl, ht⟩ := hrel
    by_cases hlt : k < n
    · obtain ⟨p, hp⟩ : ∃ p, l[k]? = some p := ⟨l[k]'(by have := H4.out; omega), List.getElem?_eq_getElem _⟩
      obtain ⟨q, hq⟩ : ∃ q, m[k]? = some q := ⟨m[k]'(by have := H4.out; have := H3.out; omega), List.getElem?_eq_getElem _⟩
      obtain ⟨a1, a2⟩ := H1.out k p hp
      obtain ⟨b1, b2⟩ := H2.out k q hq
      have HP := Lib.hid hp
      have HQ := Lib.hid hq
      clear hp hq
      obtain ⟨p1, p2⟩ := p
      obtain ⟨q1, q2⟩ := q
      simp only at a1 a2 b1 b2
      cases hd : ((p1 == q1) && (p2 == q2))
      · have HD := Lib.hid (differ HP.out HQ.out hd)
        cases hx : (p1 == q1) <;> cases hy : (p2 == q2)
        all_goals first | (exact absurd hd (by rw [hx, hy]; decide)) | clear hd
        all_goals
          go_wp2
          go_quiet (fail)
          go_wp2
          go_ret
          exact ⟨by rw [decide_eq_false HD.out]; rfl, ⟨_, by rw [World.drewN_drewN]⟩⟩
      · obtain ⟨hx, hy⟩ := Bool.and_eq_true_iff.1 hd
        have HD := Lib.hid (agree HP.out HQ.out hd ht.out)
        clear hd
        go_wp2
        go_quiet (fail)
        go_wp2
        go_roundw
        case rel => exact ⟨k + 1, _, by omega, by go_num, rfl, HD⟩
        case measure => simp [intOf]; omega
    · have HD : l = m := by
        have h3 := H3.out; have h4 := H4.out; have h := ht.out
        rwa [List.take_of_length_le (by omega), List.take_of_length_le (by omega)] at h
      have HE := Lib.hid HD
      clear HD
      go_wp2
      go_ret
      exact ⟨by rw [decide_eq_true HE.out]; rfl, ⟨_, rfl⟩⟩

set_option maxHeartbeats 800000 in
theorem same_any (u v : Value) (l m : List (Int × Int)) (w : World) (hu : PerSl w w.heap.size u l) (hv : PerSl w w.heap.size v m) :
    Calls Tryd.prog 24 #[u, v] w fun e w' => e = .returned (.bool (decide (l = m))) ∧ ∃ n, w' = w.drewN n := by
  cases hne : (l.length == m.length)
  · have : ¬ l = m := by intro e; subst e; simp at hne
    rw [decide_eq_false this]
    exact same_len u v l m w hu hv hne
  · have he : l.length = m.length := by simpa using hne
    rcases hu with ⟨rfl, A, c, rfl⟩ | ⟨g, c, rfl, hg, hl, hc⟩
    · obtain rfl : m = [] := List.eq_nil_of_length_eq_zero (by rw [← he]; rfl)
      obtain ⟨A', c', rfl, _⟩ := hv.form
      clear hv hne he
      go_enter Tryd.func24, Tryd.ntmps24
      go_wp2
      go_rounds 1
      go_ret
      exact ⟨rfl, 0, rfl⟩
    · rcases hv with ⟨rfl, A', c', rfl⟩ | ⟨g', c', rfl, hg', hl', hc'⟩
      · obtain rfl : l = [] := List.eq_nil_of_length_eq_zero (by rw [he]; rfl)
        clear hne he hc
        go_enter Tryd.func24, Tryd.ntmps24
        go_wp2
        go_rounds 1
        go_ret
        exact ⟨rfl, 0, rfl⟩
      · exact same_main l m w g g' c c' hl he hc hc'
end Go.Proofs.YtclopijbmjocmaaDoor
