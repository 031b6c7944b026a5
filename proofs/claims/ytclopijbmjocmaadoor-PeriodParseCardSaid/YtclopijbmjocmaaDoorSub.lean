/-
  Contracts of Subtract on periods, of the program and of the statements' own package: the slice that is returned holds the pieces that the definition gives. Conditions: none.
-/
import Derived.Test.YtclopijbmjocmaaDoorSl
import Derived.WalkKit
import Derived.WalkSpells
import Derived.WalkLawsBesides
import Derived.Deep.QuietTactic
import Derived.BigQuiet
import Derived.Handy
import Derived.Lib.Hide
namespace Go.Proofs.YtclopijbmjocmaaDoor
open Go.RowKit

def subP (a b c d : Int) : List (Int × Int) :=
  if vld a b = false then [] else if ovl a b c d = false then [(a, b)] else (if a < c then [(a, c)] else []) ++ (if d < b then [(d, b)] else [])

/-- A call that returns a slice that holds l, and writes nothing old. -/
def RetSl (w : World) (l : List (Int × Int)) (e : Ending) (w' : World) : Prop := ∃ v, e = .returned v ∧ PerSl w' w'.heap.size v l ∧ Below w.heap.size w w'

theorem infoPer : (Tryd.prog.info? 23).map (fun i => (i.zero, i.size, i.bytes)) = some (some (.agg #[.int .i64 0, .int .i64 0]), 2, 16) := by kernel_rfl

theorem append_per {ops : Array Oper} {rest : List Oper} {o : Oper} {a : Act} {Q : Exit → Act → World → Prop} (W : World) (hgd : o.guard = none) (s x : Operand)
    (ho : o.op = .call { callee := .builtin .append, args := #[s, x], argTypes := #[32, 32] }) (base : Nat) (v : Value) (l : List (Int × Int)) (hs : a.eval s = v)
    (hown : W.ownsRow base 23 2 v l.length (flatP l)) (ad : Addr) (c d : Int) (hx : a.eval x = .slice (some ad) 1 1)
    (hnew : ∀ j u, [Value.int .i64 c, Value.int .i64 d][j]? = some u → W.cell? (ad.add j) = some u) (hl : l.length ≤ 1000) (hbase : base ≤ W.heap.size)
    (h : ∀ v' w', w'.ownsRow base 23 2 v' (l ++ [(c, d)]).length (flatP (l ++ [(c, d)])) → Below base W w' → wpList Tryd.prog ops Q rest (a.put o.dst v') w') :
    wpList Tryd.prog ops Q (o :: rest) a W := by
  obtain ⟨i0, hi, hz0, hz1, hz2⟩ := info_parts infoPer
  refine wpList_append_own _ hgd s x 32 ho base 23 i0 (.agg #[.int .i64 0, .int .i64 0]) 2 16 Tryd.underlying32 hi hz0 hz1 hz2 rfl (by decide) v l.length (flatP l) hs hown ad 1 1 [.int .i64 c, .int .i64 d] hx rfl
    hnew (fun u hu => by simp at hu; rcases hu with rfl | rfl <;> rfl) (by unfold maxLen; omega) (by omega) hbase ?_
  intro v' w' h1 h2 _
  refine h v' w' (by rw [flatP_snoc, List.length_append]; exact h1) ((Below.refl _ _).grown h2 hbase fun k hk => (hown.lt k hk).1)

theorem own_nil (W : World) (base : Nat) : W.ownsRow base 23 2 (.slice none 0 0) ([] : List (Int × Int)).length (flatP []) := World.ownsRow_nil W base _ 2

theorem PerSl.one (W : World) (a b : Int) : PerSl (W.alloc (.cells #[.int .i64 a, .int .i64 b] 23)) (W.heap.size + 1) (.slice (some ⟨W.heap.size, 0, none⟩) 1 1) [(a, b)] := by
  refine .inr ⟨W.heap.size, 1, rfl, by omega, by simp, fun k p hk => ?_⟩
  match k, hk with
  | 0, hk => simp at hk; subst hk; simp
  | k + 1, hk => simp at hk

theorem one_case (W : World) (a b : Int) : PerSl (W.alloc (.cells #[.int .i64 a, .int .i64 b] 23)) (W.alloc (.cells #[.int .i64 a, .int .i64 b] 23)).heap.size (.slice (some ⟨W.heap.size, 0, none⟩) 1 1) [(a, b)] :=
  (PerSl.one W a b).more (by simp)

theorem ovl_parts {a b c d : Int} (h : ovl a b c d = true) : vld a b = true ∧ vld c d = true ∧ a < d ∧ c < b := by
  simpa [ovl, and_assoc] using h
theorem vld_mk {a b : Int} (h0 : 0 ≤ a) (h1 : a < b) (h2 : b ≤ 1099511627776) : vld a b = true := by simp [vld, h0, h1, h2]
theorem vld_le {a b : Int} (h : vld a b = true) : 0 ≤ a ∧ a < b ∧ b ≤ 1099511627776 := by simpa [vld, and_assoc] using h
theorem vld_irr (a : Int) : vld a a = false := by simp [vld]

set_option maxHeartbeats 800000 in
theorem rsub_any (a b c d : Int) (w : World) :
    Calls Tryd.prog 26 #[.agg #[.int .i64 a, .int .i64 b], .agg #[.int .i64 c, .int .i64 d]] w (RetSl w (subP a b c d)) := by
  unfold subP
  cases h1 : vld a b
  · rw [if_pos rfl]
    go_enter Tryd.func26, Tryd.ntmps26
    go_wp2_with (first | (go_at_call 10; refine (rvalid_any _ _ _).mono ?_; rintro e w1 ⟨rfl, hb⟩; obtain ⟨hc, hf⟩ := bcell hb; have hz := hb.size; (try simp only [World.size_alloc] at hz); have hz0 : w.heap.size < w1.heap.size := (by omega); have hz1 : w.heap.size + 1 < w1.heap.size := (by omega)) | (go_at_call 16; refine (roverlaps_any _ _ _ _ _).mono ?_; rintro e w1 ⟨rfl, hb⟩; obtain ⟨hc, hf⟩ := bcell hb; have hz := hb.size; (try simp only [World.size_alloc] at hz); have hz0 : w.heap.size < w1.heap.size := (by omega); have hz1 : w.heap.size + 1 < w1.heap.size := (by omega)))
    go_ret
    refine ⟨_, rfl, .inl ⟨rfl, _, _, rfl⟩, ?_⟩
    (repeat' (first | (with_reducible exact Below.refl _ _) | (with_reducible assumption) | (with_reducible refine Below.alloc ?_ ?_ _) | (with_reducible refine Below.drew ?_) | (with_reducible refine Below.setCell ?_ ?_ _) | (with_reducible refine Below.trans ?_ (Below.mono (by assumption) ?_)) | go_size))
  · rw [if_neg (by decide)]
    cases h2 : ovl a b c d
    · rw [if_pos rfl]
      go_enter Tryd.func26, Tryd.ntmps26
      go_wp2_with (first | (go_at_call 10; refine (rvalid_any _ _ _).mono ?_; rintro e w1 ⟨rfl, hb⟩; obtain ⟨hc, hf⟩ := bcell hb; have hz := hb.size; (try simp only [World.size_alloc] at hz); have hz0 : w.heap.size < w1.heap.size := (by omega); have hz1 : w.heap.size + 1 < w1.heap.size := (by omega)) | (go_at_call 16; refine (roverlaps_any _ _ _ _ _).mono ?_; rintro e w1 ⟨rfl, hb⟩; obtain ⟨hc, hf⟩ := bcell hb; have hz := hb.size; (try simp only [World.size_alloc] at hz); have hz0 : w.heap.size < w1.heap.size := (by omega); have hz1 : w.heap.size + 1 < w1.heap.size := (by omega)))
      go_ret
      refine ⟨_, rfl, one_case _ _ _, ?_⟩
      (repeat' (first | (with_reducible exact Below.refl _ _) | (with_reducible assumption) | (with_reducible refine Below.alloc ?_ ?_ _) | (with_reducible refine Below.drew ?_) | (with_reducible refine Below.setCell ?_ ?_ _) | (with_reducible refine Below.trans ?_ (Below.mono (by assumption) ?_)) | go_size))
    · rw [if_neg (by decide)]
      by_cases h3 : a < c <;> by_cases h4 : d < b
      · rw [if_pos h3, if_pos h4]
        go_enter Tryd.func26, Tryd.ntmps26
        go_wp2_with (first | (go_at_call 10; refine (rvalid_any _ _ _).mono ?_; rintro e w1 ⟨rfl, hb⟩; obtain ⟨hc, hf⟩ := bcell hb; have hz := hb.size; (try simp only [World.size_alloc] at hz); have hz0 : w.heap.size < w1.heap.size := (by omega); have hz1 : w.heap.size + 1 < w1.heap.size := (by omega)) | (go_at_call 16; refine (roverlaps_any _ _ _ _ _).mono ?_; rintro e w1 ⟨rfl, hb⟩; obtain ⟨hc, hf⟩ := bcell hb; have hz := hb.size; (try simp only [World.size_alloc] at hz); have hz0 : w.heap.size < w1.heap.size := (by omega); have hz1 : w.heap.size + 1 < w1.heap.size := (by omega)) | (at_builtin; refine append_per _ rfl _ _ rfl (w.heap.size + 2) _ [] rfl (World.ownsRow.alloc (own_nil _ _) _) ⟨w1.heap.size, 0, none⟩ a c rfl (cell_two_new _ _ _ _) ?_ ?_ ?_; (focus (first | omega | (simp; done) | (simp; omega))); (focus go_size); intro v1 w1 hown hb; obtain ⟨hc, hf⟩ := bcellB hb; have hz := hb.size; (try simp only [World.size_alloc] at hz); have hz0 : w.heap.size < w1.heap.size := (by omega); have hz1 : w.heap.size + 1 < w1.heap.size := (by omega)) | (at_builtin; refine append_per _ rfl _ _ rfl (w.heap.size + 2) _ _ rfl (World.ownsRow.alloc (hown) _) ⟨w1.heap.size, 0, none⟩ d b rfl (cell_two_new _ _ _ _) ?_ ?_ ?_; (focus (first | omega | (simp; done) | (simp; omega))); (focus go_size); intro v1 w1 hown hb; obtain ⟨hc, hf⟩ := bcellB hb; have hz := hb.size; (try simp only [World.size_alloc] at hz); have hz0 : w.heap.size < w1.heap.size := (by omega); have hz1 : w.heap.size + 1 < w1.heap.size := (by omega)))
        go_ret
        refine ⟨_, rfl, PerSl.of_own hown (by simp), ?_⟩
        (repeat' (first | (with_reducible exact Below.refl _ _) | (with_reducible assumption) | (with_reducible refine Below.alloc ?_ ?_ _) | (with_reducible refine Below.drew ?_) | (with_reducible refine Below.setCell ?_ ?_ _) | (with_reducible refine Below.trans ?_ (Below.mono (by assumption) ?_)) | go_size))
      · rw [if_pos h3, if_neg h4]
        go_enter Tryd.func26, Tryd.ntmps26
        go_wp2_with (first | (go_at_call 10; refine (rvalid_any _ _ _).mono ?_; rintro e w1 ⟨rfl, hb⟩; obtain ⟨hc, hf⟩ := bcell hb; have hz := hb.size; (try simp only [World.size_alloc] at hz); have hz0 : w.heap.size < w1.heap.size := (by omega); have hz1 : w.heap.size + 1 < w1.heap.size := (by omega)) | (go_at_call 16; refine (roverlaps_any _ _ _ _ _).mono ?_; rintro e w1 ⟨rfl, hb⟩; obtain ⟨hc, hf⟩ := bcell hb; have hz := hb.size; (try simp only [World.size_alloc] at hz); have hz0 : w.heap.size < w1.heap.size := (by omega); have hz1 : w.heap.size + 1 < w1.heap.size := (by omega)) | (at_builtin; refine append_per _ rfl _ _ rfl (w.heap.size + 2) _ [] rfl (World.ownsRow.alloc (own_nil _ _) _) ⟨w1.heap.size, 0, none⟩ a c rfl (cell_two_new _ _ _ _) ?_ ?_ ?_; (focus (first | omega | (simp; done) | (simp; omega))); (focus go_size); intro v1 w1 hown hb; obtain ⟨hc, hf⟩ := bcellB hb; have hz := hb.size; (try simp only [World.size_alloc] at hz); have hz0 : w.heap.size < w1.heap.size := (by omega); have hz1 : w.heap.size + 1 < w1.heap.size := (by omega)))
        go_ret
        refine ⟨_, rfl, PerSl.of_own hown (by simp), ?_⟩
        (repeat' (first | (with_reducible exact Below.refl _ _) | (with_reducible assumption) | (with_reducible refine Below.alloc ?_ ?_ _) | (with_reducible refine Below.drew ?_) | (with_reducible refine Below.setCell ?_ ?_ _) | (with_reducible refine Below.trans ?_ (Below.mono (by assumption) ?_)) | go_size))
      · rw [if_neg h3, if_pos h4]
        go_enter Tryd.func26, Tryd.ntmps26
        go_wp2_with (first | (go_at_call 10; refine (rvalid_any _ _ _).mono ?_; rintro e w1 ⟨rfl, hb⟩; obtain ⟨hc, hf⟩ := bcell hb; have hz := hb.size; (try simp only [World.size_alloc] at hz); have hz0 : w.heap.size < w1.heap.size := (by omega); have hz1 : w.heap.size + 1 < w1.heap.size := (by omega)) | (go_at_call 16; refine (roverlaps_any _ _ _ _ _).mono ?_; rintro e w1 ⟨rfl, hb⟩; obtain ⟨hc, hf⟩ := bcell hb; have hz := hb.size; (try simp only [World.size_alloc] at hz); have hz0 : w.heap.size < w1.heap.size := (by omega); have hz1 : w.heap.size + 1 < w1.heap.size := (by omega)) | (at_builtin; refine append_per _ rfl _ _ rfl (w.heap.size + 2) _ [] rfl (World.ownsRow.alloc (own_nil _ _) _) ⟨w1.heap.size, 0, none⟩ d b rfl (cell_two_new _ _ _ _) ?_ ?_ ?_; (focus (first | omega | (simp; done) | (simp; omega))); (focus go_size); intro v1 w1 hown hb; obtain ⟨hc, hf⟩ := bcellB hb; have hz := hb.size; (try simp only [World.size_alloc] at hz); have hz0 : w.heap.size < w1.heap.size := (by omega); have hz1 : w.heap.size + 1 < w1.heap.size := (by omega)))
        go_ret
        refine ⟨_, rfl, PerSl.of_own hown (by simp), ?_⟩
        (repeat' (first | (with_reducible exact Below.refl _ _) | (with_reducible assumption) | (with_reducible refine Below.alloc ?_ ?_ _) | (with_reducible refine Below.drew ?_) | (with_reducible refine Below.setCell ?_ ?_ _) | (with_reducible refine Below.trans ?_ (Below.mono (by assumption) ?_)) | go_size))
      · rw [if_neg h3, if_neg h4]
        go_enter Tryd.func26, Tryd.ntmps26
        go_wp2_with (first | (go_at_call 10; refine (rvalid_any _ _ _).mono ?_; rintro e w1 ⟨rfl, hb⟩; obtain ⟨hc, hf⟩ := bcell hb; have hz := hb.size; (try simp only [World.size_alloc] at hz); have hz0 : w.heap.size < w1.heap.size := (by omega); have hz1 : w.heap.size + 1 < w1.heap.size := (by omega)) | (go_at_call 16; refine (roverlaps_any _ _ _ _ _).mono ?_; rintro e w1 ⟨rfl, hb⟩; obtain ⟨hc, hf⟩ := bcell hb; have hz := hb.size; (try simp only [World.size_alloc] at hz); have hz0 : w.heap.size < w1.heap.size := (by omega); have hz1 : w.heap.size + 1 < w1.heap.size := (by omega)))
        go_ret
        refine ⟨_, rfl, .inl ⟨rfl, _, _, rfl⟩, ?_⟩
        (repeat' (first | (with_reducible exact Below.refl _ _) | (with_reducible assumption) | (with_reducible refine Below.alloc ?_ ?_ _) | (with_reducible refine Below.drew ?_) | (with_reducible refine Below.setCell ?_ ?_ _) | (with_reducible refine Below.trans ?_ (Below.mono (by assumption) ?_)) | go_size))
end Go.Proofs.YtclopijbmjocmaaDoor
