import Derived.Test.YtbpjgipldddcfaaGM
import Derived.Test.YtbpjgipldddcfaaGA
import Derived.Test.YtbpjgipldddcfaaGP
import Derived.Test.YtbpjgipldddcfaaGQ
import Derived.Laws.OwnMore
import Derived.IntWalk
import Derived.Deep.AppendLies
import Derived.WalkKit
import Derived.WalkSpells
import Derived.WalkLawsBesides
import Derived.Deep.QuietTactic
import Derived.BigQuiet
import Derived.Handy
import Derived.Lib.Hide
/-
  Contract of joined: ascending periods that do not overlap become a span. Conditions: at most a million periods.
-/
namespace Go.Proofs.Ytbpjgipldddcfaa
set_option maxRecDepth 100000
set_option linter.unusedVariables false
set_option linter.unusedSimpArgs false
open Go.RowKit

theorem jn_step {l : List (Int × Int)} {k : Nat} {p : Int × Int} (hk : l[k]? = some p) : jn (l.take (k + 1)) = jstep (jn (l.take k)) p := by
  obtain ⟨hlt, rfl⟩ := List.getElem?_eq_some_iff.1 hk
  unfold jn
  rw [List.take_succ_eq_append_getElem hlt, List.foldl_append]; rfl
theorem jstep_nil (p : Int × Int) : jstep [] p = [] ++ [p] := rfl
theorem jstep_adj {m : List (Int × Int)} {x y a b : Int} (h : adj x y a b = true) : jstep (m ++ [(x, y)]) (a, b) = m ++ [(x, b)] := by
  unfold jstep
  rw [show (m ++ [(x, y)]).getLast? = some (x, y) by simp]
  simp only [List.dropLast_concat]
  rw [if_pos h]
theorem jstep_far {m : List (Int × Int)} {x y a b : Int} (h : adj x y a b = false) : jstep (m ++ [(x, y)]) (a, b) = m ++ [(x, y)] ++ [(a, b)] := by
  unfold jstep
  rw [show (m ++ [(x, y)]).getLast? = some (x, y) by simp]
  simp only [List.dropLast_concat]
  rw [if_neg (by rw [h]; decide)]
theorem flatP_set (m : List (Int × Int)) (x y b : Int) : (flatP (m ++ [(x, y)])).set (m.length * 2 + 1) (.int .i64 b) = flatP (m ++ [(x, b)]) := by
  rw [flatP_append, flatP_append, List.set_append, if_neg (by rw [flatP_length]; omega), flatP_length, show m.length * 2 + 1 - m.length * 2 = 1 by omega]
  rfl
theorem jn_len (l : List (Int × Int)) : (jn l).length ≤ l.length := by have := jn_len_aux l []; unfold jn; simpa using this

set_option maxRecDepth 100000 in
set_option maxHeartbeats 3200000 in
theorem joined_any (v : Value) (l : List (Int × Int)) (w : World) (L : Nat) (hv : RdP w L w.heap.size v l) (hlen : l.length ≤ 1000000) :
    Calls Try.prog 39 #[v] w (RetPers w (jn l)) := by
  have hv0 := hv
  obtain ⟨A, c, rfl, hl63, _⟩ := hv
  go_enter Try.func39, Try.ntmps39
  go_wp2
  go_loopw [3, 9] (fun o i wr => ∃ k : Nat, k ≤ l.length ∧ i = .int .i64 k ∧ wr.ownsRow w.heap.size 33 2 o (jn (l.take k)).length (flatP (jn (l.take k))) ∧ Below w.heap.size w wr) (fun _ i _ => l.length - (intOf i).toNat)
  case atStart => exact ⟨0, by omega, rfl, own_nilP _ _, Below.refl _ _⟩
  case round =>
    obtain ⟨k, hk, rfl, hown, hbr⟩ := hrel
    have hbz := hbr.size
    by_cases hlt : k < l.length
    · have hx := List.getElem?_eq_getElem hlt
      generalize l[k] = p at hx
      obtain ⟨a, b⟩ := p
      have hS := Lib.hid (jn_step hx)
      have hle := jn_len (l.take k)
      rw [List.length_take] at hle
      obtain ⟨ad, rfl, _, hab, c0, c1⟩ := (hv0.below hbr).at hx
      dsimp only at c0 c1
      have bX0 : Below wr.heap.size wr (wr.alloc (.cells #[.int .i64 a, .int .i64 b] 33)) := (Below.refl _ _).alloc (Nat.le_refl _) _
      have oX0 := Own.new wr 33 #[.int .i64 a, .int .i64 b]
      have sX0 : wr.heap.size < (wr.alloc (.cells #[.int .i64 a, .int .i64 b] 33)).heap.size := by simp
      clear hx
      generalize jn (l.take k) = R at *
      have HOX := Lib.hid (World.ownsRow.alloc hown (.cells #[.int .i64 a, .int .i64 b] 33))
      rcases List.eq_nil_or_concat R with rfl | ⟨m, q, rfl⟩
      · have hS2 := Lib.hid (hS.out.trans (jstep_nil (a, b)))
        have hgt := own_get hown
        clear hown hS
        rcases hgt with ⟨rfl, _⟩ | ⟨g, cc, rfl, hbg, hg, hnc, _⟩
        all_goals
          go_wp2
          generalize wr.alloc (.cells #[.int .i64 a, .int .i64 b] 33) = V at *
          generalize wr.heap.size = gN at *
          (refine wp_region_after (by kernel_rfl) (by kernel_rfl) ?_; (repeat (go_big_quiet_step (fail))); refine wpQuiet_nil ?_; intro wq hw0; obtain ⟨⟨wq0, hbq⟩, hw1⟩ := hw0; subst hw1; (try dsimp only))
          have zV := bX0.size
          have zq := hbq.size
          have HX := Lib.hid (own_below HOX.out hbq)
          have oN := Own.below oX0 hbq sX0
          have n0 : wq.cell? ⟨gN, 0, none⟩ = some (.int .i64 a) := oN.cell 0
          have n1 : wq.cell? ⟨gN, 1, none⟩ = some (.int .i64 b) := oN.cell 1
          go_wp2_with (at_builtin; refine append_per _ rfl _ _ rfl w.heap.size _ [] rfl (World.ownsRow.alloc HX.out _) ⟨wq.heap.size, 0, none⟩ a b rfl (World.news_of_block (heap_alloc_new _ _)) ?_ ?_ ?_; (focus (simp)); (focus go_size); intro v1 w1 hown1 hb1)
          go_roundw
          case rel => exact ⟨k + 1, by omega, by go_num, by rw [hS2.out]; exact hown1, (hbr.trans ((bX0.mono hbz).trans (hbq.mono (by omega)))).trans (((Below.refl w.heap.size wq).alloc (by omega) _).trans hb1)⟩
          case measure => simp [intOf]; omega
      · rw [List.concat_eq_append] at *
        obtain ⟨x, y⟩ := q
        have hgt := own_get hown
        rcases hgt with ⟨_, h0⟩ | ⟨g, cc, rfl, hbg, hg, hnc, hcell⟩
        · simp at h0
        · have hml : (m ++ [(x, y)]).length = m.length + 1 := by simp
          obtain ⟨k0, k1⟩ := flatP_get (m ++ [(x, y)]) m.length (x, y) (by simp)
          have d0 := (bX0.cell (p := ⟨g, m.length * 2, none⟩) hg).trans (hcell _ _ k0)
          have d1 := (bX0.cell (p := ⟨g, m.length * 2 + 1, none⟩) hg).trans (hcell _ _ k1)
          dsimp only at d0 d1
          have HOV : Hid ((wr.alloc (.cells #[.int .i64 a, .int .i64 b] 33)).ownsRow w.heap.size 33 2 (.slice (some ⟨g, 0, none⟩) (m.length + 1) cc) (m ++ [(x, y)]).length (flatP (m ++ [(x, y)]))) := Lib.hid (by
            have h := HOX.out
            rwa [show Value.slice (some ⟨g, 0, none⟩) (m ++ [(x, y)]).length cc = Value.slice (some ⟨g, 0, none⟩) (m.length + 1) cc by rw [hml]] at h)
          have i1 : IntKind.i64.wrap ((m.length : Int) + 1 - 1) = m.length := by rw [show (m.length : Int) + 1 - 1 = m.length by omega]; exact IntWalk.i64_in _ (by omega)
          have i7 : IntKind.i64.wrap (m.length : Int) = m.length := IntWalk.i64_in _ (by omega)
          have i2 : (0 : Int) ≤ (m.length : Int) := by omega
          have i3 : (m.length : Int) < (m.length : Int) + 1 := by omega
          have i4 : decide ((m.length : Int) ≥ 0) = true := by simp
          rw [hml] at hle hnc ⊢
          clear hown hcell k0 k1 HOX hml
          cases hA : adj x y a b
          · have hS2 := Lib.hid (hS.out.trans (jstep_far hA))
            clear hS
            go_wp2
            generalize wr.alloc (.cells #[.int .i64 a, .int .i64 b] 33) = V at *
            generalize wr.heap.size = gN at *
            have f0 : ∀ p : After V, p.w.cell? ⟨gN, 0, none⟩ = some (.int .i64 a) := after_cell sX0 (oX0.cell 0)
            have f1 : ∀ p : After V, p.w.cell? ⟨gN, 1, none⟩ = some (.int .i64 b) := after_cell sX0 (oX0.cell 1)
            have f2 : ∀ p : After V, p.w.cell? ⟨g, m.length * 2, none⟩ = some (.int .i64 x) := after_cell (by show g < V.heap.size; omega) d0
            have f3 : ∀ p : After V, p.w.cell? ⟨g, m.length * 2 + 1, none⟩ = some (.int .i64 y) := after_cell (by show g < V.heap.size; omega) d1
            (refine wp_region_after (by kernel_rfl) (by kernel_rfl) ?_; (repeat (go_big_quiet_step ((go_at_call 58; exact calls_after (adjacent_any _ _ _ _ _))))); refine wpQuiet_nil ?_; intro wq hw0; obtain ⟨⟨wq0, hbq⟩, hw1⟩ := hw0; subst hw1; (try dsimp only))
            have zV := bX0.size
            have zq := hbq.size
            have HX := Lib.hid (own_below HOV.out hbq)
            have oN := Own.below oX0 hbq sX0
            have n0 : wq.cell? ⟨gN, 0, none⟩ = some (.int .i64 a) := oN.cell 0
            have n1 : wq.cell? ⟨gN, 1, none⟩ = some (.int .i64 b) := oN.cell 1
            have BX : Below w.heap.size w wq := hbr.trans ((bX0.mono hbz).trans (hbq.mono (by omega)))
            go_wp2_with (at_builtin; refine append_per _ rfl _ _ rfl w.heap.size _ (m ++ [(x, y)]) rfl (World.ownsRow.alloc HX.out _) ⟨wq.heap.size, 0, none⟩ a b rfl (World.news_of_block (heap_alloc_new _ _)) ?_ ?_ ?_; (focus (rw [List.length_append, List.length_singleton]; omega)); (focus go_size); intro v1 w1 hown1 hb1)
            go_roundw
            case rel => exact ⟨k + 1, by omega, by go_num, by rw [hS2.out]; exact hown1, BX.trans (((Below.refl w.heap.size wq).alloc (by omega) _).trans hb1)⟩
            case measure => simp [intOf]; omega
          · have hS2 := Lib.hid (hS.out.trans (jstep_adj hA))
            clear hS
            go_wp2
            generalize wr.alloc (.cells #[.int .i64 a, .int .i64 b] 33) = V at *
            generalize wr.heap.size = gN at *
            have f0 : ∀ p : After V, p.w.cell? ⟨gN, 0, none⟩ = some (.int .i64 a) := after_cell sX0 (oX0.cell 0)
            have f1 : ∀ p : After V, p.w.cell? ⟨gN, 1, none⟩ = some (.int .i64 b) := after_cell sX0 (oX0.cell 1)
            have f2 : ∀ p : After V, p.w.cell? ⟨g, m.length * 2, none⟩ = some (.int .i64 x) := after_cell (by show g < V.heap.size; omega) d0
            have f3 : ∀ p : After V, p.w.cell? ⟨g, m.length * 2 + 1, none⟩ = some (.int .i64 y) := after_cell (by show g < V.heap.size; omega) d1
            (refine wp_region_after (by kernel_rfl) (by kernel_rfl) ?_; (repeat (go_big_quiet_step ((go_at_call 58; exact calls_after (adjacent_any _ _ _ _ _))))); refine wpQuiet_nil ?_; intro wq hw0; obtain ⟨⟨wq0, hbq⟩, hw1⟩ := hw0; subst hw1; (try dsimp only))
            have zV := bX0.size
            have zq := hbq.size
            have HX := Lib.hid (own_below HOV.out hbq)
            have oN := Own.below oX0 hbq sX0
            have n0 : wq.cell? ⟨gN, 0, none⟩ = some (.int .i64 a) := oN.cell 0
            have n1 : wq.cell? ⟨gN, 1, none⟩ = some (.int .i64 b) := oN.cell 1
            have BX : Below w.heap.size w wq := hbr.trans ((bX0.mono hbz).trans (hbq.mono (by omega)))
            have hml : (m ++ [(x, y)]).length = m.length + 1 := by simp
            have HX2 : Hid (wq.ownsRow w.heap.size 33 2 (.slice (some ⟨g, 0, none⟩) (m.length + 1) cc) (m.length + 1) (flatP (m ++ [(x, y)]))) := Lib.hid (by have h := HX.out; rwa [hml] at h)
            have q1 : wq.cell? ⟨g, m.length * 2 + 1, none⟩ = some (.int .i64 y) := f3 ⟨wq, hbq⟩
            have fr := World.ownsRow.frozenAt HX2.out (m.length * 2 + 1)
            have hst := Lib.hid (World.ownsRow.stored HX2.out (m.length * 2 + 1) (.int .i64 b))
            clear f0 f1 f2 f3 hml
            go_wp2
            go_roundw
            case rel => exact ⟨k + 1, by omega, by go_num, by rw [hS2.out, List.length_append, List.length_singleton, ← flatP_set m x y b]; exact hst.out.1, BX.setCell (by show w.heap.size ≤ g; omega) _⟩
            case measure => simp [intOf]; omega
    · have hkl : k = l.length := by omega
      have hd : ¬ (k : Int) < l.length := by omega
      have hT : l.take k = l := List.take_of_length_le (by omega)
      rw [hT] at hown
      have HX := Lib.hid hown
      have hle := jn_len l
      clear hown hT hkl
      go_wp2
      go_ret
      exact ⟨_, rfl, RdP.of_own HX.out (by omega), hbr⟩
end Go.Proofs.Ytbpjgipldddcfaa
