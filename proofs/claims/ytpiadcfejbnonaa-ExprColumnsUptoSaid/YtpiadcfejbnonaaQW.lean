import Derived.Test.YtpiadcfejbnonaaQWa
import Derived.Test.YtpiadcfejbnonaaMA
import Derived.Test.YtpiadcfejbnonaaQEE
import Derived.WalkKit
import Derived.WalkSpells
import Derived.WalkLawsBesides
import Derived.Deep.QuietTactic
import Derived.BigQuiet
import Derived.Handy
import Derived.Lib.Hide
/-
  The awake of the statements: the chapter's examples. Conditions: none. (Written by mkExW.py.)
-/
namespace Go.Proofs.Ytpiadcfejbnonaa
set_option linter.unusedVariables false
set_option linter.unusedSimpArgs false
set_option linter.unusedVariables false
set_option linter.unusedSimpArgs false
set_option linter.unusedVariables false
set_option linter.unusedSimpArgs false
set_option maxRecDepth 100000
open Go.RowKit

def oneF (e : Ex) : Fact := ⟨fun v W => ∃ g, v = .slice (some ⟨g, 0, none⟩) 1 1 ∧ RdE W 0 W.heap.size 2 (.slice (some ⟨g, 0, none⟩) 1 1) [e], fun _ _ _ ⟨g, hv, hr⟩ hb => ⟨g, hv, hr.step hb (Nat.le_refl _)⟩⟩
theorem one_nul (W : World) : RdE (W.alloc (.cells #[.int .i64 1, .int .i64 0, .int .i64 0, .int .i64 0, .string ⟨#[]⟩, .string ⟨#[]⟩, .slice none 0 0] 26)) 0 (W.alloc (.cells #[.int .i64 1, .int .i64 0, .int .i64 0, .int .i64 0, .string ⟨#[]⟩, .string ⟨#[]⟩, .slice none 0 0] 26)).heap.size 2 (.slice (some ⟨W.heap.size, 0, none⟩) 1 1) [nulE] :=
  rdE_one (a := nulE) (Aa := none) (ca := 0) (rdE_nil _ _ _ 1 (by decide)) (Own.new W 26 #[.int .i64 1, .int .i64 0, .int .i64 0, .int .i64 0, .string ⟨#[]⟩, .string ⟨#[]⟩, .slice none 0 0])
theorem isE_lf {e : Ex} {v : Value} (h : e.args = []) (hv : v = exV e (.slice none 0 0)) (W : World) : IsE 1 e v W := ⟨none, 0, by rw [hv, h]; rfl, by rw [h]; exact rdE_nil W 0 _ 1 (by decide)⟩
theorem rdI_nl (W : World) : RdI W 0 W.heap.size (.slice none 0 0) [] := ⟨none, 0, rfl, by simp, by simp⟩
theorem rdV_nl (W : World) : RdV W 0 W.heap.size (.slice none 0 0) [] := ⟨none, 0, rfl, by simp, by simp⟩
theorem ex_k1 : chkT [] 2 (twoE 23 nulE txaE) = (2, 0) := by decide +kernel
theorem ex_k2 : chkT [] 2 (twoE 13 (numE 1) txaE) = (0, 7) := by decide +kernel
theorem ex_e1 : evE [] 2 (twoE 16 (numE 7) (numE (-2))) = (1, -3, ⟨#[]⟩) := by decide +kernel
theorem ex_e2 : evE [] 2 (twoE 17 (numE (-7)) (numE 2)) = (1, -1, ⟨#[]⟩) := by decide +kernel
theorem ex_t1 : truP (evE [] 2 (twoE 7 (numE 1) nulE)) = 1 := by decide +kernel
theorem ex_t2 : truP (evE [] 2 (oneE 21 nulE)) = 2 := by decide +kernel
theorem ex_e3 : evE [] 2 (twoE 13 (numE 1) txaE) = (0, 0, ⟨#[]⟩) := by decide +kernel
theorem ex_eqv (k n : Int) (w : World) : (binOp .eql 23 (.agg #[.int .i64 k, .int .i64 n, .string ⟨#[]⟩]) (.agg #[.int .i64 k, .int .i64 n, .string ⟨#[]⟩])).run Try.prog w = .ok (.bool true) w := by
  have h := Va.eql_val k n ⟨#[]⟩ k n ⟨#[]⟩ w
  rwa [show Va.eqV k n ⟨#[]⟩ k n ⟨#[]⟩ = true by simp [Va.eqV]] at h
set_option maxRecDepth 100000 in
set_option maxHeartbeats 12800000 in
theorem awake_any (w : World) : Calls Try.prog 11 #[] w fun e w' => e = .returned (.bool true) ∧ Below w.heap.size w w' := by
  have m1 := bel_mk w (.cells #[.int .i64 1, .int .i64 0, .int .i64 0, .int .i64 0, .string ⟨#[]⟩, .string ⟨#[]⟩, .slice none 0 0] 26)
  have m2 := bel_mk (w.alloc (.cells #[.int .i64 1, .int .i64 0, .int .i64 0, .int .i64 0, .string ⟨#[]⟩, .string ⟨#[]⟩, .slice none 0 0] 26)) (.cells #[.int .i64 1, .int .i64 0, .int .i64 2, .int .i64 0, .string ⟨#[97]⟩, .string ⟨#[]⟩, .slice none 0 0] 26)
  have o1 := (Own.new w 26 #[.int .i64 1, .int .i64 0, .int .i64 0, .int .i64 0, .string ⟨#[]⟩, .string ⟨#[]⟩, .slice none 0 0]).below m2 (by simp)
  have o2 : Own ((w.alloc (.cells #[.int .i64 1, .int .i64 0, .int .i64 0, .int .i64 0, .string ⟨#[]⟩, .string ⟨#[]⟩, .slice none 0 0] 26)).alloc (.cells #[.int .i64 1, .int .i64 0, .int .i64 2, .int .i64 0, .string ⟨#[97]⟩, .string ⟨#[]⟩, .slice none 0 0] 26)) (w.heap.size + 1) 26 #[.int .i64 1, .int .i64 0, .int .i64 2, .int .i64 0, .string ⟨#[97]⟩, .string ⟨#[]⟩, .slice none 0 0] := Va.own_two _
  have B2 := m1.trans (m2.mono m1.size)
  have HB2 := Lib.hid B2
  have HN := Lib.hid (show ∀ W, Below ((w.alloc (.cells #[.int .i64 1, .int .i64 0, .int .i64 0, .int .i64 0, .string ⟨#[]⟩, .string ⟨#[]⟩, .slice none 0 0] 26)).alloc (.cells #[.int .i64 1, .int .i64 0, .int .i64 2, .int .i64 0, .string ⟨#[97]⟩, .string ⟨#[]⟩, .slice none 0 0] 26)).heap.size ((w.alloc (.cells #[.int .i64 1, .int .i64 0, .int .i64 0, .int .i64 0, .string ⟨#[]⟩, .string ⟨#[]⟩, .slice none 0 0] 26)).alloc (.cells #[.int .i64 1, .int .i64 0, .int .i64 2, .int .i64 0, .string ⟨#[97]⟩, .string ⟨#[]⟩, .slice none 0 0] 26)) W → W.cell? ⟨w.heap.size, 0, none⟩ = some (.int .i64 1) ∧ W.cell? ⟨w.heap.size, 1, none⟩ = some (.int .i64 0) ∧ W.cell? ⟨w.heap.size, 2, none⟩ = some (.int .i64 0) ∧ W.cell? ⟨w.heap.size, 3, none⟩ = some (.int .i64 0) ∧ W.cell? ⟨w.heap.size, 4, none⟩ = some (.string ⟨#[]⟩) ∧ W.cell? ⟨w.heap.size, 5, none⟩ = some (.string ⟨#[]⟩) ∧ W.cell? ⟨w.heap.size, 6, none⟩ = some (.slice none 0 0) from fun W h => ⟨(h.cell (p := ⟨w.heap.size, 0, none⟩) o1.lt).trans (o1.cell 0), (h.cell (p := ⟨w.heap.size, 1, none⟩) o1.lt).trans (o1.cell 1), (h.cell (p := ⟨w.heap.size, 2, none⟩) o1.lt).trans (o1.cell 2), (h.cell (p := ⟨w.heap.size, 3, none⟩) o1.lt).trans (o1.cell 3), (h.cell (p := ⟨w.heap.size, 4, none⟩) o1.lt).trans (o1.cell 4), (h.cell (p := ⟨w.heap.size, 5, none⟩) o1.lt).trans (o1.cell 5), (h.cell (p := ⟨w.heap.size, 6, none⟩) o1.lt).trans (o1.cell 6)⟩)
  have HT := Lib.hid (show ∀ W, Below ((w.alloc (.cells #[.int .i64 1, .int .i64 0, .int .i64 0, .int .i64 0, .string ⟨#[]⟩, .string ⟨#[]⟩, .slice none 0 0] 26)).alloc (.cells #[.int .i64 1, .int .i64 0, .int .i64 2, .int .i64 0, .string ⟨#[97]⟩, .string ⟨#[]⟩, .slice none 0 0] 26)).heap.size ((w.alloc (.cells #[.int .i64 1, .int .i64 0, .int .i64 0, .int .i64 0, .string ⟨#[]⟩, .string ⟨#[]⟩, .slice none 0 0] 26)).alloc (.cells #[.int .i64 1, .int .i64 0, .int .i64 2, .int .i64 0, .string ⟨#[97]⟩, .string ⟨#[]⟩, .slice none 0 0] 26)) W → W.cell? ⟨w.heap.size + 1, 0, none⟩ = some (.int .i64 1) ∧ W.cell? ⟨w.heap.size + 1, 1, none⟩ = some (.int .i64 0) ∧ W.cell? ⟨w.heap.size + 1, 2, none⟩ = some (.int .i64 2) ∧ W.cell? ⟨w.heap.size + 1, 3, none⟩ = some (.int .i64 0) ∧ W.cell? ⟨w.heap.size + 1, 4, none⟩ = some (.string ⟨#[97]⟩) ∧ W.cell? ⟨w.heap.size + 1, 5, none⟩ = some (.string ⟨#[]⟩) ∧ W.cell? ⟨w.heap.size + 1, 6, none⟩ = some (.slice none 0 0) from fun W h => ⟨(h.cell (p := ⟨w.heap.size + 1, 0, none⟩) o2.lt).trans (o2.cell 0), (h.cell (p := ⟨w.heap.size + 1, 1, none⟩) o2.lt).trans (o2.cell 1), (h.cell (p := ⟨w.heap.size + 1, 2, none⟩) o2.lt).trans (o2.cell 2), (h.cell (p := ⟨w.heap.size + 1, 3, none⟩) o2.lt).trans (o2.cell 3), (h.cell (p := ⟨w.heap.size + 1, 4, none⟩) o2.lt).trans (o2.cell 4), (h.cell (p := ⟨w.heap.size + 1, 5, none⟩) o2.lt).trans (o2.cell 5), (h.cell (p := ⟨w.heap.size + 1, 6, none⟩) o2.lt).trans (o2.cell 6)⟩)
  have t1 := pTwo_any 23 1 nulE txaE _ _ ((w.alloc (.cells #[.int .i64 1, .int .i64 0, .int .i64 0, .int .i64 0, .string ⟨#[]⟩, .string ⟨#[]⟩, .slice none 0 0] 26)).alloc (.cells #[.int .i64 1, .int .i64 0, .int .i64 2, .int .i64 0, .string ⟨#[97]⟩, .string ⟨#[]⟩, .slice none 0 0] 26)) (isE_lf (e := nulE) rfl rfl _) (isE_lf (e := txaE) rfl rfl _)
  have x0 := o1.cell 0
  have x1 := o1.cell 1
  have x2 := o1.cell 2
  have x3 := o1.cell 3
  have x4 := o1.cell 4
  have x5 := o1.cell 5
  have x6 := o1.cell 6
  have hw1 : w.heap.size < ((w.alloc (.cells #[.int .i64 1, .int .i64 0, .int .i64 0, .int .i64 0, .string ⟨#[]⟩, .string ⟨#[]⟩, .slice none 0 0] 26)).alloc (.cells #[.int .i64 1, .int .i64 0, .int .i64 2, .int .i64 0, .string ⟨#[97]⟩, .string ⟨#[]⟩, .slice none 0 0] 26)).heap.size := o1.lt
  clear m1 m2 o1 o2 B2
  have t1 : Calls Try.prog 33 #[.int .i64 23, .agg #[.int .i64 1, .int .i64 0, .int .i64 0, .int .i64 0, .string ⟨#[]⟩, .string ⟨#[]⟩, .slice none 0 0], .agg #[.int .i64 1, .int .i64 0, .int .i64 2, .int .i64 0, .string ⟨#[97]⟩, .string ⟨#[]⟩, .slice none 0 0]] ((w.alloc (.cells #[.int .i64 1, .int .i64 0, .int .i64 0, .int .i64 0, .string ⟨#[]⟩, .string ⟨#[]⟩, .slice none 0 0] 26)).alloc (.cells #[.int .i64 1, .int .i64 0, .int .i64 2, .int .i64 0, .string ⟨#[97]⟩, .string ⟨#[]⟩, .slice none 0 0] 26)) fun e w' => ∃ A c, e = .returned (.agg #[.int .i64 23, .int .i64 0, .int .i64 0, .int .i64 0, .string ⟨#[]⟩, .string ⟨#[]⟩, .slice A 2 c]) ∧ RdE w' 0 w'.heap.size 2 (.slice A 2 c) [nulE, txaE] ∧ Below ((w.alloc (.cells #[.int .i64 1, .int .i64 0, .int .i64 0, .int .i64 0, .string ⟨#[]⟩, .string ⟨#[]⟩, .slice none 0 0] 26)).alloc (.cells #[.int .i64 1, .int .i64 0, .int .i64 2, .int .i64 0, .string ⟨#[97]⟩, .string ⟨#[]⟩, .slice none 0 0] 26)).heap.size ((w.alloc (.cells #[.int .i64 1, .int .i64 0, .int .i64 0, .int .i64 0, .string ⟨#[]⟩, .string ⟨#[]⟩, .slice none 0 0] 26)).alloc (.cells #[.int .i64 1, .int .i64 0, .int .i64 2, .int .i64 0, .string ⟨#[97]⟩, .string ⟨#[]⟩, .slice none 0 0] 26)) w' :=
    t1.mono fun _ _ ⟨_, he, ⟨A, c, hu, hr⟩, hb⟩ => ⟨A, c, by rw [he, hu]; rfl, hr, hb⟩
  go_enter Try.func11, Try.ntmps11
  go_wp2_with fail
  clear x0 x1 x2 x3 x4 x5 x6
  with_reducible refine t1.mono ?_
  rintro e w3 ⟨A3, c3, rfl, hr3, hb3⟩
  have hk0 := pCheck_any (.slice none 0 0) [] 2 (twoE 23 nulE txaE) A3 c3 w3 0 0 hr3 (rdI_nl w3)
  rw [ex_k1] at hk0
  have hk1 : Calls Try.prog 9 #[.agg #[.int .i64 23, .int .i64 0, .int .i64 0, .int .i64 0, .string ⟨#[]⟩, .string ⟨#[]⟩, .slice A3 2 c3], .slice none 0 0] w3 fun e w' => e = .returned (.tuple #[.int .i64 2, .int .i64 0]) ∧ Below w3.heap.size w3 w' := hk0
  clear hk0
  clear t1
  go_wp2_with fail
  with_reducible refine hk1.mono ?_
  rintro e w4 ⟨rfl, hb4⟩
  clear hk1
  have B4 := hb3.trans (hb4.mono hb3.size)
  have HN := Lib.hid (fun W (h : Below w4.heap.size w4 W) => HN.out W (B4.trans (h.mono B4.size)))
  have HT := Lib.hid (fun W (h : Below w4.heap.size w4 W) => HT.out W (B4.trans (h.mono B4.size)))
  have HB4 := Lib.hid (HB2.out.trans (B4.mono HB2.out.size))
  clear hb3 hb4 B4 HB2 hr3
  generalize hg2 : w.heap.size + 1 = g2 at HT ⊢
  go_wp2_with fail
  refine wp_region_invV (w := w4) (fun x => { tmps := #[.bool false, .pointer (some ⟨w.heap.size, 0, none⟩), .pointer (some ⟨g2, 0, none⟩), .int .i64 2, .int .i64 0, x 7, x 8, .agg #[.int .i64 1, .int .i64 0, .int .i64 0, .int .i64 0, .string ⟨#[]⟩, .string ⟨#[]⟩, .slice none 0 0], .agg #[.int .i64 2, .int .i64 0, .string ⟨#[97]⟩], .agg #[.int .i64 1, .int .i64 0, .int .i64 2, .int .i64 0, .string ⟨#[97]⟩, .string ⟨#[]⟩, .slice none 0 0], .tuple #[.int .i64 2, .int .i64 0], .agg #[.int .i64 1, .int .i64 0, .int .i64 0, .int .i64 0, .string ⟨#[]⟩, .string ⟨#[]⟩, .slice none 0 0], .agg #[.int .i64 1, .int .i64 0, .int .i64 2, .int .i64 0, .string ⟨#[97]⟩, .string ⟨#[]⟩, .slice none 0 0], .agg #[.int .i64 23, .int .i64 0, .int .i64 0, .int .i64 0, .string ⟨#[]⟩, .string ⟨#[]⟩, .slice A3 2 c3], .tuple #[.int .i64 2, .int .i64 0], .int .i64 2, .int .i64 0, x 4, x 0, x 1, x 2, x 3, x 5, x 6, undef, undef, undef, undef, undef, undef, undef, undef, undef, undef, undef, undef, undef, undef, undef, undef, undef, undef, undef, undef, undef, undef, undef, undef, undef, undef, undef, undef, undef, undef, undef, undef, undef, undef, undef, undef, undef, undef, undef, undef, undef, undef, undef, undef, undef, undef, undef, undef, undef, undef, undef], defers := [] }) [isF (.agg #[.int .i64 1, .int .i64 0, .int .i64 1, .int .i64 (1), .string ⟨#[]⟩, .string ⟨#[]⟩, .slice none 0 0]), isF (.agg #[.int .i64 1, .int .i64 0, .int .i64 2, .int .i64 0, .string ⟨#[97]⟩, .string ⟨#[]⟩, .slice none 0 0]), exF 2 (twoE 13 (numE 1) (txaE)), isF (.tuple #[.int .i64 0, .int .i64 7]), isF (.tuple #[.int .i64 0, .int .i64 7]), isF (.int .i64 0), isF (.int .i64 7), isF (.int .i64 0), isF (.int .i64 7)] (fun j => undef) (by kernel_rfl) (by kernel_rfl) (by rfl) ?_ ?_ ?_
  · intro x i o v ho
    have hi : i < 9 := (Array.getElem?_eq_some_iff.1 ho).1
    have hi2 : i = 0 ∨ i = 1 ∨ i = 2 ∨ i = 3 ∨ i = 4 ∨ i = 5 ∨ i = 6 ∨ i = 7 ∨ i = 8 := by omega
    rcases hi2 with rfl | rfl | rfl | rfl | rfl | rfl | rfl | rfl | rfl
    all_goals (obtain rfl := Option.some.inj ho; rfl)
  · intro i o ho x W hb hd K hK
    have hi : i < 9 := (Array.getElem?_eq_some_iff.1 ho).1
    have hi2 : i = 0 ∨ i = 1 ∨ i = 2 ∨ i = 3 ∨ i = 4 ∨ i = 5 ∨ i = 6 ∨ i = 7 ∨ i = 8 := by omega
    clear hi
    rcases hi2 with rfl | rfl | rfl | rfl | rfl | rfl | rfl | rfl | rfl
    · obtain rfl := Option.some.inj ho
      clear hd
      rw [if_pos (by rfl)]
      try dsimp only at hK ⊢
      go_simp
      (go_at_call 34; refine (pNum_any (1) W).mono ?_; rintro e W1 ⟨rfl, hb1⟩; exact hK.out _ W1 hb1 rfl)
    · obtain rfl := Option.some.inj ho
      obtain ⟨k0, k1, k2, k3, k4, k5, k6⟩ := HT.out W hb
      clear hd
      rw [if_pos (by rfl)]
      try dsimp only at hK ⊢
      go_simp
      exact hK.out _ W (Below.refl _ _) rfl
    · obtain rfl := Option.some.inj ho
      have h0 : x 0 = .agg #[.int .i64 1, .int .i64 0, .int .i64 1, .int .i64 (1), .string ⟨#[]⟩, .string ⟨#[]⟩, .slice none 0 0] := hd 0 (by kernel_rfl)
      simp only [h0] at hK ⊢
      have h1 : x 1 = .agg #[.int .i64 1, .int .i64 0, .int .i64 2, .int .i64 0, .string ⟨#[97]⟩, .string ⟨#[]⟩, .slice none 0 0] := hd 1 (by kernel_rfl)
      simp only [h1] at hK ⊢
      clear hd
      rw [if_pos (by rfl)]
      try dsimp only at hK ⊢
      go_simp
      (go_at_call 33; refine (pTwo_any 13 1 (numE 1) (txaE) _ _ W (isE_lf rfl rfl W) (isE_lf rfl rfl W)).mono ?_; rintro e W1 ⟨u, rfl, hu, hb1⟩; exact hK.out _ W1 hb1 hu)
    · obtain rfl := Option.some.inj ho
      have h2 : IsE 2 (twoE 13 (numE 1) txaE) (x 2) W := hd 2 (by kernel_rfl)
      obtain ⟨A2, c2, e2, q2⟩ := h2
      unfold exV at e2
      simp only [e2] at hK ⊢
      replace q2 := Lib.hid q2
      clear e2
      clear hd
      rw [if_pos (by rfl)]
      try dsimp only at hK ⊢
      go_simp
      (go_at_call 9; refine (pCheck_any _ [] 2 (twoE 13 (numE 1) txaE) _ _ W 0 0 q2.out (rdI_nl W)).mono ?_; rintro e W1 ⟨rfl, hb1⟩; exact hK.out _ W1 hb1 (by rw [ex_k2]; rfl))
    · obtain rfl := Option.some.inj ho
      have h3 : x 3 = .tuple #[.int .i64 0, .int .i64 7] := hd 3 (by kernel_rfl)
      simp only [h3] at hK ⊢
      clear hd
      rw [if_pos (by rfl)]
      try dsimp only at hK ⊢
      go_simp
      exact hK.out _ W (Below.refl _ _) rfl
    · obtain rfl := Option.some.inj ho
      have h4 : x 4 = .tuple #[.int .i64 0, .int .i64 7] := hd 4 (by kernel_rfl)
      simp only [h4] at hK ⊢
      clear hd
      rw [if_pos (by rfl)]
      try dsimp only at hK ⊢
      go_simp
      exact hK.out _ W (Below.refl _ _) rfl
    · obtain rfl := Option.some.inj ho
      have h4 : x 4 = .tuple #[.int .i64 0, .int .i64 7] := hd 4 (by kernel_rfl)
      simp only [h4] at hK ⊢
      clear hd
      rw [if_pos (by rfl)]
      try dsimp only at hK ⊢
      go_simp
      exact hK.out _ W (Below.refl _ _) rfl
    · obtain rfl := Option.some.inj ho
      have h5 : x 5 = .int .i64 0 := hd 5 (by kernel_rfl)
      simp only [h5] at hK ⊢
      clear hd
      rw [if_pos (by rfl)]
      try dsimp only at hK ⊢
      go_simp
      exact hK.out _ W (Below.refl _ _) rfl
    · obtain rfl := Option.some.inj ho
      have h6 : x 6 = .int .i64 7 := hd 6 (by kernel_rfl)
      simp only [h6] at hK ⊢
      clear hd
      rw [if_pos (by rfl)]
      try dsimp only at hK ⊢
      go_simp
      exact hK.out _ W (Below.refl _ _) rfl
  · intro x V hb hf
    have h7 : x 7 = .int .i64 0 := hf 7 (by decide)
    have h8 : x 8 = .int .i64 7 := hf 8 (by decide)
    clear hf
    try dsimp only
    rw [h7, h8]
    clear h7 h8
    generalize x 4 = z17
    generalize x 0 = z18
    generalize x 1 = z19
    generalize x 2 = z20
    generalize x 3 = z21
    generalize x 5 = z22
    generalize x 6 = z23
    clear x
    have HN2 := Lib.hid (fun W (h : Below V.heap.size V W) => HN.out W (hb.trans (h.mono hb.size)))
    have HT2 := Lib.hid (fun W (h : Below V.heap.size V W) => HT.out W (hb.trans (h.mono hb.size)))
    have HB5 := Lib.hid (HB4.out.trans (hb.mono HB4.out.size))
    clear HN HT HB4 hb
    have HN := HN2
    have HT := HT2
    clear HN2 HT2
    go_wp2_with fail
    refine wp_region_invV (w := V) (fun x => { tmps := #[x 51, .pointer (some ⟨w.heap.size, 0, none⟩), .pointer (some ⟨g2, 0, none⟩), .int .i64 2, .int .i64 0, .int .i64 0, .int .i64 7, .agg #[.int .i64 1, .int .i64 0, .int .i64 0, .int .i64 0, .string ⟨#[]⟩, .string ⟨#[]⟩, .slice none 0 0], .agg #[.int .i64 2, .int .i64 0, .string ⟨#[97]⟩], .agg #[.int .i64 1, .int .i64 0, .int .i64 2, .int .i64 0, .string ⟨#[97]⟩, .string ⟨#[]⟩, .slice none 0 0], .tuple #[.int .i64 2, .int .i64 0], .agg #[.int .i64 1, .int .i64 0, .int .i64 0, .int .i64 0, .string ⟨#[]⟩, .string ⟨#[]⟩, .slice none 0 0], .agg #[.int .i64 1, .int .i64 0, .int .i64 2, .int .i64 0, .string ⟨#[97]⟩, .string ⟨#[]⟩, .slice none 0 0], .agg #[.int .i64 23, .int .i64 0, .int .i64 0, .int .i64 0, .string ⟨#[]⟩, .string ⟨#[]⟩, .slice A3 2 c3], .tuple #[.int .i64 2, .int .i64 0], .int .i64 2, .int .i64 0, z17, z18, z19, z20, z21, z22, z23, x 0, x 1, x 2, x 3, x 4, x 5, x 6, x 7, x 8, x 9, x 10, x 11, x 12, x 13, x 14, x 15, x 16, x 17, x 18, x 19, x 20, x 21, x 22, x 23, x 24, x 25, x 26, x 27, x 28, x 29, x 30, x 31, x 32, x 33, x 34, x 35, x 36, x 37, x 38, x 39, x 40, x 41, x 42, x 43, x 44, x 45, x 46, x 47, x 48, x 49, x 50], defers := [] }) [isF (.agg #[.int .i64 1, .int .i64 0, .int .i64 1, .int .i64 (7), .string ⟨#[]⟩, .string ⟨#[]⟩, .slice none 0 0]), isF (.agg #[.int .i64 1, .int .i64 0, .int .i64 1, .int .i64 (-2), .string ⟨#[]⟩, .string ⟨#[]⟩, .slice none 0 0]), exF 2 (twoE 16 (numE 7) (numE (-2))), isF (.agg #[.int .i64 1, .int .i64 (-3), .string ⟨#[]⟩]), isF (.agg #[.int .i64 1, .int .i64 0, .int .i64 1, .int .i64 (-3), .string ⟨#[]⟩, .string ⟨#[]⟩, .slice none 0 0]), isF (.agg #[.int .i64 1, .int .i64 (-3), .string ⟨#[]⟩]), isF (.bool true), isF (.bool true), isF (.agg #[.int .i64 1, .int .i64 0, .int .i64 1, .int .i64 (-7), .string ⟨#[]⟩, .string ⟨#[]⟩, .slice none 0 0]), isF (.agg #[.int .i64 1, .int .i64 0, .int .i64 1, .int .i64 (2), .string ⟨#[]⟩, .string ⟨#[]⟩, .slice none 0 0]), exF 2 (twoE 17 (numE (-7)) (numE 2)), isF (.agg #[.int .i64 1, .int .i64 (-1), .string ⟨#[]⟩]), isF (.agg #[.int .i64 1, .int .i64 0, .int .i64 1, .int .i64 (-1), .string ⟨#[]⟩, .string ⟨#[]⟩, .slice none 0 0]), isF (.agg #[.int .i64 1, .int .i64 (-1), .string ⟨#[]⟩]), isF (.bool true), isF (.bool true), isF (.bool true), isF (.agg #[.int .i64 1, .int .i64 0, .int .i64 1, .int .i64 (1), .string ⟨#[]⟩, .string ⟨#[]⟩, .slice none 0 0]), isF (.agg #[.int .i64 1, .int .i64 0, .int .i64 0, .int .i64 0, .string ⟨#[]⟩, .string ⟨#[]⟩, .slice none 0 0]), exF 2 (twoE 7 (numE 1) (nulE)), isF (.int .i64 1), isF (.bool true), isF (.bool true), isF (.bool true), isF (.agg #[.int .i64 1, .int .i64 0, .int .i64 0, .int .i64 0, .string ⟨#[]⟩, .string ⟨#[]⟩, .slice none 0 0]), oneF nulE, exF 2 (oneE 21 nulE), isF (.int .i64 2), isF (.bool true), isF (.bool true), isF (.bool true), isF (.int .i64 2), isF (.bool true), isF (.bool true), isF (.bool true), isF (.int .i64 0), isF (.bool true), isF (.bool true), isF (.bool true), isF (.int .i64 7), isF (.bool true), isF (.bool true), isF (.bool true), isF (.agg #[.int .i64 1, .int .i64 0, .int .i64 1, .int .i64 (1), .string ⟨#[]⟩, .string ⟨#[]⟩, .slice none 0 0]), isF (.agg #[.int .i64 1, .int .i64 0, .int .i64 2, .int .i64 0, .string ⟨#[97]⟩, .string ⟨#[]⟩, .slice none 0 0]), exF 2 (twoE 13 (numE 1) (txaE)), isF (.agg #[.int .i64 0, .int .i64 0, .string ⟨#[]⟩]), isF (.pointer (some ⟨w.heap.size, 2, none⟩)), isF (.agg #[.int .i64 0, .int .i64 0, .string ⟨#[]⟩]), isF (.bool true), isF (.bool true), isF (.bool true)] (fun j => if j = 51 then .bool false else undef) (by kernel_rfl) (by kernel_rfl) (by rfl) ?_ ?_ ?_
    · intro x i o v ho
      have hi : i < 52 := (Array.getElem?_eq_some_iff.1 ho).1
      have hi2 : i = 0 ∨ i = 1 ∨ i = 2 ∨ i = 3 ∨ i = 4 ∨ i = 5 ∨ i = 6 ∨ i = 7 ∨ i = 8 ∨ i = 9 ∨ i = 10 ∨ i = 11 ∨ i = 12 ∨ i = 13 ∨ i = 14 ∨ i = 15 ∨ i = 16 ∨ i = 17 ∨ i = 18 ∨ i = 19 ∨ i = 20 ∨ i = 21 ∨ i = 22 ∨ i = 23 ∨ i = 24 ∨ i = 25 ∨ i = 26 ∨ i = 27 ∨ i = 28 ∨ i = 29 ∨ i = 30 ∨ i = 31 ∨ i = 32 ∨ i = 33 ∨ i = 34 ∨ i = 35 ∨ i = 36 ∨ i = 37 ∨ i = 38 ∨ i = 39 ∨ i = 40 ∨ i = 41 ∨ i = 42 ∨ i = 43 ∨ i = 44 ∨ i = 45 ∨ i = 46 ∨ i = 47 ∨ i = 48 ∨ i = 49 ∨ i = 50 ∨ i = 51 := by omega
      rcases hi2 with rfl | rfl | rfl | rfl | rfl | rfl | rfl | rfl | rfl | rfl | rfl | rfl | rfl | rfl | rfl | rfl | rfl | rfl | rfl | rfl | rfl | rfl | rfl | rfl | rfl | rfl | rfl | rfl | rfl | rfl | rfl | rfl | rfl | rfl | rfl | rfl | rfl | rfl | rfl | rfl | rfl | rfl | rfl | rfl | rfl | rfl | rfl | rfl | rfl | rfl | rfl | rfl
      all_goals (obtain rfl := Option.some.inj ho; rfl)
    · intro i o ho x W hb hd K hK
      have hi : i < 52 := (Array.getElem?_eq_some_iff.1 ho).1
      have hi2 : i = 0 ∨ i = 1 ∨ i = 2 ∨ i = 3 ∨ i = 4 ∨ i = 5 ∨ i = 6 ∨ i = 7 ∨ i = 8 ∨ i = 9 ∨ i = 10 ∨ i = 11 ∨ i = 12 ∨ i = 13 ∨ i = 14 ∨ i = 15 ∨ i = 16 ∨ i = 17 ∨ i = 18 ∨ i = 19 ∨ i = 20 ∨ i = 21 ∨ i = 22 ∨ i = 23 ∨ i = 24 ∨ i = 25 ∨ i = 26 ∨ i = 27 ∨ i = 28 ∨ i = 29 ∨ i = 30 ∨ i = 31 ∨ i = 32 ∨ i = 33 ∨ i = 34 ∨ i = 35 ∨ i = 36 ∨ i = 37 ∨ i = 38 ∨ i = 39 ∨ i = 40 ∨ i = 41 ∨ i = 42 ∨ i = 43 ∨ i = 44 ∨ i = 45 ∨ i = 46 ∨ i = 47 ∨ i = 48 ∨ i = 49 ∨ i = 50 ∨ i = 51 := by omega
      clear hi
      rcases hi2 with rfl | rfl | rfl | rfl | rfl | rfl | rfl | rfl | rfl | rfl | rfl | rfl | rfl | rfl | rfl | rfl | rfl | rfl | rfl | rfl | rfl | rfl | rfl | rfl | rfl | rfl | rfl | rfl | rfl | rfl | rfl | rfl | rfl | rfl | rfl | rfl | rfl | rfl | rfl | rfl | rfl | rfl | rfl | rfl | rfl | rfl | rfl | rfl | rfl | rfl | rfl | rfl
      · obtain rfl := Option.some.inj ho
        clear hd
        rw [if_pos (by rfl)]
        try dsimp only at hK ⊢
        go_simp
        (go_at_call 34; refine (pNum_any (7) W).mono ?_; rintro e W1 ⟨rfl, hb1⟩; exact hK.out _ W1 hb1 rfl)
      · obtain rfl := Option.some.inj ho
        clear hd
        rw [if_pos (by rfl)]
        try dsimp only at hK ⊢
        go_simp
        (go_at_call 34; refine (pNum_any (-2) W).mono ?_; rintro e W1 ⟨rfl, hb1⟩; exact hK.out _ W1 hb1 rfl)
      · obtain rfl := Option.some.inj ho
        have h0 : x 0 = .agg #[.int .i64 1, .int .i64 0, .int .i64 1, .int .i64 (7), .string ⟨#[]⟩, .string ⟨#[]⟩, .slice none 0 0] := hd 0 (by kernel_rfl)
        simp only [h0] at hK ⊢
        have h1 : x 1 = .agg #[.int .i64 1, .int .i64 0, .int .i64 1, .int .i64 (-2), .string ⟨#[]⟩, .string ⟨#[]⟩, .slice none 0 0] := hd 1 (by kernel_rfl)
        simp only [h1] at hK ⊢
        clear hd
        rw [if_pos (by rfl)]
        try dsimp only at hK ⊢
        go_simp
        (go_at_call 33; refine (pTwo_any 16 1 (numE 7) (numE (-2)) _ _ W (isE_lf rfl rfl W) (isE_lf rfl rfl W)).mono ?_; rintro e W1 ⟨u, rfl, hu, hb1⟩; exact hK.out _ W1 hb1 hu)
      · obtain rfl := Option.some.inj ho
        have h2 : IsE 2 (twoE 16 (numE 7) (numE (-2))) (x 2) W := hd 2 (by kernel_rfl)
        obtain ⟨A2, c2, e2, q2⟩ := h2
        unfold exV at e2
        simp only [e2] at hK ⊢
        replace q2 := Lib.hid q2
        clear e2
        clear hd
        rw [if_pos (by rfl)]
        try dsimp only at hK ⊢
        go_simp
        (go_at_call 12; refine (pEval_any _ [] 2 (twoE 16 (numE 7) (numE (-2))) _ _ W 0 0 q2.out (rdV_nl W)).mono ?_; rintro e W1 ⟨rfl, hb1⟩; exact hK.out _ W1 hb1 (by rw [ex_e1]; rfl))
      · obtain rfl := Option.some.inj ho
        clear hd
        rw [if_pos (by rfl)]
        try dsimp only at hK ⊢
        go_simp
        (go_at_call 34; refine (pNum_any (-3) W).mono ?_; rintro e W1 ⟨rfl, hb1⟩; exact hK.out _ W1 hb1 rfl)
      · obtain rfl := Option.some.inj ho
        have h4 : x 4 = .agg #[.int .i64 1, .int .i64 0, .int .i64 1, .int .i64 (-3), .string ⟨#[]⟩, .string ⟨#[]⟩, .slice none 0 0] := hd 4 (by kernel_rfl)
        simp only [h4] at hK ⊢
        clear hd
        rw [if_pos (by rfl)]
        try dsimp only at hK ⊢
        go_simp
        exact hK.out _ W (Below.refl _ _) rfl
      · obtain rfl := Option.some.inj ho
        have h3 : x 3 = .agg #[.int .i64 1, .int .i64 (-3), .string ⟨#[]⟩] := hd 3 (by kernel_rfl)
        simp only [h3] at hK ⊢
        have h5 : x 5 = .agg #[.int .i64 1, .int .i64 (-3), .string ⟨#[]⟩] := hd 5 (by kernel_rfl)
        simp only [h5] at hK ⊢
        have q := fun W => ex_eqv 1 (-3) W
        clear hd
        rw [if_pos (by rfl)]
        try dsimp only at hK ⊢
        go_simp
        exact hK.out _ W (Below.refl _ _) rfl
      · obtain rfl := Option.some.inj ho
        have h6 : x 6 = .bool true := hd 6 (by kernel_rfl)
        simp only [h6] at hK ⊢
        clear hd
        rw [if_pos (by rfl)]
        try dsimp only at hK ⊢
        go_simp
        exact hK.out _ W (Below.refl _ _) rfl
      · obtain rfl := Option.some.inj ho
        have h7 : x 7 = .bool true := hd 7 (by kernel_rfl)
        simp only [h7] at hK ⊢
        clear hd
        rw [if_pos (by rfl)]
        try dsimp only at hK ⊢
        go_simp
        (go_at_call 34; refine (pNum_any (-7) W).mono ?_; rintro e W1 ⟨rfl, hb1⟩; exact hK.out _ W1 hb1 rfl)
      · obtain rfl := Option.some.inj ho
        have h7 : x 7 = .bool true := hd 7 (by kernel_rfl)
        simp only [h7] at hK ⊢
        clear hd
        rw [if_pos (by rfl)]
        try dsimp only at hK ⊢
        go_simp
        (go_at_call 34; refine (pNum_any (2) W).mono ?_; rintro e W1 ⟨rfl, hb1⟩; exact hK.out _ W1 hb1 rfl)
      · obtain rfl := Option.some.inj ho
        have h7 : x 7 = .bool true := hd 7 (by kernel_rfl)
        simp only [h7] at hK ⊢
        have h8 : x 8 = .agg #[.int .i64 1, .int .i64 0, .int .i64 1, .int .i64 (-7), .string ⟨#[]⟩, .string ⟨#[]⟩, .slice none 0 0] := hd 8 (by kernel_rfl)
        simp only [h8] at hK ⊢
        have h9 : x 9 = .agg #[.int .i64 1, .int .i64 0, .int .i64 1, .int .i64 (2), .string ⟨#[]⟩, .string ⟨#[]⟩, .slice none 0 0] := hd 9 (by kernel_rfl)
        simp only [h9] at hK ⊢
        clear hd
        rw [if_pos (by rfl)]
        try dsimp only at hK ⊢
        go_simp
        (go_at_call 33; refine (pTwo_any 17 1 (numE (-7)) (numE 2) _ _ W (isE_lf rfl rfl W) (isE_lf rfl rfl W)).mono ?_; rintro e W1 ⟨u, rfl, hu, hb1⟩; exact hK.out _ W1 hb1 hu)
      · obtain rfl := Option.some.inj ho
        have h7 : x 7 = .bool true := hd 7 (by kernel_rfl)
        simp only [h7] at hK ⊢
        have h10 : IsE 2 (twoE 17 (numE (-7)) (numE 2)) (x 10) W := hd 10 (by kernel_rfl)
        obtain ⟨A10, c10, e10, q10⟩ := h10
        unfold exV at e10
        simp only [e10] at hK ⊢
        replace q10 := Lib.hid q10
        clear e10
        clear hd
        rw [if_pos (by rfl)]
        try dsimp only at hK ⊢
        go_simp
        (go_at_call 12; refine (pEval_any _ [] 2 (twoE 17 (numE (-7)) (numE 2)) _ _ W 0 0 q10.out (rdV_nl W)).mono ?_; rintro e W1 ⟨rfl, hb1⟩; exact hK.out _ W1 hb1 (by rw [ex_e2]; rfl))
      · obtain rfl := Option.some.inj ho
        have h7 : x 7 = .bool true := hd 7 (by kernel_rfl)
        simp only [h7] at hK ⊢
        clear hd
        rw [if_pos (by rfl)]
        try dsimp only at hK ⊢
        go_simp
        (go_at_call 34; refine (pNum_any (-1) W).mono ?_; rintro e W1 ⟨rfl, hb1⟩; exact hK.out _ W1 hb1 rfl)
      · obtain rfl := Option.some.inj ho
        have h7 : x 7 = .bool true := hd 7 (by kernel_rfl)
        simp only [h7] at hK ⊢
        have h12 : x 12 = .agg #[.int .i64 1, .int .i64 0, .int .i64 1, .int .i64 (-1), .string ⟨#[]⟩, .string ⟨#[]⟩, .slice none 0 0] := hd 12 (by kernel_rfl)
        simp only [h12] at hK ⊢
        clear hd
        rw [if_pos (by rfl)]
        try dsimp only at hK ⊢
        go_simp
        exact hK.out _ W (Below.refl _ _) rfl
      · obtain rfl := Option.some.inj ho
        have h7 : x 7 = .bool true := hd 7 (by kernel_rfl)
        simp only [h7] at hK ⊢
        have h11 : x 11 = .agg #[.int .i64 1, .int .i64 (-1), .string ⟨#[]⟩] := hd 11 (by kernel_rfl)
        simp only [h11] at hK ⊢
        have h13 : x 13 = .agg #[.int .i64 1, .int .i64 (-1), .string ⟨#[]⟩] := hd 13 (by kernel_rfl)
        simp only [h13] at hK ⊢
        have q := fun W => ex_eqv 1 (-1) W
        clear hd
        rw [if_pos (by rfl)]
        try dsimp only at hK ⊢
        go_simp
        exact hK.out _ W (Below.refl _ _) rfl
      · obtain rfl := Option.some.inj ho
        have h7 : x 7 = .bool true := hd 7 (by kernel_rfl)
        simp only [h7] at hK ⊢
        have h14 : x 14 = .bool true := hd 14 (by kernel_rfl)
        simp only [h14] at hK ⊢
        clear hd
        rw [if_pos (by rfl)]
        try dsimp only at hK ⊢
        go_simp
        exact hK.out _ W (Below.refl _ _) rfl
      · obtain rfl := Option.some.inj ho
        have h15 : x 15 = .bool true := hd 15 (by kernel_rfl)
        simp only [h15] at hK ⊢
        clear hd
        rw [if_pos (by rfl)]
        try dsimp only at hK ⊢
        go_simp
        exact hK.out _ W (Below.refl _ _) rfl
      · obtain rfl := Option.some.inj ho
        have h16 : x 16 = .bool true := hd 16 (by kernel_rfl)
        simp only [h16] at hK ⊢
        clear hd
        rw [if_pos (by rfl)]
        try dsimp only at hK ⊢
        go_simp
        (go_at_call 34; refine (pNum_any (1) W).mono ?_; rintro e W1 ⟨rfl, hb1⟩; exact hK.out _ W1 hb1 rfl)
      · obtain rfl := Option.some.inj ho
        have h16 : x 16 = .bool true := hd 16 (by kernel_rfl)
        simp only [h16] at hK ⊢
        obtain ⟨k0, k1, k2, k3, k4, k5, k6⟩ := HN.out W hb
        clear hd
        rw [if_pos (by rfl)]
        try dsimp only at hK ⊢
        go_simp
        exact hK.out _ W (Below.refl _ _) rfl
      · obtain rfl := Option.some.inj ho
        have h16 : x 16 = .bool true := hd 16 (by kernel_rfl)
        simp only [h16] at hK ⊢
        have h17 : x 17 = .agg #[.int .i64 1, .int .i64 0, .int .i64 1, .int .i64 (1), .string ⟨#[]⟩, .string ⟨#[]⟩, .slice none 0 0] := hd 17 (by kernel_rfl)
        simp only [h17] at hK ⊢
        have h18 : x 18 = .agg #[.int .i64 1, .int .i64 0, .int .i64 0, .int .i64 0, .string ⟨#[]⟩, .string ⟨#[]⟩, .slice none 0 0] := hd 18 (by kernel_rfl)
        simp only [h18] at hK ⊢
        clear hd
        rw [if_pos (by rfl)]
        try dsimp only at hK ⊢
        go_simp
        (go_at_call 33; refine (pTwo_any 7 1 (numE 1) (nulE) _ _ W (isE_lf rfl rfl W) (isE_lf rfl rfl W)).mono ?_; rintro e W1 ⟨u, rfl, hu, hb1⟩; exact hK.out _ W1 hb1 hu)
      · obtain rfl := Option.some.inj ho
        have h16 : x 16 = .bool true := hd 16 (by kernel_rfl)
        simp only [h16] at hK ⊢
        have h19 : IsE 2 (twoE 7 (numE 1) (nulE)) (x 19) W := hd 19 (by kernel_rfl)
        obtain ⟨A19, c19, e19, q19⟩ := h19
        unfold exV at e19
        simp only [e19] at hK ⊢
        replace q19 := Lib.hid q19
        clear e19
        clear hd
        rw [if_pos (by rfl)]
        try dsimp only at hK ⊢
        go_simp
        (go_at_call 14; refine (pTruthE_any _ [] 2 (twoE 7 (numE 1) (nulE)) _ _ W 0 0 q19.out (rdV_nl W)).mono ?_; rintro e W1 ⟨rfl, hb1⟩; exact hK.out _ W1 hb1 (by rw [ex_t1]; rfl))
      · obtain rfl := Option.some.inj ho
        have h16 : x 16 = .bool true := hd 16 (by kernel_rfl)
        simp only [h16] at hK ⊢
        have h20 : x 20 = .int .i64 1 := hd 20 (by kernel_rfl)
        simp only [h20] at hK ⊢
        clear hd
        rw [if_pos (by rfl)]
        try dsimp only at hK ⊢
        go_simp
        exact hK.out _ W (Below.refl _ _) rfl
      · obtain rfl := Option.some.inj ho
        have h16 : x 16 = .bool true := hd 16 (by kernel_rfl)
        simp only [h16] at hK ⊢
        have h21 : x 21 = .bool true := hd 21 (by kernel_rfl)
        simp only [h21] at hK ⊢
        clear hd
        rw [if_pos (by rfl)]
        try dsimp only at hK ⊢
        go_simp
        exact hK.out _ W (Below.refl _ _) rfl
      · obtain rfl := Option.some.inj ho
        have h22 : x 22 = .bool true := hd 22 (by kernel_rfl)
        simp only [h22] at hK ⊢
        clear hd
        rw [if_pos (by rfl)]
        try dsimp only at hK ⊢
        go_simp
        exact hK.out _ W (Below.refl _ _) rfl
      · obtain rfl := Option.some.inj ho
        have h23 : x 23 = .bool true := hd 23 (by kernel_rfl)
        simp only [h23] at hK ⊢
        obtain ⟨k0, k1, k2, k3, k4, k5, k6⟩ := HN.out W hb
        clear hd
        rw [if_pos (by rfl)]
        try dsimp only at hK ⊢
        go_simp
        exact hK.out _ W (Below.refl _ _) rfl
      · obtain rfl := Option.some.inj ho
        have h23 : x 23 = .bool true := hd 23 (by kernel_rfl)
        simp only [h23] at hK ⊢
        have h24 : x 24 = .agg #[.int .i64 1, .int .i64 0, .int .i64 0, .int .i64 0, .string ⟨#[]⟩, .string ⟨#[]⟩, .slice none 0 0] := hd 24 (by kernel_rfl)
        simp only [h24] at hK ⊢
        clear hd
        rw [if_pos (by rfl)]
        try dsimp only at hK ⊢
        go_simp
        exact hK.out _ _ (bel_mk W _) ⟨_, rfl, one_nul W⟩
      · obtain rfl := Option.some.inj ho
        have h23 : x 23 = .bool true := hd 23 (by kernel_rfl)
        simp only [h23] at hK ⊢
        have h25 : ∃ g, x 25 = .slice (some ⟨g, 0, none⟩) 1 1 ∧ RdE W 0 W.heap.size 2 (.slice (some ⟨g, 0, none⟩) 1 1) [nulE] := hd 25 (by kernel_rfl)
        obtain ⟨g25, e25, q25⟩ := h25
        simp only [e25] at hK ⊢
        replace q25 := Lib.hid q25
        clear e25
        clear hd
        rw [if_pos (by rfl)]
        try dsimp only at hK ⊢
        go_simp
        exact hK.out _ W (Below.refl _ _) ⟨_, _, rfl, q25.out⟩
      · obtain rfl := Option.some.inj ho
        have h23 : x 23 = .bool true := hd 23 (by kernel_rfl)
        simp only [h23] at hK ⊢
        have h26 : IsE 2 (oneE 21 nulE) (x 26) W := hd 26 (by kernel_rfl)
        obtain ⟨A26, c26, e26, q26⟩ := h26
        unfold exV at e26
        simp only [e26] at hK ⊢
        replace q26 := Lib.hid q26
        clear e26
        clear hd
        rw [if_pos (by rfl)]
        try dsimp only at hK ⊢
        go_simp
        (go_at_call 14; refine (pTruthE_any _ [] 2 (oneE 21 nulE) _ _ W 0 0 q26.out (rdV_nl W)).mono ?_; rintro e W1 ⟨rfl, hb1⟩; exact hK.out _ W1 hb1 (by rw [ex_t2]; rfl))
      · obtain rfl := Option.some.inj ho
        have h23 : x 23 = .bool true := hd 23 (by kernel_rfl)
        simp only [h23] at hK ⊢
        have h27 : x 27 = .int .i64 2 := hd 27 (by kernel_rfl)
        simp only [h27] at hK ⊢
        clear hd
        rw [if_pos (by rfl)]
        try dsimp only at hK ⊢
        go_simp
        exact hK.out _ W (Below.refl _ _) rfl
      · obtain rfl := Option.some.inj ho
        have h23 : x 23 = .bool true := hd 23 (by kernel_rfl)
        simp only [h23] at hK ⊢
        have h28 : x 28 = .bool true := hd 28 (by kernel_rfl)
        simp only [h28] at hK ⊢
        clear hd
        rw [if_pos (by rfl)]
        try dsimp only at hK ⊢
        go_simp
        exact hK.out _ W (Below.refl _ _) rfl
      · obtain rfl := Option.some.inj ho
        have h29 : x 29 = .bool true := hd 29 (by kernel_rfl)
        simp only [h29] at hK ⊢
        clear hd
        rw [if_pos (by rfl)]
        try dsimp only at hK ⊢
        go_simp
        exact hK.out _ W (Below.refl _ _) rfl
      · obtain rfl := Option.some.inj ho
        have h30 : x 30 = .bool true := hd 30 (by kernel_rfl)
        simp only [h30] at hK ⊢
        clear hd
        rw [if_pos (by rfl)]
        try dsimp only at hK ⊢
        go_simp
        exact hK.out _ W (Below.refl _ _) rfl
      · obtain rfl := Option.some.inj ho
        have h30 : x 30 = .bool true := hd 30 (by kernel_rfl)
        simp only [h30] at hK ⊢
        have h31 : x 31 = .int .i64 2 := hd 31 (by kernel_rfl)
        simp only [h31] at hK ⊢
        clear hd
        rw [if_pos (by rfl)]
        try dsimp only at hK ⊢
        go_simp
        exact hK.out _ W (Below.refl _ _) rfl
      · obtain rfl := Option.some.inj ho
        have h30 : x 30 = .bool true := hd 30 (by kernel_rfl)
        simp only [h30] at hK ⊢
        have h32 : x 32 = .bool true := hd 32 (by kernel_rfl)
        simp only [h32] at hK ⊢
        clear hd
        rw [if_pos (by rfl)]
        try dsimp only at hK ⊢
        go_simp
        exact hK.out _ W (Below.refl _ _) rfl
      · obtain rfl := Option.some.inj ho
        have h33 : x 33 = .bool true := hd 33 (by kernel_rfl)
        simp only [h33] at hK ⊢
        clear hd
        rw [if_pos (by rfl)]
        try dsimp only at hK ⊢
        go_simp
        exact hK.out _ W (Below.refl _ _) rfl
      · obtain rfl := Option.some.inj ho
        have h34 : x 34 = .bool true := hd 34 (by kernel_rfl)
        simp only [h34] at hK ⊢
        clear hd
        rw [if_pos (by rfl)]
        try dsimp only at hK ⊢
        go_simp
        exact hK.out _ W (Below.refl _ _) rfl
      · obtain rfl := Option.some.inj ho
        have h34 : x 34 = .bool true := hd 34 (by kernel_rfl)
        simp only [h34] at hK ⊢
        have h35 : x 35 = .int .i64 0 := hd 35 (by kernel_rfl)
        simp only [h35] at hK ⊢
        clear hd
        rw [if_pos (by rfl)]
        try dsimp only at hK ⊢
        go_simp
        exact hK.out _ W (Below.refl _ _) rfl
      · obtain rfl := Option.some.inj ho
        have h34 : x 34 = .bool true := hd 34 (by kernel_rfl)
        simp only [h34] at hK ⊢
        have h36 : x 36 = .bool true := hd 36 (by kernel_rfl)
        simp only [h36] at hK ⊢
        clear hd
        rw [if_pos (by rfl)]
        try dsimp only at hK ⊢
        go_simp
        exact hK.out _ W (Below.refl _ _) rfl
      · obtain rfl := Option.some.inj ho
        have h37 : x 37 = .bool true := hd 37 (by kernel_rfl)
        simp only [h37] at hK ⊢
        clear hd
        rw [if_pos (by rfl)]
        try dsimp only at hK ⊢
        go_simp
        exact hK.out _ W (Below.refl _ _) rfl
      · obtain rfl := Option.some.inj ho
        have h38 : x 38 = .bool true := hd 38 (by kernel_rfl)
        simp only [h38] at hK ⊢
        clear hd
        rw [if_pos (by rfl)]
        try dsimp only at hK ⊢
        go_simp
        exact hK.out _ W (Below.refl _ _) rfl
      · obtain rfl := Option.some.inj ho
        have h38 : x 38 = .bool true := hd 38 (by kernel_rfl)
        simp only [h38] at hK ⊢
        have h39 : x 39 = .int .i64 7 := hd 39 (by kernel_rfl)
        simp only [h39] at hK ⊢
        clear hd
        rw [if_pos (by rfl)]
        try dsimp only at hK ⊢
        go_simp
        exact hK.out _ W (Below.refl _ _) rfl
      · obtain rfl := Option.some.inj ho
        have h38 : x 38 = .bool true := hd 38 (by kernel_rfl)
        simp only [h38] at hK ⊢
        have h40 : x 40 = .bool true := hd 40 (by kernel_rfl)
        simp only [h40] at hK ⊢
        clear hd
        rw [if_pos (by rfl)]
        try dsimp only at hK ⊢
        go_simp
        exact hK.out _ W (Below.refl _ _) rfl
      · obtain rfl := Option.some.inj ho
        have h41 : x 41 = .bool true := hd 41 (by kernel_rfl)
        simp only [h41] at hK ⊢
        clear hd
        rw [if_pos (by rfl)]
        try dsimp only at hK ⊢
        go_simp
        exact hK.out _ W (Below.refl _ _) rfl
      · obtain rfl := Option.some.inj ho
        have h42 : x 42 = .bool true := hd 42 (by kernel_rfl)
        simp only [h42] at hK ⊢
        clear hd
        rw [if_pos (by rfl)]
        try dsimp only at hK ⊢
        go_simp
        (go_at_call 34; refine (pNum_any (1) W).mono ?_; rintro e W1 ⟨rfl, hb1⟩; exact hK.out _ W1 hb1 rfl)
      · obtain rfl := Option.some.inj ho
        have h42 : x 42 = .bool true := hd 42 (by kernel_rfl)
        simp only [h42] at hK ⊢
        obtain ⟨k0, k1, k2, k3, k4, k5, k6⟩ := HT.out W hb
        clear hd
        rw [if_pos (by rfl)]
        try dsimp only at hK ⊢
        go_simp
        exact hK.out _ W (Below.refl _ _) rfl
      · obtain rfl := Option.some.inj ho
        have h42 : x 42 = .bool true := hd 42 (by kernel_rfl)
        simp only [h42] at hK ⊢
        have h43 : x 43 = .agg #[.int .i64 1, .int .i64 0, .int .i64 1, .int .i64 (1), .string ⟨#[]⟩, .string ⟨#[]⟩, .slice none 0 0] := hd 43 (by kernel_rfl)
        simp only [h43] at hK ⊢
        have h44 : x 44 = .agg #[.int .i64 1, .int .i64 0, .int .i64 2, .int .i64 0, .string ⟨#[97]⟩, .string ⟨#[]⟩, .slice none 0 0] := hd 44 (by kernel_rfl)
        simp only [h44] at hK ⊢
        clear hd
        rw [if_pos (by rfl)]
        try dsimp only at hK ⊢
        go_simp
        (go_at_call 33; refine (pTwo_any 13 1 (numE 1) (txaE) _ _ W (isE_lf rfl rfl W) (isE_lf rfl rfl W)).mono ?_; rintro e W1 ⟨u, rfl, hu, hb1⟩; exact hK.out _ W1 hb1 hu)
      · obtain rfl := Option.some.inj ho
        have h42 : x 42 = .bool true := hd 42 (by kernel_rfl)
        simp only [h42] at hK ⊢
        have h45 : IsE 2 (twoE 13 (numE 1) (txaE)) (x 45) W := hd 45 (by kernel_rfl)
        obtain ⟨A45, c45, e45, q45⟩ := h45
        unfold exV at e45
        simp only [e45] at hK ⊢
        replace q45 := Lib.hid q45
        clear e45
        clear hd
        rw [if_pos (by rfl)]
        try dsimp only at hK ⊢
        go_simp
        (go_at_call 12; refine (pEval_any _ [] 2 (twoE 13 (numE 1) (txaE)) _ _ W 0 0 q45.out (rdV_nl W)).mono ?_; rintro e W1 ⟨rfl, hb1⟩; exact hK.out _ W1 hb1 (by rw [ex_e3]; rfl))
      · obtain rfl := Option.some.inj ho
        have h42 : x 42 = .bool true := hd 42 (by kernel_rfl)
        simp only [h42] at hK ⊢
        clear hd
        rw [if_pos (by rfl)]
        try dsimp only at hK ⊢
        go_simp
        exact hK.out _ W (Below.refl _ _) rfl
      · obtain rfl := Option.some.inj ho
        have h42 : x 42 = .bool true := hd 42 (by kernel_rfl)
        simp only [h42] at hK ⊢
        have h47 : x 47 = .pointer (some ⟨w.heap.size, 2, none⟩) := hd 47 (by kernel_rfl)
        simp only [h47] at hK ⊢
        obtain ⟨k0, k1, k2, k3, k4, k5, k6⟩ := HN.out W hb
        clear hd
        rw [if_pos (by rfl)]
        try dsimp only at hK ⊢
        go_simp
        exact hK.out _ W (Below.refl _ _) rfl
      · obtain rfl := Option.some.inj ho
        have h42 : x 42 = .bool true := hd 42 (by kernel_rfl)
        simp only [h42] at hK ⊢
        have h46 : x 46 = .agg #[.int .i64 0, .int .i64 0, .string ⟨#[]⟩] := hd 46 (by kernel_rfl)
        simp only [h46] at hK ⊢
        have h48 : x 48 = .agg #[.int .i64 0, .int .i64 0, .string ⟨#[]⟩] := hd 48 (by kernel_rfl)
        simp only [h48] at hK ⊢
        have q := fun W => ex_eqv 0 (0) W
        clear hd
        rw [if_pos (by rfl)]
        try dsimp only at hK ⊢
        go_simp
        exact hK.out _ W (Below.refl _ _) rfl
      · obtain rfl := Option.some.inj ho
        have h42 : x 42 = .bool true := hd 42 (by kernel_rfl)
        simp only [h42] at hK ⊢
        have h49 : x 49 = .bool true := hd 49 (by kernel_rfl)
        simp only [h49] at hK ⊢
        clear hd
        rw [if_pos (by rfl)]
        try dsimp only at hK ⊢
        go_simp
        exact hK.out _ W (Below.refl _ _) rfl
      · obtain rfl := Option.some.inj ho
        have h50 : x 50 = .bool true := hd 50 (by kernel_rfl)
        simp only [h50] at hK ⊢
        clear hd
        rw [if_pos (by rfl)]
        try dsimp only at hK ⊢
        go_simp
        exact hK.out _ W (Below.refl _ _) rfl
    · intro x U hb hf
      have h51 : x 51 = .bool true := hf 51 (by decide)
      have BU := Lib.hid (HB5.out.trans (hb.mono HB5.out.size))
      clear hf hb
      try dsimp only
      rw [h51]
      clear h51
      generalize x 0 = t0
      generalize x 1 = t1
      generalize x 2 = t2
      generalize x 3 = t3
      generalize x 4 = t4
      generalize x 5 = t5
      generalize x 6 = t6
      generalize x 7 = t7
      generalize x 8 = t8
      generalize x 9 = t9
      generalize x 10 = t10
      generalize x 11 = t11
      generalize x 12 = t12
      generalize x 13 = t13
      generalize x 14 = t14
      generalize x 15 = t15
      generalize x 16 = t16
      generalize x 17 = t17
      generalize x 18 = t18
      generalize x 19 = t19
      generalize x 20 = t20
      generalize x 21 = t21
      generalize x 22 = t22
      generalize x 23 = t23
      generalize x 24 = t24
      generalize x 25 = t25
      generalize x 26 = t26
      generalize x 27 = t27
      generalize x 28 = t28
      generalize x 29 = t29
      generalize x 30 = t30
      generalize x 31 = t31
      generalize x 32 = t32
      generalize x 33 = t33
      generalize x 34 = t34
      generalize x 35 = t35
      generalize x 36 = t36
      generalize x 37 = t37
      generalize x 38 = t38
      generalize x 39 = t39
      generalize x 40 = t40
      generalize x 41 = t41
      generalize x 42 = t42
      generalize x 43 = t43
      generalize x 44 = t44
      generalize x 45 = t45
      generalize x 46 = t46
      generalize x 47 = t47
      generalize x 48 = t48
      generalize x 49 = t49
      generalize x 50 = t50
      clear x
      go_wp2
      go_ret
      exact ⟨rfl, BU.out⟩
end Go.Proofs.Ytpiadcfejbnonaa
