/-
  The walk of the statement CodecRows. Conditions: lengths.
-/
import Derived.Test.YtomiegfblhhhpaaCoRa
import Derived.Test.YtomiegfblhhhpaaCoEq
import Derived.WalkKit
import Derived.WalkSpells
import Derived.WalkLawsBesides
import Derived.Deep.QuietTactic
import Derived.BigQuiet
import Derived.Handy
import Derived.Lib.Hide
namespace Go.Proofs.Ytomiegfblhhhpaa
open Go.RowKit

theorem encR_len (ps : List Vl) (h : okL ps = true) (hp : ps.length ≤ 140737488355100) : (encR ps).length ≤ 10 + szL ps := by
  unfold encR
  have h1 := encs_len ps h
  have h2 := vint_len10 (zig_lt (show I64 (ps.length : Int) from ⟨by omega, by omega⟩))
  rw [List.length_append]; omega
set_option maxRecDepth 100000 in
set_option maxHeartbeats 12800000 in
theorem law_rows (v u : Value) (l : List UInt8) (ps : List Vl) (i : Int) (w : World) (L L2 : Nat) (hv : RdB w L w.heap.size v l) (hvn : ∀ n c, v = .slice none n c → c = 0) (hu : RdV w L2 w.heap.size u ps) (hl : l.length + szL ps ≤ 140737488355000) (hpl : ps.length ≤ 140737488355000) :
    Calls Try.prog 6 #[v, u, .int .i64 i] w fun e w' => e = .returned (.bool true) ∧ Below w.heap.size w w' := by
  have HVR := Lib.hid (fun W (h : Below w.heap.size w W) => validRow_any u ps W L2 (hu.step h (Nat.le_refl _)))
  have H1 := Lib.hid (pRow_any v l i w L hv)
  have H2 := Lib.hid (fun W (h : Below w.heap.size w W) => rRow_any v l i W L (hv.step h (Nat.le_refl _)))
  have hPQ : okL ps = true → (∀ W (h : Below w.heap.size w W), Calls Try.prog 30 #[v, u] W (RetB W.heap.size W (l ++ encR ps))) ∧ (∀ W (h : Below w.heap.size w W), Calls Try.prog 31 #[v, u] W (RetB W.heap.size W (l ++ encR ps))) ∧ (l ++ encR ps).length ≤ 9223372036854775807 := fun hok =>
    ⟨fun W h => pPutRow_any v u l ps hok W L L2 (hv.step h (Nat.le_refl _)) (hu.step h (Nat.le_refl _)) (by omega) (by omega), fun W h => rPutRow_any v u l ps hok W L L2 (hv.step h (Nat.le_refl _)) hvn (hu.step h (Nat.le_refl _)) (by omega) (by omega), by have := encR_len ps hok (by omega); rw [List.length_append]; omega⟩
  obtain ⟨A, c, rfl, _⟩ := hv
  obtain ⟨A2, c2, rfl, _⟩ := hu
  generalize hXX : rowF l i = X at *
  clear hXX
  obtain ⟨e0, qs, k⟩ := X
  generalize l ++ encR ps = R at *
  have HPQ := Lib.hid hPQ
  clear hvn hl hPQ
  unfold RetW at H1 H2
  dsimp only at H1 H2
  go_enter Try.func6, Try.ntmps6
  go_wp2_with fail
  with_reducible refine H1.out.mono ?_
  rintro e w1 ⟨u1, rfl, r1, b1⟩
  clear H1
  have h2 := H2.out w1 b1
  have R1 := Lib.hid r1
  clear r1
  go_wp2_with fail
  with_reducible refine h2.mono ?_
  rintro e w2 ⟨u2, rfl, r2, hb2⟩
  have B2 := b1.trans (hb2.mono b1.size)
  have h3 := rows_any u1 u2 qs w2 _ _ (R1.out.step hb2 (Nat.le_refl _)) r2
  clear h2 H2 r2
  go_wp2_with fail
  with_reducible refine h3.mono ?_
  rintro e w3 ⟨rfl, hb3⟩
  have B3 := B2.trans (hb3.mono B2.size)
  have h4 := HVR.out w3 B3
  clear h3
  cases hok : (okL ps && decide (ps.length ≤ 12))
  · rw [hok] at h4
    clear hok HPQ
    go_wp2_with fail
    with_reducible refine h4.mono ?_
    rintro e w4 ⟨rfl, hb4⟩
    have B4 := B3.trans (hb4.mono B3.size)
    have hwk := works_any w4
    clear h4
    go_wp2_with fail
    with_reducible refine hwk.mono ?_
    rintro e w5 ⟨rfl, hb5⟩
    go_wp2_with fail
    go_ret
    exact ⟨rfl, B4.trans (hb5.mono B4.size)⟩
  · rw [hok] at h4
    simp only [Bool.and_eq_true] at hok
    obtain ⟨hP, hQ, hvl⟩ := HPQ.out hok.1
    have HP := Lib.hid hP
    have HQ := Lib.hid hQ
    have HVL := Lib.hid hvl
    clear hok HPQ hP hQ hvl
    go_wp2_with fail
    with_reducible refine h4.mono ?_
    rintro e w4 ⟨rfl, hb4⟩
    have B4 := B3.trans (hb4.mono B3.size)
    have h5 := HP.out w4 B4
    clear h4
    go_wp2_with fail
    with_reducible refine h5.mono ?_
    rintro e w5 ⟨v5, rfl, ho5, hb5⟩
    have B5 := B4.trans (hb5.mono B4.size)
    have h6 := HQ.out w5 B5
    have R5 := Lib.hid (RdB.of_own ho5 HVL.out)
    clear h5 ho5
    go_wp2_with fail
    with_reducible refine h6.mono ?_
    rintro e w6 ⟨v6, rfl, ho6, hb6⟩
    have B6 := B5.trans (hb6.mono B5.size)
    have heq := equal_any v5 v6 R w6 _ _ _ _ (R5.out.step hb6 (Nat.le_refl _)) (RdB.of_own ho6 HVL.out)
    clear h6 ho6
    go_wp2_with fail
    with_reducible refine heq.mono ?_
    rintro e w7 ⟨rfl, rfl⟩
    clear heq
    have hwk := works_any w7
    go_wp2_with fail
    with_reducible refine hwk.mono ?_
    rintro e w8 ⟨rfl, hb8⟩
    go_wp2_with fail
    go_ret
    exact ⟨rfl, B6.trans (hb8.mono B6.size)⟩
end Go.Proofs.Ytomiegfblhhhpaa
