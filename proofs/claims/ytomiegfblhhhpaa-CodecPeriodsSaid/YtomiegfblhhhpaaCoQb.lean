/-
  The walk of the statement CodecPeriods. Conditions: lengths, numbers of 64 bits.
-/
import Derived.Test.YtomiegfblhhhpaaCoQa
import Derived.Test.YtomiegfblhhhpaaCoPp
import Derived.Test.YtomiegfblhhhpaaCoPq
import Derived.Test.YtomiegfblhhhpaaCoEq
import Derived.Deep.RegionHeld3
import Derived.WalkKit
import Derived.WalkSpells
import Derived.WalkLawsBesides
import Derived.Deep.QuietTactic
import Derived.BigQuiet
import Derived.Handy
import Derived.Lib.Hide
namespace Go.Proofs.Ytomiegfblhhhpaa
open Go.RowKit

set_option maxRecDepth 100000 in
set_option maxHeartbeats 6400000 in
theorem law_periods (v : Value) (l : List UInt8) (a b i : Int) (w : World) (L : Nat) (hv : RdB w L w.heap.size v l) (hvn : ∀ n c, v = .slice none n c → c = 0) (ha : I64 a) (hb : I64 b) (hl : l.length ≤ 140737488355280) :
    Calls Try.prog 7 #[v, .agg #[.int .i64 a, .int .i64 b], .int .i64 i] w fun e w' => e = .returned (.bool true) ∧ Below w.heap.size w w' := by
  have HP := Lib.hid (fun W (h : Below w.heap.size w W) => PutPeriod_any v l a b ha hb W L (hv.step h (Nat.le_refl _)) (by omega))
  have HQ := Lib.hid (fun W (h : Below w.heap.size w W) => rPutPeriod_any v l a b ha hb W L (hv.step h (Nat.le_refl _)) hvn (by omega))
  have H1 := Lib.hid (fun W (h : Below w.heap.size w W) => pPeriod_any v l i W L (hv.step h (Nat.le_refl _)))
  have H2 := Lib.hid (fun W (h : Below w.heap.size w W) => rPeriod_any v l i W L (hv.step h (Nat.le_refl _)))
  have hvl : (l ++ perB a b).length ≤ 9223372036854775807 := by unfold perB; have h1 := vint_len10 (zig_lt ha); have h2 := vint_len10 (zig_lt hb); simp only [List.length_append]; omega
  have HVL := Lib.hid hvl
  obtain ⟨A, c, rfl, _⟩ := hv
  generalize hXX : perF l i = X at *
  clear hXX
  obtain ⟨e, f, t, k⟩ := X
  generalize l ++ perB a b = R at *
  clear hvn ha hb hvl
  unfold perR at H1 H2
  dsimp only at H1 H2
  have oP := Own.new w 49 #[.int .i64 a, .int .i64 b]
  have bW := bel_mark w (.cells #[.int .i64 a, .int .i64 b] 49)
  have sW : (w.alloc (.cells #[.int .i64 a, .int .i64 b] 49)).heap.size = w.heap.size + 1 := by simp
  have h1 := H1.out _ bW
  clear H1
  go_enter Try.func7, Try.ntmps7
  go_wp2_with fail
  generalize w.alloc (.cells #[.int .i64 a, .int .i64 b] 49) = W0 at *
  with_reducible refine h1.mono ?_
  rintro e w1 ⟨rfl, b1⟩
  have B1 := bW.trans (b1.mono bW.size)
  have p1 := (oP.below b1 (by omega)).alloc (.cells #[.int .i64 f, .int .i64 t] 49)
  have q1 := Own.new w1 49 #[.int .i64 f, .int .i64 t]
  have b2 := bel_mark w1 (.cells #[.int .i64 f, .int .i64 t] 49)
  have B2 := B1.trans (b2.mono B1.size)
  have z1 := b1.size
  have s2 : (w1.alloc (.cells #[.int .i64 f, .int .i64 t] 49)).heap.size = w1.heap.size + 1 := by simp
  have h2 := H2.out _ B2
  clear h1 H2 oP
  go_wp2_with fail
  generalize w1.alloc (.cells #[.int .i64 f, .int .i64 t] 49) = W1 at *
  with_reducible refine h2.mono ?_
  rintro e w2 ⟨rfl, b3⟩
  have B3 := B2.trans (b3.mono B2.size)
  have z3 := b3.size
  have p2 := (p1.below b3 (by omega)).alloc (.cells #[.int .i64 f, .int .i64 t] 49)
  have q2 := (q1.below b3 (by omega)).alloc (.cells #[.int .i64 f, .int .i64 t] 49)
  have r2 := Own.new w2 49 #[.int .i64 f, .int .i64 t]
  have b4 := bel_mark w2 (.cells #[.int .i64 f, .int .i64 t] 49)
  have B4 := B3.trans (b4.mono B3.size)
  have s4 : (w2.alloc (.cells #[.int .i64 f, .int .i64 t] 49)).heap.size = w2.heap.size + 1 := by simp
  clear h2 p1 q1
  go_wp2_with fail
  generalize w2.alloc (.cells #[.int .i64 f, .int .i64 t] 49) = W2 at *
  have B5 : Below w.heap.size w W2.drew := B4.drew
  have HS : ∀ w', Below W2.drew.heap.size W2.drew w' → (Below W2.drew.heap.size W2.drew w' ∧ Below w.heap.size w w' ∧ w'.cell? ⟨w.heap.size, 0, none⟩ = some (.int .i64 a) ∧ w'.cell? ⟨w.heap.size, 1, none⟩ = some (.int .i64 b) ∧ w'.cell? ⟨w1.heap.size, 0, none⟩ = some (.int .i64 f) ∧ w'.cell? ⟨w1.heap.size, 1, none⟩ = some (.int .i64 t) ∧ w'.cell? ⟨w2.heap.size, 0, none⟩ = some (.int .i64 f) ∧ w'.cell? ⟨w2.heap.size, 1, none⟩ = some (.int .i64 t)) := fun w' hb =>
    have hp := (show Own W2.drew _ _ _ from p2).below hb p2.lt
    have hq := (show Own W2.drew _ _ _ from q2).below hb q2.lt
    have hr := (show Own W2.drew _ _ _ from r2).below hb r2.lt
    ⟨hb, B5.trans (hb.mono B5.size), hp.cell 0, hp.cell 1, hq.cell 0, hq.cell 1, hr.cell 0, hr.cell 1⟩
  have HS := Lib.hid HS
  clear p2 q2 r2 B5 B4 b4 B3 b3 B2 b2 B1 b1 bW
  go_region_held3 (fun w' => Below W2.drew.heap.size W2.drew w' ∧ Below w.heap.size w w' ∧ w'.cell? ⟨w.heap.size, 0, none⟩ = some (.int .i64 a) ∧ w'.cell? ⟨w.heap.size, 1, none⟩ = some (.int .i64 b) ∧ w'.cell? ⟨w1.heap.size, 0, none⟩ = some (.int .i64 f) ∧ w'.cell? ⟨w1.heap.size, 1, none⟩ = some (.int .i64 t) ∧ w'.cell? ⟨w2.heap.size, 0, none⟩ = some (.int .i64 f) ∧ w'.cell? ⟨w2.heap.size, 1, none⟩ = some (.int .i64 t))
    (first | (exact HS.out _ (Below.refl _ _)) | (go_split_ands; exact HS.out _ (Below.trans (by assumption) (Below.mono hb (Below.size (by assumption))))))
    ((first
      | (go_at_call 34; go_split_ands; refine (HP.out _ (by assumption)).mono ?_; rintro e w3 ⟨v3, rfl, ho3, hb⟩; have R3 := Lib.hid (RdB.of_own ho3 HVL.out); clear ho3)
      | (go_at_call 35; go_split_ands; refine (HQ.out _ (by assumption)).mono ?_; rintro e w4 ⟨v4, rfl, ho4, hb⟩; have R4 := Lib.hid (RdB.of_own ho4 HVL.out); clear ho4)
      | (go_at_call 13; refine (equal_any v3 v4 R _ _ _ _ _ (R3.out.step hb (Nat.le_refl _)) R4.out).mono ?_; rintro e w5 ⟨rfl, rfl⟩; have hb := Below.refl w5.heap.size w5)
      | (go_at_call 16; refine (works_any _).mono ?_; rintro e w6 ⟨rfl, hb⟩)))
  go_wp2
  go_ret
  go_split_ands
  exact ⟨rfl, by assumption⟩
end Go.Proofs.Ytomiegfblhhhpaa
