import Derived.Test.YtimmfckkgdlokaaDoorMW
import Derived.Test.YtimmfckkgdlokaaDoorMT
import Derived.WalkKit
import Derived.WalkSpells
import Derived.WalkLawsBesides
import Derived.Deep.QuietTactic
import Derived.BigQuiet
import Derived.Handy
import Derived.Lib.Hide
/-
  The walks of the statements TupleFits, TupleCompares, TupleTexts. Conditions: the tables lie as the rows say; lengths.
-/
namespace Go.Proofs.YtimmfckkgdlokaaDoor
set_option maxRecDepth 100000
open Go.RowKit

set_option maxRecDepth 100000 in
set_option maxHeartbeats 3200000 in
theorem law_fits (u v : Value) (ps : List Vl) (zs : List Int) (w : World) (L L2 : Nat) (hE : Va.Env w) (hu : RdV w L w.heap.size u ps) (hv : RdI w L2 w.heap.size v zs) :
    Calls Tryd.prog 3 #[u, v] w fun e w' => e = .returned (.bool true) ∧ Below w.heap.size w w' := by
  have h1 := pFits_any u v ps zs w L L2 hu hv
  have H2 := Lib.hid (fun W (h : Below w.heap.size w W) => rFits_any u v ps zs W L L2 (hu.step h (Nat.le_refl _)) (hv.step h (Nat.le_refl _)))
  have H3 := Lib.hid (fun W (h : Below w.heap.size w W) => awake_any W (hE.step h))
  obtain ⟨A, c, rfl, q1⟩ := hu
  obtain ⟨A2, c2, rfl, q2⟩ := hv
  clear q1 q2 hE
  generalize fitsF ps zs = b at *
  go_enter Tryd.func3, Tryd.ntmps3
  go_wp2_with fail
  with_reducible refine h1.mono ?_
  rintro e w1 ⟨rfl, hb1⟩
  have h2 := H2.out w1 hb1
  clear h1 H2
  have e1 : (b == b) = true := by simp
  go_wp2_with fail
  with_reducible refine h2.mono ?_
  rintro e w2 ⟨rfl, hb2⟩
  have B2 := hb1.trans (hb2.mono hb1.size)
  have h3 := H3.out w2 B2
  clear h2 H3
  go_wp2_with fail
  with_reducible refine h3.mono ?_
  rintro e w3 ⟨rfl, hb3⟩
  have B3 := B2.trans (hb3.mono B2.size)
  go_wp2
  go_ret
  exact ⟨rfl, B3⟩
set_option maxRecDepth 100000 in
set_option maxHeartbeats 3200000 in
theorem law_tcompares (u v : Value) (ps qs : List Vl) (w : World) (L L2 : Nat) (hE : Va.Env w) (hu : RdV w L w.heap.size u ps) (hv : RdV w L2 w.heap.size v qs) :
    Calls Tryd.prog 4 #[u, v] w fun e w' => e = .returned (.bool true) ∧ Below w.heap.size w w' := by
  have h1 := tupleCompare_any u v ps qs w L L2 hu hv
  have H2 := Lib.hid (fun W (h : Below w.heap.size w W) => rCompare8_any u v ps qs W L L2 (hu.step h (Nat.le_refl _)) (hv.step h (Nat.le_refl _)))
  have H3 := Lib.hid (fun W (h : Below w.heap.size w W) => pEqual_any u v ps qs W L L2 (hu.step h (Nat.le_refl _)) (hv.step h (Nat.le_refl _)))
  have H4 := Lib.hid (fun W (h : Below w.heap.size w W) => equal8_any u v ps qs W L L2 (hu.step h (Nat.le_refl _)) (hv.step h (Nat.le_refl _)))
  have H5 := Lib.hid (fun W (h : Below w.heap.size w W) => awake_any W (hE.step h))
  obtain ⟨A, c, rfl, q1⟩ := hu
  obtain ⟨A2, c2, rfl, q2⟩ := hv
  clear q1 q2 hE
  generalize (cmpR ps qs == 0) = b at *
  generalize cmpR ps qs = d at *
  have e1 : (b == b) = true := by simp
  go_enter Tryd.func4, Tryd.ntmps4
  go_wp2_with fail
  with_reducible refine h1.mono ?_
  rintro e w1 ⟨rfl, hb1⟩
  have h2 := H2.out w1 hb1
  clear h1 H2
  go_wp2_with fail
  with_reducible refine h2.mono ?_
  rintro e w2 ⟨rfl, hb2⟩
  have B2 := hb1.trans (hb2.mono hb1.size)
  have h3 := H3.out w2 B2
  clear h2 H3
  go_wp2_with fail
  with_reducible refine h3.mono ?_
  rintro e w3 ⟨rfl, hb3⟩
  have B3 := B2.trans (hb3.mono B2.size)
  have h4 := H4.out w3 B3
  clear h3 H4
  go_wp2_with fail
  with_reducible refine h4.mono ?_
  rintro e w4 ⟨rfl, hb4⟩
  have B4 := B3.trans (hb4.mono B3.size)
  have h5 := H5.out w4 B4
  clear h4 H5
  go_wp2_with fail
  with_reducible refine h5.mono ?_
  rintro e w5 ⟨rfl, hb5⟩
  have B5 := B4.trans (hb5.mono B4.size)
  go_wp2
  go_ret
  exact ⟨rfl, B5⟩
set_option maxRecDepth 100000 in
set_option maxHeartbeats 3200000 in
theorem law_texts (v : Value) (ps : List Vl) (w : World) (L : Nat) (hE : Va.Env w) (hv : RdV w L w.heap.size v ps) (hs : ∀ p ∈ ps, p.2.2.size ≤ 9223372036854775807) (hlen : ps.length ≤ 1048576) :
    Calls Tryd.prog 6 #[v] w fun e w' => e = .returned (.bool true) ∧ Below w.heap.size w w' := by
  have H1 := Lib.hid (fun W (h : Below w.heap.size w W) => pTextR_any v ps W L (hv.step h (Nat.le_refl _)) (hE.step h) (by omega))
  have H2 := Lib.hid (fun W (h : Below w.heap.size w W) => rTextR_any v ps W L (hv.step h (Nat.le_refl _)) (by omega))
  have H5 := Lib.hid (fun W (h : Below w.heap.size w W) => awake_any W (hE.step h))
  obtain ⟨A, c, rfl, hl1, hc1⟩ := hv
  have HC := Lib.hid hc1
  have HS := Lib.hid hs
  clear hc1 hE hs
  go_enter Tryd.func6, Tryd.ntmps6
  go_wp2
  go_loopw [3, 7] (fun n i wr => ∃ (k m : Nat), k ≤ ps.length ∧ i = .int .i64 k ∧ n = .int .i64 m ∧ m ≤ 10000 * k ∧ Below w.heap.size w wr) (fun _ i _ => ps.length - (intOf i).toNat)
  case atStart => exact ⟨0, 0, Nat.zero_le _, rfl, rfl, by omega, Below.refl _ _⟩
  case round =>
    obtain ⟨k, m, hk, rfl, rfl, hm, hbr⟩ := hrel
    have hbz := hbr.size
    by_cases hlt : k < ps.length
    · have hlti : (k : Int) < ps.length := by omega
      obtain ⟨ad, rfl, _, hab, c0, c1, c2⟩ := HC.out k _ (List.getElem?_eq_getElem hlt)
      have d2 := (hbr.cell (p := ⟨(ad.add (k * 3)).block, (ad.add (k * 3)).off + 2, none⟩) (by show (ad.add (k * 3)).block < _; rw [add_block]; exact hab)).trans c2
      have hsz := HS.out _ (List.getElem_mem hlt)
      generalize ps[k] = p at *
      obtain ⟨kd, n, s⟩ := p
      dsimp only at d2 hsz
      clear c0 c1 c2
      by_cases hm2 : s.size ≤ 10000
      · have hmi : (s.size : Int) ≤ 10000 := by omega
        have hmn : min (s.size : Int) 10000 = s.size := by omega
        go_wp2
        go_roundw
        case rel => exact ⟨k + 1, m + s.size, by omega, by go_num, by go_num, by omega, hbr⟩
        case measure => simp [intOf]; omega
      · have hmi : ¬ (s.size : Int) ≤ 10000 := by omega
        have hmn : min (s.size : Int) 10000 = 10000 := by omega
        go_wp2
        go_roundw
        case rel => exact ⟨k + 1, m + 10000, by omega, by go_num, by go_num, by omega, hbr⟩
        case measure => simp [intOf]; omega
    · have hki : ¬ (k : Int) < ps.length := by omega
      by_cases h2 : (m : Int) > 2000
      · have h5 := H5.out wr hbr
        clear H1 H2 H5
        go_wp2_with fail
        with_reducible refine h5.mono ?_
        rintro e w5 ⟨rfl, hb5⟩
        go_wp2
        go_ret
        exact ⟨rfl, hbr.trans (hb5.mono hbz)⟩
      · have h1 := H1.out wr hbr
        generalize (textL ps) = tl at *
        have e1 : ((ByteArray.mk tl.toArray).toList == (ByteArray.mk tl.toArray).toList) = true := by simp
        go_wp2_with fail
        with_reducible refine h1.mono ?_
        rintro e w1 ⟨rfl, hb1⟩
        have B1 := hbr.trans (hb1.mono hbz)
        have h2' := H2.out w1 B1
        clear h1 H1 H2
        go_wp2_with fail
        with_reducible refine h2'.mono ?_
        rintro e w2 ⟨rfl, hb2⟩
        have B2 := B1.trans (hb2.mono B1.size)
        have h5 := H5.out w2 B2
        clear h2' H5
        go_wp2_with fail
        with_reducible refine h5.mono ?_
        rintro e w5 ⟨rfl, hb5⟩
        go_wp2
        go_ret
        exact ⟨rfl, B2.trans (hb5.mono B2.size)⟩
end Go.Proofs.YtimmfckkgdlokaaDoor
