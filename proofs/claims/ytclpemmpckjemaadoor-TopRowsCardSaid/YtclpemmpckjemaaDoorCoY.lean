/-
  Key over a row of numbers and texts: what it answers. Conditions: lengths, numbers of 64 bits.
-/
import Derived.Test.YtclpemmpckjemaaDoorCo9
import Derived.Outline
import Derived.WalkKit
import Derived.WalkSpells
import Derived.WalkLawsBesides
import Derived.Deep.QuietTactic
import Derived.BigQuiet
import Derived.Handy
import Derived.Lib.Hide
namespace Go.Proofs.YtclpemmpckjemaaDoor
open Go.RowKit

/-- A row of values: three cells each. -/
def RdV (w : World) (L B : Nat) (v : Value) (ps : List Vl) : Prop :=
  ∃ A c, v = .slice A ps.length c ∧ ps.length ≤ 9223372036854775807 ∧ ∀ (k : Nat) (p : Vl), ps[k]? = some p → ∃ ad : Addr, A = some ad ∧ L ≤ ad.block ∧ ad.block < B ∧
    w.cell? (ad.add (k * 3)) = some (.int .i64 p.1) ∧ w.cell? ⟨(ad.add (k * 3)).block, (ad.add (k * 3)).off + 1, none⟩ = some (.int .i64 p.2.1) ∧ w.cell? ⟨(ad.add (k * 3)).block, (ad.add (k * 3)).off + 2, none⟩ = some (.string p.2.2)
def keyL (ps : List Vl) : List UInt8 := (ps.map keyV).flatten
theorem keyL_succ (ps : List Vl) (k : Nat) (h : k < ps.length) : keyL (ps.take (k + 1)) = keyL (ps.take k) ++ keyV ps[k] := by
  unfold keyL
  rw [List.take_succ_eq_append_getElem h, List.map_append, List.flatten_append]
  simp
set_option maxRecDepth 100000 in
set_option maxHeartbeats 3200000 in
theorem Key_any (v : Value) (ps : List Vl) (w : World) (L : Nat) (hv : RdV w L w.heap.size v ps)
    (hK : ∀ (k : Nat) (p : Vl) (u : Value) (W : World), ps[k]? = some p → W.ownsRow w.heap.size 5 1 u (keyL (ps.take k)).length (bytV (keyL (ps.take k))) → w.heap.size ≤ W.heap.size → Calls Tryd.prog 15 #[u, valV p] W (RetB w.heap.size W (keyL (ps.take (k + 1))))) :
    Calls Tryd.prog 5 #[v] w (RetB w.heap.size w (keyL ps)) := by
  obtain ⟨A, c, rfl, hl, hc⟩ := hv
  have HC := Lib.hid hc
  have HK := Lib.hid hK
  clear hc hK
  go_enter Tryd.func5, Tryd.ntmps5
  go_wp2
  go_loopw [3, 8] (fun key i wr => ∃ k : Nat, k ≤ ps.length ∧ i = .int .i64 k ∧ Hid (wr.ownsRow w.heap.size 5 1 key (keyL (ps.take k)).length (bytV (keyL (ps.take k)))) ∧ Below w.heap.size w wr) (fun _ i _ => ps.length - (intOf i).toNat)
  case atStart => exact ⟨0, Nat.zero_le _, rfl, Lib.hid (World.ownsRow_nil w _ _ 1), Below.refl _ _⟩
  case round =>
    obtain ⟨k, hk, rfl, HO, hbr⟩ := hrel
    have hbz := hbr.size
    by_cases hlt : k < ps.length
    · have hki : (k : Int) < ps.length := by omega
      obtain ⟨ad, rfl, _, hab, c0, c1, c2⟩ := HC.out k _ (List.getElem?_eq_getElem hlt)
      have d0 := (hbr.cell (p := ad.add (k * 3)) (by rw [add_block]; exact hab)).trans c0
      have d1 := (hbr.cell (p := ⟨(ad.add (k * 3)).block, (ad.add (k * 3)).off + 1, none⟩) (by show (ad.add (k * 3)).block < _; rw [add_block]; exact hab)).trans c1
      have d2 := (hbr.cell (p := ⟨(ad.add (k * 3)).block, (ad.add (k * 3)).off + 2, none⟩) (by show (ad.add (k * 3)).block < _; rw [add_block]; exact hab)).trans c2
      have hkk := fun o => HK.out k _ _ (wr.alloc o) (List.getElem?_eq_getElem hlt) (own_below HO.out (bel_mark wr o)) (Nat.le_trans hbz (bel_mark wr o).size)
      unfold valV at hkk
      generalize ps[k] = p at *
      obtain ⟨kd, n, s⟩ := p
      dsimp only at d0 d1 d2 hkk
      have HKK := Lib.hid hkk
      clear c0 c1 c2 hkk
      go_wp2_with fail
      with_reducible refine (HKK.out _).mono ?_
      clear HKK
      rintro e w1 ⟨v1, rfl, ho1, hb1⟩
      go_wp2_with fail
      go_round
      case rel => exact ⟨k + 1, by omega, by go_num, Lib.hid ho1, (hbr.trans ((bel_mark wr _).mono hbz)).trans hb1⟩
      case measure => simp [intOf]; omega
    · have hki : ¬ (k : Int) < ps.length := by omega
      rw [List.take_of_length_le (by omega)] at HO
      go_wp2
      go_ret
      exact ⟨_, rfl, HO.out, hbr⟩
end Go.Proofs.YtclpemmpckjemaaDoor
