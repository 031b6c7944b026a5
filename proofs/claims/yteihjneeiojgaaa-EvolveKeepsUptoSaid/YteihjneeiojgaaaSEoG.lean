import Derived.Test.YteihjneeiojgaaaSEoF
import Derived.WalkKit
import Derived.WalkSpells
import Derived.WalkLawsBesides
import Derived.Deep.QuietTactic
import Derived.BigQuiet
import Derived.Handy
import Derived.Lib.Hide
/-
  move and moveAll of evolve: indices behind a removed column. Conditions: the numbers are no less than 0.
-/
namespace Go.Proofs.Yteihjneeiojgaaa
set_option maxRecDepth 100000
set_option linter.unusedVariables false
set_option linter.unusedSimpArgs false
open Go.RowKit

theorem grownB_tr {w w1 w2 : World} {row : Option Nat} (h : w.grownBy w1 row) (k : w1.grownBy w2 row) : w.grownBy w2 row :=
  ⟨k.os.trans h.os, k.tape.trans h.tape, k.output.trans h.output, Nat.le_trans h.size k.size, fun b h1 h2 => (k.block b (Nat.lt_of_lt_of_le h1 h.size) h2).trans (h.block b h1 h2)⟩
def mvI (r i : Int) : Int := if r < i then i - 1 else i
def mvR (r : Int) (zs : List Int) (k : Nat) : List Int := (zs.take k).map (mvI r) ++ zs.drop k
theorem mvR_len (r : Int) (zs : List Int) (k : Nat) (hk : k ≤ zs.length) : (mvR r zs k).length = zs.length := by
  unfold mvR; rw [List.length_append, List.length_map, List.length_take, List.length_drop]; omega
theorem mvR_get (r : Int) (zs : List Int) (k : Nat) (hk : k < zs.length) : (mvR r zs k)[k]? = some zs[k] := by
  unfold mvR
  rw [List.getElem?_append_right (by rw [List.length_map, List.length_take]; omega), List.length_map, List.length_take, Nat.min_eq_left (by omega), Nat.sub_self, List.getElem?_drop, Nat.add_zero, List.getElem?_eq_getElem hk]
theorem mvR_set (r : Int) (zs : List Int) (k : Nat) (hk : k < zs.length) : (mvR r zs k).set k (mvI r zs[k]) = mvR r zs (k + 1) := by
  unfold mvR
  rw [List.set_append_right _ _ (by rw [List.length_map, List.length_take]; omega), List.length_map, List.length_take, Nat.min_eq_left (by omega), Nat.sub_self, List.drop_eq_getElem_cons hk, List.set_cons_zero, List.take_add_one, List.getElem?_eq_getElem hk, List.map_append, List.append_assoc]
  rfl
theorem mvR_all (r : Int) (zs : List Int) : mvR r zs zs.length = zs.map (mvI r) := by unfold mvR; simp
set_option maxRecDepth 100000 in
set_option maxHeartbeats 6400000 in
theorem move_any (i r : Int) (w : World) (hi : 0 ≤ i ∧ i ≤ 9223372036854775807) : Calls Try.prog 20 #[.int .i64 i, .int .i64 r] w fun e w' => e = .returned (.int .i64 (mvI r i)) ∧ w' = w := by
  by_cases h : r < i
  · have hw : wrap64 (i - 1) = i - 1 := by unfold wrap64; omega
    have HF := Lib.hid (show mvI r i = i - 1 from if_pos h)
    go_enter Try.func20, Try.ntmps20
    go_wp2
    go_ret
    exact ⟨by rw [HF.out]; try rfl, rfl⟩
  · have HF := Lib.hid (show mvI r i = i from if_neg h)
    go_enter Try.func20, Try.ntmps20
    go_wp2
    go_ret
    exact ⟨by rw [HF.out]; try rfl, rfl⟩
def RetMv (w : World) (base : Nat) (v : Value) (zs : List Int) (e : Ending) (w' : World) : Prop := e = .returned (.tuple #[]) ∧ w'.ownsRow base 3 1 v zs.length (zs.flatMap fI) ∧ w.grownBy w' v.ownBlock
set_option maxRecDepth 100000 in
set_option maxHeartbeats 6400000 in
theorem moveAll_any (v : Value) (zs : List Int) (r : Int) (w : World) (base : Nat) (hown : w.ownsRow base 3 1 v zs.length (zs.flatMap fI)) (hz : ∀ z ∈ zs, 0 ≤ z ∧ z ≤ 9223372036854775807) (hl : zs.length ≤ 9223372036854775807) :
    Calls Try.prog 57 #[v, .int .i64 r] w (RetMv w base v (zs.map (mvI r))) := by
  have HZ := Lib.hid hz
  have HO := Lib.hid (show w.ownsRow base 3 1 v zs.length ((mvR r zs 0).flatMap fI) from by unfold mvR; simpa using hown)
  obtain ⟨A, c, ev⟩ := own_len hown
  subst ev
  clear hown hz
  go_enter Try.func57, Try.ntmps57
  go_wp2_with fail
  go_loopw [8] (fun i wr => ∃ k : Nat, k ≤ zs.length ∧ i = .int .i64 k ∧ Hid (wr.ownsRow base 3 1 (.slice A zs.length c) zs.length ((mvR r zs k).flatMap fI)) ∧ Hid (w.grownBy wr (Value.ownBlock (.slice A zs.length c)))) (fun i _ => zs.length - (intOf i).toNat)
  case atStart => exact ⟨0, Nat.zero_le _, rfl, HO, Lib.hid ⟨rfl, rfl, rfl, Nat.le_refl _, fun _ _ _ => rfl⟩⟩
  case round =>
    clear HO
    obtain ⟨k, hk, rfl, HO, HG⟩ := hrel
    by_cases hlt : k < zs.length
    · have hki : (k : Int) < zs.length := by omega
      obtain ⟨g, hA, hbg⟩ : ∃ g, A = some (⟨g, 0, none⟩ : Addr) ∧ base ≤ g := by
        rcases own_row HO.out with ⟨_, h6⟩ | ⟨g, c', h5, h6, _⟩
        · omega
        · injection h5 with h5; exact ⟨g, h5, h6⟩
      subst hA
      have hcl := World.ownsRow.cells HO.out (g := g) rfl
      have hge := mvR_get r zs k hlt
      have hg0 := fm_get fI_len (mvR r zs k) k _ hge 0 (by decide)
      rw [Nat.mul_one, Nat.add_zero] at hg0
      have e0 := hcl k _ (by rw [hg0]; rfl)
      rw [addX] at e0
      have f0 := World.ownsRow.frozenAt HO.out k
      have hst := World.ownsRow.stored HO.out k (.int .i64 (mvI r zs[k]))
      have hms := fm_set fI_len 0 (.int .i64 (mvI r zs[k])) (by decide) (mvR r zs k) k _ (mvI r zs[k]) hge rfl
      rw [Nat.mul_one, Nat.add_zero, mvR_set r zs k hlt] at hms
      rw [hms] at hst
      have HM := Lib.hid (fun W => move_any zs[k] r W (HZ.out _ (List.getElem_mem hlt)))
      have HST := Lib.hid hst
      have HG2 := Lib.hid (show w.grownBy (wr.setCell ⟨g, k, none⟩ (.int .i64 (mvI r zs[k]))) (some g) from grownB_tr HG.out hst.2)
      generalize mvI r zs[k] = y at *
      generalize zs[k] = x at *
      clear hcl hge hg0 hst hms
      go_wp2_with fail
      with_reducible refine (HM.out _).mono ?_
      rintro e w2 ⟨rfl, rfl⟩
      go_wp2
      go_roundw
      case rel => exact ⟨k + 1, by omega, by go_num, HST.out.1, HG2⟩
      case measure => simp [intOf]; omega
    · have hki : ¬ (k : Int) < zs.length := by omega
      have hkq : k = zs.length := by omega
      have HF := Lib.hid (show wr.ownsRow base 3 1 (.slice A zs.length c) (zs.map (mvI r)).length ((zs.map (mvI r)).flatMap fI) from by
        have h := HO.out
        rw [hkq, mvR_all] at h
        rw [List.length_map]
        exact h)
      clear hkq
      go_wp2
      refine bodyPost_ret (results_none rfl _ _ _) rfl ?_
      exact ⟨rfl, HF.out, HG.out⟩
end Go.Proofs.Yteihjneeiojgaaa
