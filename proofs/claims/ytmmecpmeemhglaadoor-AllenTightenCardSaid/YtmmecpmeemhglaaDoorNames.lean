/-
  The package's table of keywords as the statements' rows give it, and the contract of Name. Conditions: the table reads as the program's text lays it (Env).
-/
import Derived.Test.YtmmecpmeemhglaaDoorAl1
import Derived.Test.YtmmecpmeemhglaaDoorRows
import Derived.Lib.LaidTab
import Derived.Lib.SmallJoins
import Derived.ProofKit
import Derived.LaidMore
import Derived.OpenShut
import Derived.WalkKit
import Derived.WalkSpells
import Derived.WalkLawsBesides
import Derived.Deep.QuietTactic
import Derived.BigQuiet
import Derived.Handy
import Derived.Lib.Hide
namespace Go.Proofs.YtmmecpmeemhglaaDoor
open Go.RowKit

/-- An array of strings that reads as the list holds the list's strings. -/
theorem cells_of_strs {H : Type} {enc : TypeId × Value → H} {P : Program} {w : World} {base : Nat} {sp : Nat → Bool} {held : Bool} {fuel : Nat} {t e : TypeId} {n : Nat} {cs : List Value} {zs : List (List UInt8)} {p : List MemPlace}
    (ht : P.underlying t = some (.array n e)) (he : P.underlying e = some .string) (hce : P.cellsOf e = 1) (hct : P.cellsOf t = n)
    (h : DataW.trod enc P w base sp held fuel t cs = some (.agg (zs.map fun z => .lit (.string z)), p)) : cs = zs.map fun z => Value.string ⟨z.toArray⟩ := by
  cases fuel with
  | zero => simp [DataW.trod] at h
  | succ fuel =>
    simp only [DataW.trod, ht, hce, hct, Nat.mul_one] at h
    split at h
    · rename_i hl
      obtain ⟨xs, hm, hx⟩ := Option.map_eq_some_iff.1 h
      have hxs : xs.map (·.1) = zs.map fun z => (DataW.lit (.string z) : DataW H) := by
        have := congrArg Prod.fst hx
        simpa using this
      have hxl : xs.length = n := by simpa using Lib.mapM_length hm
      have hzl : zs.length = n := by
        have := congrArg List.length hxs
        simp at this
        omega
      apply List.ext_getElem?
      intro i
      by_cases hi : i < n
      · obtain ⟨b, hb, hf⟩ := Lib.mapM_at hm i i (by simp [hi])
        obtain ⟨s, hc, rfl, _⟩ := DataW.trod_string he hf
        have h1 : cs[i]? = some (.string s) := by
          have := congrArg (·[0]?) hc
          simpa [List.getElem?_take, List.getElem?_drop] using this
        have h2 : (xs.map (·.1))[i]? = some (DataW.lit (.string s.data.toList) : DataW H) := by simp [hb]
        rw [hxs] at h2
        simp only [List.getElem?_map, Option.map_eq_some_iff, DataW.lit.injEq, Lit.string.injEq] at h2
        obtain ⟨z', hz', rfl⟩ := h2
        simp [h1, hz']
      · rw [List.getElem?_eq_none (by omega), List.getElem?_eq_none (by simp; omega)]
    · cases h

/-- The keywords. -/
def nmL : List (List UInt8) := [[66, 69, 70, 79, 82, 69], [77, 69, 69, 84, 83], [79, 86, 69, 82, 76, 65, 80, 83], [83, 84, 65, 82, 84, 83], [68, 85, 82, 73, 78, 71], [70, 73, 78, 73, 83, 72, 69, 83], [69, 81, 85, 65, 76, 83], [70, 73, 78, 73, 83, 72, 69, 68, 66, 89], [67, 79, 78, 84, 65, 73, 78, 83], [83, 84, 65, 82, 84, 69, 68, 66, 89], [79, 86, 69, 82, 76, 65, 80, 80, 69, 68, 66, 89], [77, 69, 84, 66, 89], [65, 70, 84, 69, 82]]
def nm (k : Nat) : ByteArray := ⟨(nmL.getD k []).toArray⟩
theorem names_data {H : Type} : (Rows.laid_bitemporal_allen_names : DataW H) = .agg (nmL.map fun z => .lit (.string z)) := rfl
theorem gNames : Tryd.prog.globalNamed "bitemporal/allen.names" = some 0 := by kernel_rfl
theorem globalsSize : Tryd.prog.globals.size = 1 := by kernel_rfl
/-- The table of keywords reads as the program's text lays it; it lies below the heap's end. -/
structure Env (w : World) : Prop where
  low : 1 ≤ w.heap.size
  name : ∀ k, k < 13 → w.cell? ⟨0, k, none⟩ = some (.string (nm k))
theorem Env.step {w w' : World} (h : Env w) (hb : Below w.heap.size w w') : Env w' :=
  ⟨Nat.le_trans h.low hb.size, fun k hk => (hb.cell (p := ⟨0, k, none⟩) (show (0 : Nat) < w.heap.size from Nat.lt_of_lt_of_le (by decide) h.low)).trans (h.name k hk)⟩
theorem Env.of_var {w : World} (hl : 1 ≤ w.heap.size) (hv : w.var? Tryd.prog "bitemporal/allen.names" = some (nmL.map fun z => Value.string ⟨z.toArray⟩).toArray) : Env w := by
  refine ⟨hl, fun k hk => ?_⟩
  have := World.var?_cell gNames hv k
  rw [this]
  have hk' : k < nmL.length := hk
  rw [List.getElem?_toArray, List.getElem?_map, List.getElem?_eq_getElem hk']
  unfold nm
  rw [List.getD_eq_getElem?_getD, List.getElem?_eq_getElem hk']
  rfl

def nameB (r : Int) : ByteArray := if isRel r then nm r.toNat else ⟨#[]⟩
set_option maxRecDepth 100000 in
set_option maxHeartbeats 800000 in
theorem name_any (r : Int) (w : World) (henv : Env w) :
    Calls Tryd.prog 20 #[.int .i64 r] w fun e w' => e = .returned (.string (nameB r)) ∧ Below w.heap.size w w' := by
  unfold nameB
  cases h : isRel r
  · go_enter Tryd.func20, Tryd.ntmps20
    go_wp2_with (go_at_call 33; refine (isrel_any _ _).mono ?_; rintro e w1 ⟨rfl, rfl⟩; rw [h])
    go_ret
    exact ⟨rfl, Below.refl _ _⟩
  · obtain ⟨h1, h2⟩ := (isRel_iff r).1 h
    obtain ⟨k, rfl⟩ := Int.eq_ofNat_of_zero_le h1
    have hc := henv.name k (by omega)
    have hk : (k : Int) < 13 := h2
    rw [Int.toNat_natCast]
    generalize nm k = b at *
    go_enter Tryd.func20, Tryd.ntmps20
    go_wp2_with (go_at_call 33; refine (isrel_any _ _).mono ?_; rintro e w1 ⟨rfl, rfl⟩; rw [h])
    go_ret
    exact ⟨rfl, Below.refl _ _⟩
end Go.Proofs.YtmmecpmeemhglaaDoor
