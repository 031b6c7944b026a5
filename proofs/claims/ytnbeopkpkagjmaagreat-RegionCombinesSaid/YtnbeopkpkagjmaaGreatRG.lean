import Derived.Test.YtnbeopkpkagjmaaGreatRD
import Derived.Laws.OwnMore
import Derived.IntWalk
import Derived.Deep.AppendLies
import Derived.WalkKit
import Derived.WalkSpells
import Derived.WalkLawsBesides
import Derived.Deep.QuietTactic
import Derived.BigQuiet
import Derived.Handy
import Derived.Lib.Hide
import Derived.Laws.CopyRow
import Derived.Laws.AppendOwn
/-
  Contract of extend: the last rectangles of a row of one's own end later. Conditions: lengths.
-/
namespace Go.Proofs.YtnbeopkpkagjmaaGreat
set_option maxRecDepth 100000
set_option linter.unusedVariables false
set_option linter.unusedSimpArgs false
open Go.RowKit

def endR (to : Int) (r : Rc) : Rc := (r.1, (r.2.1, to))
theorem flatR_cons (r : Rc) (l : List Rc) : flatR (r :: l) = [.int .i64 r.1.1, .int .i64 r.1.2, .int .i64 r.2.1, .int .i64 r.2.2] ++ flatR l := by simp [flatR]
theorem flatR_modify (to : Int) : ∀ (m : List Rc) (i : Nat), (flatR m).set (i * 4 + 3) (.int .i64 to) = flatR (m.modify i (endR to))
  | [], i => by simp [flatR]
  | r :: m, 0 => by rw [List.modify_zero_cons, flatR_cons, flatR_cons]; rfl
  | r :: m, i + 1 => by
    rw [List.modify_succ_cons, flatR_cons, flatR_cons, ← flatR_modify to m i, List.set_append, if_neg (by simp; omega)]
    congr 2
    simp; omega
def extL (to : Int) (j : Nat) (l : List Rc) : Nat → List Rc
  | 0 => l
  | k + 1 => (extL to j l k).modify (j + k) (endR to)
theorem extL_len (to : Int) (j : Nat) (l : List Rc) : ∀ k, (extL to j l k).length = l.length
  | 0 => rfl
  | k + 1 => by rw [extL, List.length_modify, extL_len to j l k]
theorem extL_get (to : Int) (j : Nat) (l : List Rc) (i : Nat) : ∀ k, (extL to j l k)[i]? = if j ≤ i ∧ i < j + k then (l[i]?).map (endR to) else l[i]?
  | 0 => by rw [extL, if_neg (by omega)]
  | k + 1 => by
    rw [extL, List.getElem?_modify, extL_get to j l i k]
    by_cases h : j + k = i
    · rw [if_neg (by omega), if_pos (by omega)]; simp [h]
    · by_cases h2 : j ≤ i ∧ i < j + k
      · rw [if_pos h2, if_pos (by omega)]; simp [h]
      · rw [if_neg h2, if_neg (by omega)]; simp [h]
theorem extL_all (to : Int) (l : List Rc) {j n : Nat} (h : j + n = l.length) : extL to j l n = l.take j ++ (l.drop j).map (endR to) := by
  refine List.ext_getElem? fun i => ?_
  rw [extL_get]
  by_cases h1 : i < j
  · rw [if_neg (by omega), List.getElem?_append_left (by rw [List.length_take]; omega), List.getElem?_take, if_pos h1]
  · rw [List.getElem?_append_right (by rw [List.length_take]; omega), List.length_take, List.getElem?_map, List.getElem?_drop, show j + (i - min j l.length) = i by omega]
    by_cases h2 : i < l.length
    · rw [if_pos (by omega)]
    · rw [if_neg (by omega), List.getElem?_eq_none (by omega)]; rfl
theorem grown_refl (w : World) (row : Option Nat) : w.grownBy w row := ⟨rfl, rfl, rfl, Nat.le_refl _, fun _ _ _ => rfl⟩
theorem grown_setCell {w w' : World} {g : Nat} (h : w.grownBy w' (some g)) {p : Addr} (hp : p.block = g) (u : Value) : w.grownBy (w'.setCell p u) (some g) :=
  ⟨h.os, h.tape, h.output, by rw [World.size_setCell]; exact h.size, fun k hk hne => by rw [Below.heap_setCell w' p u k (by rintro rfl; exact hne (by rw [hp]))]; exact h.block k hk hne⟩
set_option maxRecDepth 100000 in
set_option maxHeartbeats 3200000 in
theorem pExtend_any (g c c2 j n : Nat) (A : Option Addr) (l : List Rc) (to : Int) (w : World) (base : Nat) (hown : w.ownsRow base 35 4 (.slice (some ⟨g, 0, none⟩) l.length c) l.length (flatR l)) (hbg : base ≤ g)
    (hj : j + n = l.length) (hA : 0 < n → A = some ⟨g, j * 4, none⟩) (hl : l.length ≤ 1000000000) :
    Calls Tryz.prog 56 #[.slice A n c2, .int .i64 to] w fun e w' => e = .returned (.tuple #[]) ∧ w'.ownsRow base 35 4 (.slice (some ⟨g, 0, none⟩) l.length c) l.length (flatR (l.take j ++ (l.drop j).map (endR to))) ∧ w.grownBy w' (some g) := by
  have HO := Lib.hid hown
  clear hown
  go_enter Tryz.func56, Tryz.ntmps56
  go_wp2
  go_loopw [7] (fun i wr => ∃ k : Nat, k ≤ n ∧ i = .int .i64 k ∧ Hid (wr.ownsRow base 35 4 (.slice (some ⟨g, 0, none⟩) l.length c) l.length (flatR (extL to j l k))) ∧ w.grownBy wr (some g)) (fun i _ => n - (intOf i).toNat)
  case atStart => exact ⟨0, by omega, rfl, HO, grown_refl _ _⟩
  case round =>
    obtain ⟨k, hk, rfl, HR, hbr⟩ := hrel
    clear HO
    by_cases hlt : k < n
    · have hA := hA (by omega)
      subst hA
      have hx : (extL to j l k)[j + k]? = some ((extL to j l k)[j + k]'(by rw [extL_len]; omega)) := List.getElem?_eq_getElem _
      generalize (extL to j l k)[j + k]'(by rw [extL_len]; omega) = r at hx
      obtain ⟨_, _, _, h3⟩ := flatR_get _ _ _ hx
      have i2 : (0 : Int) ≤ (k : Int) := by omega
      have i3 : (k : Int) < (n : Int) := by omega
      have hgt := own_get HR.out
      have hcell : wr.cell? ⟨g, (j + k) * 4 + 3, none⟩ = some (.int .i64 r.2.2) := by
        rcases hgt with ⟨h0, _⟩ | ⟨g', c', he, _, _, _, hc⟩
        · cases h0
        · injection he with e1 e2 e3
          injection e1 with e1
          injection e1 with e1 _ _
          rw [e1]
          exact hc _ _ h3
      have fr := World.ownsRow.frozenAt HR.out ((j + k) * 4 + 3)
      have hst := (World.ownsRow.stored HR.out ((j + k) * 4 + 3) (.int .i64 to)).1
      rw [flatR_modify] at hst
      have HST := Lib.hid hst
      rw [show (j + k) * 4 + 3 = j * 4 + k * 4 + 2 + 1 by omega] at hcell fr
      have HE := Lib.hid (show (⟨g, (j + k) * 4 + 3, none⟩ : Addr) = ⟨g, j * 4 + k * 4 + 2 + 1, none⟩ by rw [show (j + k) * 4 + 3 = j * 4 + k * 4 + 2 + 1 by omega])
      clear hst hgt h3 hx HR
      go_wp2
      go_roundw
      case rel => exact ⟨k + 1, by omega, by go_num, by have := HST; rw [HE.out] at this; exact this, grown_setCell hbr rfl _⟩
      case measure => simp [intOf]; omega
    · have hd : ¬ (k : Int) < (n : Int) := by omega
      obtain rfl : k = n := by omega
      have HX := Lib.hid (by have := HR.out; rwa [extL_all to l hj] at this : wr.ownsRow base 35 4 (.slice (some ⟨g, 0, none⟩) l.length c) l.length (flatR (l.take j ++ (l.drop j).map (endR to))))
      clear HR
      go_wp2
      go_returns
      exact ⟨rfl, by rw [← List.map_drop]; exact HX.out, hbr⟩
end Go.Proofs.YtnbeopkpkagjmaaGreat
/-
  Rows of one's own in memory: copying into them, their room, what is cleared. Conditions: none.
-/
namespace Go.Proofs.YtnbeopkpkagjmaaGreat
set_option maxRecDepth 100000
set_option linter.unusedVariables false
set_option linter.unusedSimpArgs false
open Go.RowKit

theorem run_copy_rowN {P : Program} (w : World) (dT sT ty elem : TypeId) (sz g o dLen dCap : Nat) (a : Addr) (sLen sCap n : Nat) (cur : Array Value) (t : TypeId) (cs : List Value)
    (hu : P.underlying dT = some (.slice elem)) (hs : (P.info? elem).map (·.size) = some sz)
    (hg : w.heap[g]? = some (.cells cur t (0, 0))) (hm : Nat.min sLen dLen = n) (hn : cs.length = n * sz)
    (hsrc : ∀ j v, cs[j]? = some v → w.cell? (a.add j) = some v) (hfit : o + cs.length ≤ cur.size) (h1 : ∀ v ∈ cs, v.oneCell' = true) :
    (Builtin.copy_ #[dT, sT] ty #[.slice (some ⟨g, o, none⟩) dLen dCap, .slice (some a) sLen sCap]).run P w =
      .ok (goInt n) (w.setRow g (cur.toList.take o ++ cs ++ cur.toList.drop (o + cs.length)).toArray) := by
  have hl := run_loadCells_list (P := P) w a cs hsrc
  have hst := run_storeCells_at P g o t cs 0 cur w hg (by simpa using hfit) h1
  cases hq : P.info? elem with
  | none => simp [hq] at hs
  | some i =>
    have hi : i.size = sz := by simpa [hq] using hs
    simp [Builtin.copy_, run_underlying hu, Builtin.lenOf, Builtin.firstCells, sizeOf, typeInfo, hq, hi, hm, ← hn, hl, hst]
theorem own_row {w : World} {base : Nat} {e : TypeId} {sz n g c : Nat} {xs : List Value} (h : w.ownsRow base e sz (.slice (some ⟨g, 0, none⟩) n c) n xs) :
    ∃ cur : Array Value, base ≤ g ∧ w.heap[g]? = some (.cells cur e (0, 0)) ∧ n ≤ c ∧ c ≤ maxLen ∧ cur.size = c * sz ∧ cur.toList.take (n * sz) = xs := by
  rcases h.2 with ⟨h0, _⟩ | ⟨g', cap, cur, he, hb, hh, hn, hc, hs, ht⟩
  · cases h0
  · injection he with e1 e2 e3
    injection e1 with e1
    injection e1 with e1 _ _
    subst e1 e3
    exact ⟨cur, hb, hh, hn, hc, hs, ht⟩
theorem own_of_row {w : World} {base : Nat} {e : TypeId} {sz n g c : Nat} {xs : List Value} {cur : Array Value} (hb : base ≤ g) (hh : w.heap[g]? = some (.cells cur e (0, 0))) (hn : n ≤ c) (hc : c ≤ maxLen) (hs : cur.size = c * sz) (ht : cur.toList.take (n * sz) = xs) :
    w.ownsRow base e sz (.slice (some ⟨g, 0, none⟩) n c) n xs := by
  refine ⟨?_, .inr ⟨g, c, cur, rfl, hb, hh, hn, hc, hs, ht⟩⟩
  rw [← ht, List.length_take, Array.length_toList, hs]
  exact Nat.min_eq_left (Nat.mul_le_mul_right _ hn)
theorem grown_setRow {w w' : World} {g : Nat} (h : w.grownBy w' (some g)) (cs : Array Value) : w.grownBy (w'.setRow g cs) (some g) :=
  ⟨h.os, h.tape, h.output, by rw [setRow_size]; exact h.size, fun k hk hne => by rw [setRow_other w' g k cs (by rintro rfl; exact hne rfl)]; exact h.block k hk hne⟩
theorem grown_none {w w' : World} {row : Option Nat} (h : w.grownBy w' none) : w.grownBy w' row := ⟨h.os, h.tape, h.output, h.size, fun k hk _ => h.block k hk (by simp)⟩
theorem grown_of_below {w w' : World} (h : Below w.heap.size w w') (row : Option Nat) : w.grownBy w' row := ⟨h.os, h.tape, h.output, h.size, fun k hk _ => h.block k hk⟩
/-- A row that is new behind w: stores into it change nothing of w. -/
theorem grown_newRow {w w' : World} {g : Nat} {row : Option Nat} (h : w.grownBy w' row) (hg : w.heap.size ≤ g) (cs : Array Value) : w.grownBy (w'.setRow g cs) row :=
  ⟨h.os, h.tape, h.output, by rw [setRow_size]; exact h.size, fun k hk hne => by rw [setRow_other w' g k cs (by omega)]; exact h.block k hk hne⟩
end Go.Proofs.YtnbeopkpkagjmaaGreat
