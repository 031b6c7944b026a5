/-
  The chapter's examples, as the statements check them. Conditions: none.
-/
import Derived.Test.YtclpemmpckjemaaDoorCoK
import Derived.Test.YtclpemmpckjemaaDoorCoY
import Derived.Test.YtclpemmpckjemaaDoorCo5
import Derived.Outline
import Derived.WalkKit
import Derived.WalkSpells
import Derived.WalkLawsBesides
import Derived.Deep.QuietTactic
import Derived.BigQuiet
import Derived.Handy
import Derived.Lib.Hide
namespace Go.Proofs.YtclpemmpckjemaaDoor
open Go.RowKit

theorem i64_small {n : Int} (h1 : -1000 ≤ n) (h2 : n ≤ 1000) : I64 n := ⟨by omega, by omega⟩
theorem wk_1 : vint (zig (-1)) = [1] := by rw [show zig (-1) = 1 from by decide, vint_last (by decide)]; rfl
theorem wk_2 : vint (zig 63) = [126] := by rw [show zig 63 = 126 from by decide, vint_last (by decide)]; rfl
theorem wk_3 : vint (zig 64) = [128, 1] := by rw [show zig 64 = 128 from by decide, vint_more (by decide), vint_last (by decide)]; rfl
theorem wk_4 : vint (zig 2) = [4] := by rw [show zig 2 = 4 from by decide, vint_last (by decide)]; rfl
theorem wk_5 : intF [128, 0] 0 = (1, 0, 0) := by decide +kernel
theorem wk_6 : intF [128] 0 = (2, 0, 0) := by decide +kernel
theorem wk_7 : intF [9, 1, 126, 128, 1] 2 = (0, 63, 3) := by decide +kernel
theorem wk_8 : ([] : List UInt8) ++ ([2] ++ textB ⟨#[97, 98]⟩) = [2, 4, 97, 98] := by
  unfold textB
  rw [show ((⟨#[97, 98]⟩ : ByteArray).size : Int) = 2 from rfl, wk_4]
  rfl
/-- The row of the example. -/
def wkP : List Vl := [(1, -1, ⟨#[]⟩), (2, 0, ⟨#[97]⟩)]
theorem wk_9 : keyL wkP = [2, 127, 255, 255, 255, 255, 255, 255, 255, 3, 97, 0] := by decide +kernel
theorem wk_k (w : World) (k : Nat) (p : Vl) (u : Value) (W : World) (hp : wkP[k]? = some p) (ho : W.ownsRow w.heap.size 5 1 u (keyL (wkP.take k)).length (bytV (keyL (wkP.take k)))) (hz : w.heap.size ≤ W.heap.size) :
    Calls Tryd.prog 15 #[u, valV p] W (RetB w.heap.size W (keyL (wkP.take (k + 1)))) := by
  have hk : k = 0 ∨ k = 1 := by have := (List.getElem?_eq_some_iff.1 hp).1; simp [wkP] at this; omega
  rcases hk with rfl | rfl
  · have e : ((1 : Int), (-1 : Int), (⟨#[]⟩ : ByteArray)) = p := by simpa [wkP] using hp
    subst e
    exact appendKey_1 u _ (-1) ⟨#[]⟩ (i64_small (by decide) (by decide)) W w.heap.size ho hz (by decide)
  · have e : ((2 : Int), (0 : Int), (⟨#[97]⟩ : ByteArray)) = p := by simpa [wkP] using hp
    subst e
    exact appendKey_2 u _ 0 ⟨#[97]⟩ W w.heap.size ho hz (by decide)
theorem wk_row (w : World) (C : Array Value) (hC : C = #[.int .i64 1, .int .i64 (-1), .string ⟨#[]⟩, .int .i64 2, .int .i64 0, .string ⟨#[97]⟩]) : RdV (w.alloc (.cells C 24)) 0 (w.alloc (.cells C 24)).heap.size (.slice (some ⟨w.heap.size, 0, none⟩) 2 2) wkP := by
  subst hC
  have o := Own.new w 24 #[.int .i64 1, .int .i64 (-1), .string ⟨#[]⟩, .int .i64 2, .int .i64 0, .string ⟨#[97]⟩]
  refine ⟨_, _, rfl, by decide, fun k p hk => ⟨_, rfl, Nat.zero_le _, o.lt, ?_⟩⟩
  have hk2 : k = 0 ∨ k = 1 := by have := (List.getElem?_eq_some_iff.1 hk).1; simp [wkP] at this; omega
  rcases hk2 with rfl | rfl
  · have e : ((1 : Int), (-1 : Int), (⟨#[]⟩ : ByteArray)) = p := by simpa [wkP] using hk
    subst e
    exact ⟨o.cell 0, o.cell 1, o.cell 2⟩
  · have e : ((2 : Int), (0 : Int), (⟨#[97]⟩ : ByteArray)) = p := by simpa [wkP] using hk
    subst e
    exact ⟨o.cell 3, o.cell 4, o.cell 5⟩
end Go.Proofs.YtclpemmpckjemaaDoor
