import Derived.Test.YteihjneeiojgaaaGreatSEoA
import Derived.Test.YteihjneeiojgaaaGreatMT
import Derived.WalkKit
import Derived.WalkSpells
import Derived.WalkLawsBesides
import Derived.Deep.QuietTactic
import Derived.BigQuiet
import Derived.Handy
import Derived.Lib.Hide
/-
  The kind of a result, by the reference: result, walked. Conditions: lengths.
-/
namespace Go.Proofs.YteihjneeiojgaaaGreat
set_option maxRecDepth 100000
set_option linter.unusedVariables false
set_option linter.unusedSimpArgs false
open Go.RowKit

def kvR (p : Int × Bool) : Value := .tuple #[.int .i64 p.1, .bool p.2]

set_option maxRecDepth 100000 in
set_option maxHeartbeats 3200000 in
theorem rRes_4 (n k m : Int) (s nm : ByteArray) (A : Option Addr) (l c : Nat) (v u : Value) (zs : List Int) (w : World) (L : Nat) (hv : RdI w L w.heap.size v zs) :
    Calls Tryz.prog 105 #[.agg #[.int .i64 4, .int .i64 n, .int .i64 k, .int .i64 m, .string s, .string nm, .slice A l c], v, u] w fun e w' => e = .returned (kvR (resX 4 zs)) ∧ Below w.heap.size w w' := by
  have b1 := bel_mk w (.cells #[.int .i64 4, .int .i64 n, .int .i64 k, .int .i64 m, .string s, .string nm, .slice A l c] 73)
  have hz := b1.size
  have hrd := hv.step b1 (Nat.le_refl _)
  have hc := rAll_any v zs 3 _ L hrd
  have hX : resX 4 zs = (3, allK 3 zs) := rfl
  rw [hX]
  generalize allK 3 zs = b at *
  have HC := Lib.hid hc
  have HB := Lib.hid b1
  clear b1 hrd hv
  unfold kvR at *
  go_enter Tryz.func105, Tryz.ntmps105
  go_wp2_with fail
  with_reducible refine HC.out.mono ?_
  rintro e w2 ⟨rfl, hb2⟩
  go_wp2
  go_ret2
  exact ⟨rfl, HB.out.trans (hb2.mono hz)⟩

set_option maxRecDepth 100000 in
set_option maxHeartbeats 3200000 in
theorem rRes_5 (n k m : Int) (s nm : ByteArray) (A : Option Addr) (l c : Nat) (v u : Value) (zs : List Int) (w : World) (L : Nat) (hv : RdI w L w.heap.size v zs) :
    Calls Tryz.prog 105 #[.agg #[.int .i64 5, .int .i64 n, .int .i64 k, .int .i64 m, .string s, .string nm, .slice A l c], v, u] w fun e w' => e = .returned (kvR (resX 5 zs)) ∧ Below w.heap.size w w' := by
  have b1 := bel_mk w (.cells #[.int .i64 5, .int .i64 n, .int .i64 k, .int .i64 m, .string s, .string nm, .slice A l c] 73)
  have hz := b1.size
  have hrd := hv.step b1 (Nat.le_refl _)
  have hc := rAll_any v zs 3 _ L hrd
  have hX : resX 5 zs = (3, allK 3 zs) := rfl
  rw [hX]
  generalize allK 3 zs = b at *
  have HC := Lib.hid hc
  have HB := Lib.hid b1
  clear b1 hrd hv
  unfold kvR at *
  go_enter Tryz.func105, Tryz.ntmps105
  go_wp2_with fail
  with_reducible refine HC.out.mono ?_
  rintro e w2 ⟨rfl, hb2⟩
  go_wp2
  go_ret2
  exact ⟨rfl, HB.out.trans (hb2.mono hz)⟩

set_option maxRecDepth 100000 in
set_option maxHeartbeats 3200000 in
theorem rRes_6 (n k m : Int) (s nm : ByteArray) (A : Option Addr) (l c : Nat) (v u : Value) (zs : List Int) (w : World) (L : Nat) (hv : RdI w L w.heap.size v zs) :
    Calls Tryz.prog 105 #[.agg #[.int .i64 6, .int .i64 n, .int .i64 k, .int .i64 m, .string s, .string nm, .slice A l c], v, u] w fun e w' => e = .returned (kvR (resX 6 zs)) ∧ Below w.heap.size w w' := by
  have b1 := bel_mk w (.cells #[.int .i64 6, .int .i64 n, .int .i64 k, .int .i64 m, .string s, .string nm, .slice A l c] 73)
  have hz := b1.size
  have hrd := hv.step b1 (Nat.le_refl _)
  have hc := rAll_any v zs 3 _ L hrd
  have hX : resX 6 zs = (3, allK 3 zs) := rfl
  rw [hX]
  generalize allK 3 zs = b at *
  have HC := Lib.hid hc
  have HB := Lib.hid b1
  clear b1 hrd hv
  unfold kvR at *
  go_enter Tryz.func105, Tryz.ntmps105
  go_wp2_with fail
  with_reducible refine HC.out.mono ?_
  rintro e w2 ⟨rfl, hb2⟩
  go_wp2
  go_ret2
  exact ⟨rfl, HB.out.trans (hb2.mono hz)⟩

set_option maxRecDepth 100000 in
set_option maxHeartbeats 3200000 in
theorem rRes_7 (n k m : Int) (s nm : ByteArray) (A : Option Addr) (l c : Nat) (v u : Value) (zs : List Int) (w : World) (L : Nat) (hv : RdI w L w.heap.size v zs) :
    Calls Tryz.prog 105 #[.agg #[.int .i64 7, .int .i64 n, .int .i64 k, .int .i64 m, .string s, .string nm, .slice A l c], v, u] w fun e w' => e = .returned (kvR (resX 7 zs)) ∧ Below w.heap.size w w' := by
  have b1 := bel_mk w (.cells #[.int .i64 7, .int .i64 n, .int .i64 k, .int .i64 m, .string s, .string nm, .slice A l c] 73)
  have hz := b1.size
  have hrd := hv.step b1 (Nat.le_refl _)
  have hc := rJoin_any v zs _ L hrd
  have hX : resX 7 zs = (3, (joinK 0 zs).isSome) := rfl
  rw [hX]
  unfold kRes at hc
  generalize (joinK 0 zs).isSome = b at *
  generalize (joinK 0 zs).getD 0 = q at *
  have HC := Lib.hid hc
  have HB := Lib.hid b1
  clear b1 hrd hv
  unfold kvR at *
  go_enter Tryz.func105, Tryz.ntmps105
  go_wp2_with fail
  with_reducible refine HC.out.mono ?_
  rintro e w2 ⟨rfl, hb2⟩
  go_wp2
  go_ret2
  exact ⟨rfl, HB.out.trans (hb2.mono hz)⟩

set_option maxRecDepth 100000 in
set_option maxHeartbeats 3200000 in
theorem rRes_8 (n k m : Int) (s nm : ByteArray) (A : Option Addr) (l c : Nat) (v u : Value) (zs : List Int) (w : World) (L : Nat) (hv : RdI w L w.heap.size v zs) :
    Calls Tryz.prog 105 #[.agg #[.int .i64 8, .int .i64 n, .int .i64 k, .int .i64 m, .string s, .string nm, .slice A l c], v, u] w fun e w' => e = .returned (kvR (resX 8 zs)) ∧ Below w.heap.size w w' := by
  have b1 := bel_mk w (.cells #[.int .i64 8, .int .i64 n, .int .i64 k, .int .i64 m, .string s, .string nm, .slice A l c] 73)
  have hz := b1.size
  have hrd := hv.step b1 (Nat.le_refl _)
  have hc := rJoin_any v zs _ L hrd
  have hX : resX 8 zs = (3, (joinK 0 zs).isSome) := rfl
  rw [hX]
  unfold kRes at hc
  generalize (joinK 0 zs).isSome = b at *
  generalize (joinK 0 zs).getD 0 = q at *
  have HC := Lib.hid hc
  have HB := Lib.hid b1
  clear b1 hrd hv
  unfold kvR at *
  go_enter Tryz.func105, Tryz.ntmps105
  go_wp2_with fail
  with_reducible refine HC.out.mono ?_
  rintro e w2 ⟨rfl, hb2⟩
  go_wp2
  go_ret2
  exact ⟨rfl, HB.out.trans (hb2.mono hz)⟩

set_option maxRecDepth 100000 in
set_option maxHeartbeats 3200000 in
theorem rRes_9 (n k m : Int) (s nm : ByteArray) (A : Option Addr) (l c : Nat) (v u : Value) (zs : List Int) (w : World) (L : Nat) (hv : RdI w L w.heap.size v zs) :
    Calls Tryz.prog 105 #[.agg #[.int .i64 9, .int .i64 n, .int .i64 k, .int .i64 m, .string s, .string nm, .slice A l c], v, u] w fun e w' => e = .returned (kvR (resX 9 zs)) ∧ Below w.heap.size w w' := by
  have b1 := bel_mk w (.cells #[.int .i64 9, .int .i64 n, .int .i64 k, .int .i64 m, .string s, .string nm, .slice A l c] 73)
  have hz := b1.size
  have hrd := hv.step b1 (Nat.le_refl _)
  have hc := rJoin_any v zs _ L hrd
  have hX : resX 9 zs = (3, (joinK 0 zs).isSome) := rfl
  rw [hX]
  unfold kRes at hc
  generalize (joinK 0 zs).isSome = b at *
  generalize (joinK 0 zs).getD 0 = q at *
  have HC := Lib.hid hc
  have HB := Lib.hid b1
  clear b1 hrd hv
  unfold kvR at *
  go_enter Tryz.func105, Tryz.ntmps105
  go_wp2_with fail
  with_reducible refine HC.out.mono ?_
  rintro e w2 ⟨rfl, hb2⟩
  go_wp2
  go_ret2
  exact ⟨rfl, HB.out.trans (hb2.mono hz)⟩

set_option maxRecDepth 100000 in
set_option maxHeartbeats 3200000 in
theorem rRes_10 (n k m : Int) (s nm : ByteArray) (A : Option Addr) (l c : Nat) (v u : Value) (zs : List Int) (w : World) (L : Nat) (hv : RdI w L w.heap.size v zs) :
    Calls Tryz.prog 105 #[.agg #[.int .i64 10, .int .i64 n, .int .i64 k, .int .i64 m, .string s, .string nm, .slice A l c], v, u] w fun e w' => e = .returned (kvR (resX 10 zs)) ∧ Below w.heap.size w w' := by
  have b1 := bel_mk w (.cells #[.int .i64 10, .int .i64 n, .int .i64 k, .int .i64 m, .string s, .string nm, .slice A l c] 73)
  have hz := b1.size
  have hrd := hv.step b1 (Nat.le_refl _)
  have hc := rJoin_any v zs _ L hrd
  have hX : resX 10 zs = (3, (joinK 0 zs).isSome) := rfl
  rw [hX]
  unfold kRes at hc
  generalize (joinK 0 zs).isSome = b at *
  generalize (joinK 0 zs).getD 0 = q at *
  have HC := Lib.hid hc
  have HB := Lib.hid b1
  clear b1 hrd hv
  unfold kvR at *
  go_enter Tryz.func105, Tryz.ntmps105
  go_wp2_with fail
  with_reducible refine HC.out.mono ?_
  rintro e w2 ⟨rfl, hb2⟩
  go_wp2
  go_ret2
  exact ⟨rfl, HB.out.trans (hb2.mono hz)⟩

set_option maxRecDepth 100000 in
set_option maxHeartbeats 3200000 in
theorem rRes_11 (n k m : Int) (s nm : ByteArray) (A : Option Addr) (l c : Nat) (v u : Value) (zs : List Int) (w : World) (L : Nat) (hv : RdI w L w.heap.size v zs) :
    Calls Tryz.prog 105 #[.agg #[.int .i64 11, .int .i64 n, .int .i64 k, .int .i64 m, .string s, .string nm, .slice A l c], v, u] w fun e w' => e = .returned (kvR (resX 11 zs)) ∧ Below w.heap.size w w' := by
  have b1 := bel_mk w (.cells #[.int .i64 11, .int .i64 n, .int .i64 k, .int .i64 m, .string s, .string nm, .slice A l c] 73)
  have hz := b1.size
  have hrd := hv.step b1 (Nat.le_refl _)
  have hc := rJoin_any v zs _ L hrd
  have hX : resX 11 zs = (3, (joinK 0 zs).isSome) := rfl
  rw [hX]
  unfold kRes at hc
  generalize (joinK 0 zs).isSome = b at *
  generalize (joinK 0 zs).getD 0 = q at *
  have HC := Lib.hid hc
  have HB := Lib.hid b1
  clear b1 hrd hv
  unfold kvR at *
  go_enter Tryz.func105, Tryz.ntmps105
  go_wp2_with fail
  with_reducible refine HC.out.mono ?_
  rintro e w2 ⟨rfl, hb2⟩
  go_wp2
  go_ret2
  exact ⟨rfl, HB.out.trans (hb2.mono hz)⟩

set_option maxRecDepth 100000 in
set_option maxHeartbeats 3200000 in
theorem rRes_12 (n k m : Int) (s nm : ByteArray) (A : Option Addr) (l c : Nat) (v u : Value) (zs : List Int) (w : World) (L : Nat) (hv : RdI w L w.heap.size v zs) :
    Calls Tryz.prog 105 #[.agg #[.int .i64 12, .int .i64 n, .int .i64 k, .int .i64 m, .string s, .string nm, .slice A l c], v, u] w fun e w' => e = .returned (kvR (resX 12 zs)) ∧ Below w.heap.size w w' := by
  have b1 := bel_mk w (.cells #[.int .i64 12, .int .i64 n, .int .i64 k, .int .i64 m, .string s, .string nm, .slice A l c] 73)
  have hz := b1.size
  have hrd := hv.step b1 (Nat.le_refl _)
  have hc := rJoin_any v zs _ L hrd
  have hX : resX 12 zs = (3, (joinK 0 zs).isSome) := rfl
  rw [hX]
  unfold kRes at hc
  generalize (joinK 0 zs).isSome = b at *
  generalize (joinK 0 zs).getD 0 = q at *
  have HC := Lib.hid hc
  have HB := Lib.hid b1
  clear b1 hrd hv
  unfold kvR at *
  go_enter Tryz.func105, Tryz.ntmps105
  go_wp2_with fail
  with_reducible refine HC.out.mono ?_
  rintro e w2 ⟨rfl, hb2⟩
  go_wp2
  go_ret2
  exact ⟨rfl, HB.out.trans (hb2.mono hz)⟩

set_option maxRecDepth 100000 in
set_option maxHeartbeats 3200000 in
theorem rRes_13 (n k m : Int) (s nm : ByteArray) (A : Option Addr) (l c : Nat) (v u : Value) (zs : List Int) (w : World) (L : Nat) (hv : RdI w L w.heap.size v zs) :
    Calls Tryz.prog 105 #[.agg #[.int .i64 13, .int .i64 n, .int .i64 k, .int .i64 m, .string s, .string nm, .slice A l c], v, u] w fun e w' => e = .returned (kvR (resX 13 zs)) ∧ Below w.heap.size w w' := by
  have b1 := bel_mk w (.cells #[.int .i64 13, .int .i64 n, .int .i64 k, .int .i64 m, .string s, .string nm, .slice A l c] 73)
  have hz := b1.size
  have hrd := hv.step b1 (Nat.le_refl _)
  have hc := rAll_any v zs 1 _ L hrd
  have hX : resX 13 zs = (1, allK 1 zs) := rfl
  rw [hX]
  generalize allK 1 zs = b at *
  have HC := Lib.hid hc
  have HB := Lib.hid b1
  clear b1 hrd hv
  unfold kvR at *
  go_enter Tryz.func105, Tryz.ntmps105
  go_wp2_with fail
  with_reducible refine HC.out.mono ?_
  rintro e w2 ⟨rfl, hb2⟩
  go_wp2
  go_ret2
  exact ⟨rfl, HB.out.trans (hb2.mono hz)⟩

set_option maxRecDepth 100000 in
set_option maxHeartbeats 3200000 in
theorem rRes_14 (n k m : Int) (s nm : ByteArray) (A : Option Addr) (l c : Nat) (v u : Value) (zs : List Int) (w : World) (L : Nat) (hv : RdI w L w.heap.size v zs) :
    Calls Tryz.prog 105 #[.agg #[.int .i64 14, .int .i64 n, .int .i64 k, .int .i64 m, .string s, .string nm, .slice A l c], v, u] w fun e w' => e = .returned (kvR (resX 14 zs)) ∧ Below w.heap.size w w' := by
  have b1 := bel_mk w (.cells #[.int .i64 14, .int .i64 n, .int .i64 k, .int .i64 m, .string s, .string nm, .slice A l c] 73)
  have hz := b1.size
  have hrd := hv.step b1 (Nat.le_refl _)
  have hc := rAll_any v zs 1 _ L hrd
  have hX : resX 14 zs = (1, allK 1 zs) := rfl
  rw [hX]
  generalize allK 1 zs = b at *
  have HC := Lib.hid hc
  have HB := Lib.hid b1
  clear b1 hrd hv
  unfold kvR at *
  go_enter Tryz.func105, Tryz.ntmps105
  go_wp2_with fail
  with_reducible refine HC.out.mono ?_
  rintro e w2 ⟨rfl, hb2⟩
  go_wp2
  go_ret2
  exact ⟨rfl, HB.out.trans (hb2.mono hz)⟩

set_option maxRecDepth 100000 in
set_option maxHeartbeats 3200000 in
theorem rRes_15 (n k m : Int) (s nm : ByteArray) (A : Option Addr) (l c : Nat) (v u : Value) (zs : List Int) (w : World) (L : Nat) (hv : RdI w L w.heap.size v zs) :
    Calls Tryz.prog 105 #[.agg #[.int .i64 15, .int .i64 n, .int .i64 k, .int .i64 m, .string s, .string nm, .slice A l c], v, u] w fun e w' => e = .returned (kvR (resX 15 zs)) ∧ Below w.heap.size w w' := by
  have b1 := bel_mk w (.cells #[.int .i64 15, .int .i64 n, .int .i64 k, .int .i64 m, .string s, .string nm, .slice A l c] 73)
  have hz := b1.size
  have hrd := hv.step b1 (Nat.le_refl _)
  have hc := rAll_any v zs 1 _ L hrd
  have hX : resX 15 zs = (1, allK 1 zs) := rfl
  rw [hX]
  generalize allK 1 zs = b at *
  have HC := Lib.hid hc
  have HB := Lib.hid b1
  clear b1 hrd hv
  unfold kvR at *
  go_enter Tryz.func105, Tryz.ntmps105
  go_wp2_with fail
  with_reducible refine HC.out.mono ?_
  rintro e w2 ⟨rfl, hb2⟩
  go_wp2
  go_ret2
  exact ⟨rfl, HB.out.trans (hb2.mono hz)⟩

set_option maxRecDepth 100000 in
set_option maxHeartbeats 3200000 in
theorem rRes_16 (n k m : Int) (s nm : ByteArray) (A : Option Addr) (l c : Nat) (v u : Value) (zs : List Int) (w : World) (L : Nat) (hv : RdI w L w.heap.size v zs) :
    Calls Tryz.prog 105 #[.agg #[.int .i64 16, .int .i64 n, .int .i64 k, .int .i64 m, .string s, .string nm, .slice A l c], v, u] w fun e w' => e = .returned (kvR (resX 16 zs)) ∧ Below w.heap.size w w' := by
  have b1 := bel_mk w (.cells #[.int .i64 16, .int .i64 n, .int .i64 k, .int .i64 m, .string s, .string nm, .slice A l c] 73)
  have hz := b1.size
  have hrd := hv.step b1 (Nat.le_refl _)
  have hc := rAll_any v zs 1 _ L hrd
  have hX : resX 16 zs = (1, allK 1 zs) := rfl
  rw [hX]
  generalize allK 1 zs = b at *
  have HC := Lib.hid hc
  have HB := Lib.hid b1
  clear b1 hrd hv
  unfold kvR at *
  go_enter Tryz.func105, Tryz.ntmps105
  go_wp2_with fail
  with_reducible refine HC.out.mono ?_
  rintro e w2 ⟨rfl, hb2⟩
  go_wp2
  go_ret2
  exact ⟨rfl, HB.out.trans (hb2.mono hz)⟩

set_option maxRecDepth 100000 in
set_option maxHeartbeats 3200000 in
theorem rRes_17 (n k m : Int) (s nm : ByteArray) (A : Option Addr) (l c : Nat) (v u : Value) (zs : List Int) (w : World) (L : Nat) (hv : RdI w L w.heap.size v zs) :
    Calls Tryz.prog 105 #[.agg #[.int .i64 17, .int .i64 n, .int .i64 k, .int .i64 m, .string s, .string nm, .slice A l c], v, u] w fun e w' => e = .returned (kvR (resX 17 zs)) ∧ Below w.heap.size w w' := by
  have b1 := bel_mk w (.cells #[.int .i64 17, .int .i64 n, .int .i64 k, .int .i64 m, .string s, .string nm, .slice A l c] 73)
  have hz := b1.size
  have hrd := hv.step b1 (Nat.le_refl _)
  have hc := rAll_any v zs 1 _ L hrd
  have hX : resX 17 zs = (1, allK 1 zs) := rfl
  rw [hX]
  generalize allK 1 zs = b at *
  have HC := Lib.hid hc
  have HB := Lib.hid b1
  clear b1 hrd hv
  unfold kvR at *
  go_enter Tryz.func105, Tryz.ntmps105
  go_wp2_with fail
  with_reducible refine HC.out.mono ?_
  rintro e w2 ⟨rfl, hb2⟩
  go_wp2
  go_ret2
  exact ⟨rfl, HB.out.trans (hb2.mono hz)⟩

set_option maxRecDepth 100000 in
set_option maxHeartbeats 3200000 in
theorem rRes_18 (n k m : Int) (s nm : ByteArray) (A : Option Addr) (l c : Nat) (v u : Value) (zs : List Int) (w : World) (L : Nat) (hv : RdI w L w.heap.size v zs) :
    Calls Tryz.prog 105 #[.agg #[.int .i64 18, .int .i64 n, .int .i64 k, .int .i64 m, .string s, .string nm, .slice A l c], v, u] w fun e w' => e = .returned (kvR (resX 18 zs)) ∧ Below w.heap.size w w' := by
  have b1 := bel_mk w (.cells #[.int .i64 18, .int .i64 n, .int .i64 k, .int .i64 m, .string s, .string nm, .slice A l c] 73)
  have hz := b1.size
  have hrd := hv.step b1 (Nat.le_refl _)
  have hc := rAll_any v zs 1 _ L hrd
  have hX : resX 18 zs = (1, allK 1 zs) := rfl
  rw [hX]
  generalize allK 1 zs = b at *
  have HC := Lib.hid hc
  have HB := Lib.hid b1
  clear b1 hrd hv
  unfold kvR at *
  go_enter Tryz.func105, Tryz.ntmps105
  go_wp2_with fail
  with_reducible refine HC.out.mono ?_
  rintro e w2 ⟨rfl, hb2⟩
  go_wp2
  go_ret2
  exact ⟨rfl, HB.out.trans (hb2.mono hz)⟩

set_option maxRecDepth 100000 in
set_option maxHeartbeats 3200000 in
theorem rRes_19 (n k m : Int) (s nm : ByteArray) (A : Option Addr) (l c : Nat) (v u : Value) (zs : List Int) (w : World) (L : Nat) (hv : RdI w L w.heap.size v zs) :
    Calls Tryz.prog 105 #[.agg #[.int .i64 19, .int .i64 n, .int .i64 k, .int .i64 m, .string s, .string nm, .slice A l c], v, u] w fun e w' => e = .returned (kvR (resX 19 zs)) ∧ Below w.heap.size w w' := by
  have b1 := bel_mk w (.cells #[.int .i64 19, .int .i64 n, .int .i64 k, .int .i64 m, .string s, .string nm, .slice A l c] 73)
  have hz := b1.size
  have hrd := hv.step b1 (Nat.le_refl _)
  have hc := rAll_any v zs 2 _ L hrd
  have hX : resX 19 zs = (2, allK 2 zs) := rfl
  rw [hX]
  generalize allK 2 zs = b at *
  have HC := Lib.hid hc
  have HB := Lib.hid b1
  clear b1 hrd hv
  unfold kvR at *
  go_enter Tryz.func105, Tryz.ntmps105
  go_wp2_with fail
  with_reducible refine HC.out.mono ?_
  rintro e w2 ⟨rfl, hb2⟩
  go_wp2
  go_ret2
  exact ⟨rfl, HB.out.trans (hb2.mono hz)⟩

set_option maxRecDepth 100000 in
set_option maxHeartbeats 3200000 in
theorem rRes_20 (n k m : Int) (s nm : ByteArray) (A : Option Addr) (l c : Nat) (v u : Value) (zs : List Int) (w : World) (L : Nat) (hv : RdI w L w.heap.size v zs) :
    Calls Tryz.prog 105 #[.agg #[.int .i64 20, .int .i64 n, .int .i64 k, .int .i64 m, .string s, .string nm, .slice A l c], v, u] w fun e w' => e = .returned (kvR (resX 20 zs)) ∧ Below w.heap.size w w' := by
  have b1 := bel_mk w (.cells #[.int .i64 20, .int .i64 n, .int .i64 k, .int .i64 m, .string s, .string nm, .slice A l c] 73)
  have hz := b1.size
  have hrd := hv.step b1 (Nat.le_refl _)
  have hc := rAll_any v zs 2 _ L hrd
  have hX : resX 20 zs = (1, allK 2 zs) := rfl
  rw [hX]
  generalize allK 2 zs = b at *
  have HC := Lib.hid hc
  have HB := Lib.hid b1
  clear b1 hrd hv
  unfold kvR at *
  go_enter Tryz.func105, Tryz.ntmps105
  go_wp2_with fail
  with_reducible refine HC.out.mono ?_
  rintro e w2 ⟨rfl, hb2⟩
  go_wp2
  go_ret2
  exact ⟨rfl, HB.out.trans (hb2.mono hz)⟩

set_option maxRecDepth 100000 in
set_option maxHeartbeats 3200000 in
theorem rRes_21 (n k m : Int) (s nm : ByteArray) (A : Option Addr) (l c : Nat) (v u : Value) (zs : List Int) (w : World) (L : Nat) (hv : RdI w L w.heap.size v zs) :
    Calls Tryz.prog 105 #[.agg #[.int .i64 21, .int .i64 n, .int .i64 k, .int .i64 m, .string s, .string nm, .slice A l c], v, u] w fun e w' => e = .returned (kvR (resX 21 zs)) ∧ Below w.heap.size w w' := by
  have b1 := bel_mk w (.cells #[.int .i64 21, .int .i64 n, .int .i64 k, .int .i64 m, .string s, .string nm, .slice A l c] 73)
  have hz := b1.size
  have hrd := hv.step b1 (Nat.le_refl _)
  have HB := Lib.hid b1
  clear b1 hrd hv
  unfold kvR at *
  go_enter Tryz.func105, Tryz.ntmps105
  go_wp2
  go_ret2
  exact ⟨rfl, HB.out⟩

set_option maxRecDepth 100000 in
set_option maxHeartbeats 3200000 in
theorem rRes_23 (n k m : Int) (s nm : ByteArray) (A : Option Addr) (l c : Nat) (v u : Value) (zs : List Int) (w : World) (L : Nat) (hv : RdI w L w.heap.size v zs) :
    Calls Tryz.prog 105 #[.agg #[.int .i64 23, .int .i64 n, .int .i64 k, .int .i64 m, .string s, .string nm, .slice A l c], v, u] w fun e w' => e = .returned (kvR (resX 23 zs)) ∧ Below w.heap.size w w' := by
  have b1 := bel_mk w (.cells #[.int .i64 23, .int .i64 n, .int .i64 k, .int .i64 m, .string s, .string nm, .slice A l c] 73)
  have hz := b1.size
  have hrd := hv.step b1 (Nat.le_refl _)
  have hc := rJoin_any v zs _ L hrd
  have hX : resX 23 zs = ((joinK 0 zs).getD 0, (joinK 0 zs).isSome) := rfl
  rw [hX]
  unfold kRes at hc
  generalize (joinK 0 zs).isSome = b at *
  generalize (joinK 0 zs).getD 0 = q at *
  have HC := Lib.hid hc
  have HB := Lib.hid b1
  clear b1 hrd hv
  unfold kvR at *
  go_enter Tryz.func105, Tryz.ntmps105
  go_wp2_with fail
  with_reducible refine HC.out.mono ?_
  rintro e w2 ⟨rfl, hb2⟩
  go_wp2
  go_ret2
  exact ⟨rfl, HB.out.trans (hb2.mono hz)⟩

set_option maxRecDepth 100000 in
set_option maxHeartbeats 3200000 in
theorem rRes_24 (n k m : Int) (s nm : ByteArray) (A : Option Addr) (l c : Nat) (v u : Value) (zs : List Int) (w : World) (L : Nat) (hv : RdI w L w.heap.size v zs) :
    Calls Tryz.prog 105 #[.agg #[.int .i64 24, .int .i64 n, .int .i64 k, .int .i64 m, .string s, .string nm, .slice A l c], v, u] w fun e w' => e = .returned (kvR (resX 24 zs)) ∧ Below w.heap.size w w' := by
  have b1 := bel_mk w (.cells #[.int .i64 24, .int .i64 n, .int .i64 k, .int .i64 m, .string s, .string nm, .slice A l c] 73)
  have hz := b1.size
  have hrd := hv.step b1 (Nat.le_refl _)
  have hc := rAll_any v zs 1 _ L hrd
  have hX : resX 24 zs = (3, allK 1 zs) := rfl
  rw [hX]
  generalize allK 1 zs = b at *
  have HC := Lib.hid hc
  have HB := Lib.hid b1
  clear b1 hrd hv
  unfold kvR at *
  go_enter Tryz.func105, Tryz.ntmps105
  go_wp2_with fail
  with_reducible refine HC.out.mono ?_
  rintro e w2 ⟨rfl, hb2⟩
  go_wp2
  go_ret2
  exact ⟨rfl, HB.out.trans (hb2.mono hz)⟩

theorem rdI_parts {w : World} {L g c : Nat} {z1 z2 z3 : Int} (h : RdI w L w.heap.size (.slice (some ⟨g, 0, none⟩) 3 c) [z1, z2, z3]) (c1 c2 : Nat) : RdI w L w.heap.size (.slice (some ⟨g, 0, none⟩) 1 c1) [z1] ∧ RdI w L w.heap.size (.slice (some ⟨g, 1, none⟩) 2 c2) [z2, z3] := by
  obtain ⟨A, c, hv, hl, hc⟩ := h
  injection hv with e1 e2 e3
  subst e1
  obtain ⟨a0, f0, g0, k0, c0⟩ := hc 0 z1 rfl
  obtain ⟨a1, f1, g1, k1, c1⟩ := hc 1 z2 rfl
  obtain ⟨a2, f2, g2, k2, c2⟩ := hc 2 z3 rfl
  injection f0 with f0
  injection f1 with f1
  injection f2 with f2
  subst f0 f1 f2
  rw [addZ13] at c0 c1 c2
  refine ⟨⟨_, _, rfl, by simp, fun k z hk => ⟨_, rfl, g0, k0, ?_⟩⟩, ⟨_, _, rfl, by simp, fun k z hk => ⟨_, rfl, g0, k0, ?_⟩⟩⟩
  · rcases k with _ | k
    · simp at hk; subst hk; simpa [Addr.add] using c0
    · simp at hk
  · rcases k with _ | _ | k
    · simp at hk; subst hk; simpa [Addr.add] using c1
    · simp at hk; subst hk; simpa [Addr.add] using c2
    · simp at hk
set_option maxRecDepth 100000 in
set_option maxHeartbeats 6400000 in
theorem rRes_22 (n k m : Int) (s nm : ByteArray) (A : Option Addr) (l c : Nat) (g c2 : Nat) (u : Value) (z1 z2 z3 : Int) (w : World) (L : Nat) (hc2 : 3 ≤ c2) (hv : RdI w L w.heap.size (.slice (some ⟨g, 0, none⟩) 3 c2) [z1, z2, z3]) :
    Calls Tryz.prog 105 #[.agg #[.int .i64 22, .int .i64 n, .int .i64 k, .int .i64 m, .string s, .string nm, .slice A l c], .slice (some ⟨g, 0, none⟩) 3 c2, u] w fun e w' => e = .returned (kvR (resX 22 [z1, z2, z3])) ∧ Below w.heap.size w w' := by
  have b1 := bel_mk w (.cells #[.int .i64 22, .int .i64 n, .int .i64 k, .int .i64 m, .string s, .string nm, .slice A l c] 73)
  have hz := b1.size
  have hrd := hv.step b1 (Nat.le_refl _)
  have HJ := Lib.hid (rJoin_any (.slice (some ⟨g, 1, none⟩) 2 (c2 - 1)) [z2, z3] _ L (rdI_parts hrd 0 (c2 - 1)).2)
  have HR := Lib.hid (fun W (h : Below (w.alloc (.cells #[.int .i64 22, .int .i64 n, .int .i64 k, .int .i64 m, .string s, .string nm, .slice A l c] 73)).heap.size (w.alloc (.cells #[.int .i64 22, .int .i64 n, .int .i64 k, .int .i64 m, .string s, .string nm, .slice A l c] 73)) W) => rAll_any (.slice (some ⟨g, 0, none⟩) 1 c2) [z1] 3 W L ((rdI_parts hrd c2 0).1.step h (Nat.le_refl _)))
  have hX : resX 22 [z1, z2, z3] = ((joinK 0 [z2, z3]).getD 0, (joinK 0 [z2, z3]).isSome && allK 3 [z1]) := rfl
  rw [hX]
  unfold kRes at HJ
  generalize (joinK 0 [z2, z3]).isSome = b at *
  generalize (joinK 0 [z2, z3]).getD 0 = q at *
  generalize allK 3 [z1] = b2 at *
  have HB := Lib.hid b1
  clear b1 hrd hv
  unfold kvR
  have h1c : (1 : Int) ≤ c2 := by omega
  have h3c : (3 : Int) ≤ c2 := by omega
  cases b
  · go_enter Tryz.func105, Tryz.ntmps105
    go_wp2_with fail
    with_reducible refine HJ.out.mono ?_
    rintro e w2 ⟨rfl, hb2⟩
    go_wp2
    go_ret2
    exact ⟨rfl, HB.out.trans (hb2.mono hz)⟩
  · go_enter Tryz.func105, Tryz.ntmps105
    go_wp2_with fail
    with_reducible refine HJ.out.mono ?_
    rintro e w2 ⟨rfl, hb2⟩
    go_wp2_with fail
    with_reducible refine (HR.out _ hb2).mono ?_
    rintro e w3 ⟨rfl, hb3⟩
    have B2 := HB.out.trans (hb2.mono hz)
    go_wp2
    go_ret2
    exact ⟨by simp, B2.trans (hb3.mono B2.size)⟩

end Go.Proofs.YteihjneeiojgaaaGreat
