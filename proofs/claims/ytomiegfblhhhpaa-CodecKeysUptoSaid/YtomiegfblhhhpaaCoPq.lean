/-
  A draft: PutPeriod of the program: what each answers. Conditions: numbers of 64 bits; lengths.
-/
import Derived.Test.YtomiegfblhhhpaaCo9
import Derived.Test.YtomiegfblhhhpaaCoPp
import Derived.Outline
import Derived.Deep.RegionWith
import Derived.WalkKit
import Derived.WalkSpells
import Derived.WalkLawsBesides
import Derived.Deep.QuietTactic
import Derived.BigQuiet
import Derived.Handy
import Derived.Lib.Hide
namespace Go.Proofs.Ytomiegfblhhhpaa
open Go.RowKit

set_option maxRecDepth 100000 in
set_option maxHeartbeats 3200000 in
theorem PutPeriod_any (v : Value) (l : List UInt8) (a b : Int) (ha : I64 a) (hb : I64 b) (w : World) (L : Nat) (hv : RdB w L w.heap.size v l) (hl : l.length ≤ 140737488355290) :
    Calls Try.prog 34 #[v, .agg #[.int .i64 a, .int .i64 b]] w (RetB w.heap.size w (l ++ perB a b)) := by
  have h10 := vint_len10 (zig_lt ha)
  have hll : (l ++ vint (zig a)).length ≤ 140737488355300 := by rw [List.length_append]; omega
  have HLL := Lib.hid hll
  have HE := Lib.hid (show l ++ perB a b = (l ++ vint (zig a)) ++ vint (zig b) by unfold perB; rw [List.append_assoc])
  obtain ⟨A, c, rfl, hl63, hlc, hx⟩ := hv
  have HLM := Lib.hid (fun W => limited_any A l.length c W hl63 hlc)
  have H1 := Lib.hid (fun W (h : Below w.heap.size w W) => appendInt_any (.slice A l.length l.length) l a ha W W.heap.size (.inr ⟨A, rfl, (RdB.more (show RdB w L w.heap.size _ l from ⟨A, l.length, rfl, hl63, Nat.le_refl _, hx⟩) (Nat.le_refl _) (Nat.zero_le _)).step h (Nat.le_refl _)⟩) (Nat.le_refl _) (by omega))
  generalize l ++ perB a b = R at *
  generalize l ++ vint (zig a) = M at *
  clear h10 hll hx
  go_enter Try.func34, Try.ntmps34
  have hbx := (Own.new w 49 #[.int .i64 a, .int .i64 b]).cell 1
  have HBX := Lib.hid (show (w.alloc (.cells #[.int .i64 a, .int .i64 b] 49)).cell? ⟨w.heap.size, 1, none⟩ = some (.int .i64 b) from hbx)
  clear hbx
  go_wp2_with fail
  go_region_with (first
    | (go_at_call 45; refine (HLM.out _).mono ?_; rintro e w0 ⟨rfl, rfl⟩)
    | (go_at_call 44; refine (appendInt_any v1 M b hb w1 _ (.inl ho1) hb1z HLL.out).mono ?_; rintro e w2 ⟨v2, rfl, ho2, hb2⟩)
    | (go_at_call 44; refine (H1.out _ (by repeat' (first | exact Below.refl _ _ | refine Below.drew ?_ | refine Below.alloc ?_ ?_ _ | go_size))).mono ?_; rintro e w1 ⟨v1, rfl, ho1, hb1⟩; have hb1z := hb1.size; have hcb : w1.cell? ⟨w.heap.size, 1, none⟩ = some (.int .i64 b) := (hb1.cell (by simp)).trans HBX.out; have hb1w : Below w.heap.size w w1 := Below.trans (by repeat' (first | exact Below.refl _ _ | refine Below.drew ?_ | refine Below.alloc ?_ ?_ _ | go_size)) (hb1.mono (by simp))))
  all_goals (try go_wp2_with fail)
  all_goals go_ret
  all_goals rw [HE.out]
  all_goals exact ⟨_, rfl, ownsRow_low ho2 (by simp), hb1w.trans (hb2.mono (by simp))⟩
end Go.Proofs.Ytomiegfblhhhpaa
