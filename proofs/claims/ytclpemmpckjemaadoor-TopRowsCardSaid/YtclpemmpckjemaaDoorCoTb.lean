import Derived.Test.YtclpemmpckjemaaDoorCoTa
import Derived.Test.YtclpemmpckjemaaDoorCo8
import Derived.Test.YtclpemmpckjemaaDoorCoW
import Derived.Test.YtclpemmpckjemaaDoorCo6
import Derived.WalkKit
import Derived.WalkSpells
import Derived.WalkLawsBesides
import Derived.Deep.QuietTactic
import Derived.BigQuiet
import Derived.Handy
import Derived.Lib.Hide
import Derived.Lib.ConvBytes
import Derived.Lib.SmallJoins
/-
  PutText of the program and of the reference: what each answers; the walk of the statement CodecTexts. Conditions: lengths.
-/
namespace Go.Proofs.YtclpemmpckjemaaDoor
open Go.RowKit

theorem grownCap_ge2 (w : World) (s : ByteArray) : s.size ≤ grownCap w s.size 0 5 := grownCap_ge w s.size 0 5
/-- The bytes that a conversion lays are read. -/
theorem rdB_conv (w : World) (s : ByteArray) (hs : s.size ≤ 9223372036854775807) : RdB (Lib.bytesWorld w 5 s) 0 (Lib.bytesWorld w 5 s).heap.size (.slice (some ⟨w.heap.size, 0, none⟩) s.size (grownCap w s.size 0 5)) s.data.toList := by
  refine ⟨_, _, by rw [size_list], by rw [size_list]; exact hs, by rw [size_list]; exact grownCap_ge2 w s, fun k b hk => ⟨_, rfl, Nat.zero_le _, by rw [Lib.bytesWorld_size]; exact Nat.lt_succ_self _, ?_⟩⟩
  have hkl := (List.getElem?_eq_some_iff.1 hk).1
  rw [size_list] at hkl
  rw [cell_add0, Lib.bytesWorld_cell w _ s k hkl, List.getD_eq_getElem?_getD, hk]
  rfl
end Go.Proofs.YtclpemmpckjemaaDoor
