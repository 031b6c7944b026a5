import Derived.Test.YtnbeopkpkagjmaaGreatRDe
import Derived.Test.YtnbeopkpkagjmaaGreatRBs
import Derived.Test.YtnbeopkpkagjmaaGreatRF
import Derived.Maps.AppendAt
import Derived.WalkKit
import Derived.WalkSpells
import Derived.WalkLawsBesides
import Derived.Deep.QuietTactic
import Derived.BigQuiet
import Derived.Handy
import Derived.Lib.Hide
/-
  Contract of changed: the open valid times behind a bound. Conditions: the row is the caller's own and ascending; what ends is open; at most a million.
-/
namespace Go.Proofs.YtnbeopkpkagjmaaGreat
set_option maxRecDepth 100000
set_option linter.unusedVariables false
set_option linter.unusedSimpArgs false
open Go.RowKit

theorem RetRow.after {w w2 : World} {base : Nat} {v : Value} {l : List (Int × Int)} {e : Ending} {w' : World} (h : RetRow w2 base v l e w') (hb : Below w.heap.size w w2) : RetRow w base v l e w' := by
  obtain ⟨v', h1, h2, h3, h4⟩ := h
  exact ⟨v', h1, h2, World.grownBy.trans (grown_of_below hb _) h3, fun g hg => (h4 g hg).imp id fun h => Nat.le_trans hb.size h⟩
set_option maxRecDepth 100000 in
set_option maxHeartbeats 3200000 in
theorem pChg_any (v : Value) (l : List (Int × Int)) (x j : Int) (bg : Bool) (p : Int × Int) (w : World) (base : Nat) (hown : w.ownsRow base 33 2 v l.length (flatP l)) (hs : SrtP l) (hm : bg = false → p ∈ l) (hbase : base ≤ w.heap.size) (hlen : l.length ≤ 1000000) :
    Calls Tryz.prog 78 #[v, .agg #[.int .i64 x, .int .i64 j, .bool bg, .int .i64 p.1, .int .i64 p.2]] w (RetRow w base v (if bg = true then insP p l else remP p l)) := by
  have b1 : Below w.heap.size w (w.alloc (.cells #[.int .i64 x, .int .i64 j, .bool bg, .int .i64 p.1, .int .i64 p.2] 78)) := (Below.refl _ _).alloc (Nat.le_refl _) _
  have o1 := Own.new w 78 #[.int .i64 x, .int .i64 j, .bool bg, .int .i64 p.1, .int .i64 p.2]
  have s1 : w.heap.size < (w.alloc (.cells #[.int .i64 x, .int .i64 j, .bool bg, .int .i64 p.1, .int .i64 p.2] 78)).heap.size := by simp
  have HO := Lib.hid (World.ownsRow.alloc hown (.cells #[.int .i64 x, .int .i64 j, .bool bg, .int .i64 p.1, .int .i64 p.2] 78))
  have hlt := World.ownsRow.lt hown
  clear hown
  have c2 := o1.cell 2
  have c3 := o1.cell 3
  have c4 := o1.cell 4
  have hI := bsI_le p l
  have HIn := Lib.hid (insP_bs p l)
  have HRe := Lib.hid (remP_bs p l)
  have HAt := Lib.hid (fun h : p ∈ l => rem_at hs h)
  have HS := Lib.hid hs
  clear hs
  generalize hR : (if bg = true then insP p l else remP p l) = R
  have HR := Lib.hid hR
  clear hR
  go_enter Tryz.func78, Tryz.ntmps78
  go_wp2_with fail
  generalize w.alloc (.cells #[.int .i64 x, .int .i64 j, .bool bg, .int .i64 p.1, .int .i64 p.2] 78) = V at *
  with_reducible refine (pBs_any v l p V base (RdP.of_own HO.out (by omega)) HS.out (by omega)).mono ?_
  rintro e w2 ⟨⟨bb, rfl⟩, hb2⟩
  have H2 := Lib.hid (own_below HO.out hb2)
  have o2 := o1.below hb2 s1
  have B2 : Below w.heap.size w w2 := b1.trans (hb2.mono b1.size)
  have z2 := B2.size
  clear o1 c2 c3 c4 HO hb2 b1 s1
  have c2 := o2.cell 2
  have c3 := o2.cell 3
  have c4 := o2.cell 4
  generalize bsI p l = I at *
  cases bg
  · have hI2 := HAt.out (hm rfl)
    have w1 : IntKind.i64.wrap ((I : Int) + 1) = (I : Int) + 1 := IntWalk.i64_in _ (by omega)
    have HD := Lib.hid ((pDel_any v l I w2 base H2.out hI2 hlen).mono fun _ _ h => RetRow.after h B2)
    rw [show ((I + 1 : Nat) : Int) = (I : Int) + 1 by omega] at HD
    obtain rfl : l.take I ++ l.drop (I + 1) = R := by rw [← HRe.out, ← HR.out, if_neg (by simp)]
    clear hm HIn HRe HAt HR
    go_wp2_with fail
    with_reducible refine HD.out.mono ?_
    rintro e w3 ⟨v3, rfl, h1, h2, h3⟩
    have K1 := Lib.hid h1
    have K2 := Lib.hid h2
    clear h1 h2
    go_wp2
    go_ret
    exact ⟨_, rfl, K1.out, K2.out, h3⟩
  · obtain rfl : l.take I ++ p :: l.drop I = R := by rw [← HIn.out, ← HR.out, if_pos rfl]
    have b3 : Below w2.heap.size w2 (w2.alloc (.cells #[.int .i64 p.1, .int .i64 p.2] 33)) := (Below.refl _ _).alloc (Nat.le_refl _) _
    have HD := Lib.hid ((pIns_any v l p I w2.heap.size (w2.alloc (.cells #[.int .i64 p.1, .int .i64 p.2] 33)) base (World.ownsRow.alloc H2.out _) (Own.new w2 _ _) (fun g hg => by have := hlt g hg; omega) (by have := b3.size; omega) hI hlen).mono fun _ _ h => RetRow.after h (B2.trans (b3.mono z2)))
    clear hm HIn HRe HAt HR b3
    go_wp2_with fail
    with_reducible refine HD.out.mono ?_
    rintro e w3 ⟨v3, rfl, h1, h2, h3⟩
    have K1 := Lib.hid h1
    have K2 := Lib.hid h2
    clear h1 h2
    go_wp2
    go_ret
    exact ⟨_, rfl, K1.out, K2.out, h3⟩
end Go.Proofs.YtnbeopkpkagjmaaGreat
