/-
  The program's Append: a frame behind bytes. Conditions: lengths; the table lies as the rows say.
-/
import Derived.Test.YtclpemmpckjemaaDoorTopFrE
import Derived.Deep.RegionWith
import Derived.WalkKit
import Derived.WalkSpells
import Derived.WalkLawsBesides
import Derived.Deep.QuietTactic
import Derived.BigQuiet
import Derived.Handy
import Derived.Lib.Hide
namespace Go.Proofs.YtclpemmpckjemaaDoor.Fr
open Go.RowKit

set_option maxRecDepth 100000 in
set_option maxHeartbeats 12800000 in
theorem pAppend_any (v u : Value) (l m : List UInt8) (w : World) (L L2 : Nat) (henv : Env w) (hv : RdB w L w.heap.size v l) (hu : RdB w L2 w.heap.size u m) (hl : l.length ≤ 1099511627776) (hm : m.length ≤ 1048576) (hun : ∀ n c, u = .slice none n c → c = 0) :
    Calls Tryd.prog 8 #[v, u] w fun e w' => ∃ v', e = .returned (.tuple #[v', .int .i64 0]) ∧ w'.ownsRow w.heap.size 5 1 v' (frmL l m).length (bytV (frmL l m)) ∧ Below w.heap.size w w' := by
  have HUN := Lib.hid hun
  clear hun
  have hv0 := hv
  have hu0 := hu
  obtain ⟨A, c, rfl, hl63, hlc, hlr⟩ := hv
  obtain ⟨A2, c2, rfl, hm63, hmc, hmr⟩ := hu
  have hG := fun q => grow_b l (.slice A l.length l.length) (8 + m.length) (w.drewN q) L w.heap.size A rfl ⟨A, _, rfl, hl63, Nat.le_refl _, hlr⟩ (by omega) (by omega)
  have hN := fun W => pLen_any (m.length : Int) W
  have hlf : lenF (m.length : Int) = 8 + (m.length : Int) := by unfold lenF; rw [if_neg (by omega)]
  rw [hlf] at hN
  have hmm : ¬ (m.length : Int) > 1048576 := by omega
  have HG := Lib.hid hG
  have HU := Lib.hid hu0
  have HV := Lib.hid hv0
  clear hlf hlr hmr hG hu0 hv0
  go_enter Tryd.func8, Tryd.ntmps8
  go_wp2_with fail
  go_region_with (first | (go_at_call 18; refine (hN _).mono ?_; rintro e w1 ⟨rfl, rfl⟩) | (go_at_call 17; refine (HG.out _).mono ?_; rintro e w2 ⟨v1, rfl, hown1, hb1⟩))
  have B1 : Below w.heap.size w w2 := (Below.drew (Below.refl _ _)).trans hb1
  have z1 := B1.size
  clear hb1 HG hN
  have hW2 := fun W (hB : w.heap.size ≤ W.heap.size) ho => aword_any m.length l v1 W w.heap.size hB (by omega) (by omega) ho
  go_wp2_with fail
  have hown1b : w2.ownsRow w.heap.size 5 1 v1 l.length (bytV l) := hown1
  have hW3 := hW2 _ z1 hown1b
  clear hown1b
  with_reducible refine hW3.mono ?_
  clear hW3
  rintro e w3 ⟨v2, rfl, hown2, hb2⟩
  have B2 := B1.trans hb2
  have z2 := B2.size
  clear hb2 B1 z1 hown1 hW2
  have hl4 : (l ++ be4 m.length).length = l.length + 4 := by rw [List.length_append]; rfl
  have hrow := hown2
  rcases hrow.2 with ⟨h1, h2⟩ | ⟨g, cap, cur, rfl, hbg, hh, hn, hc, hs, ht⟩
  · exfalso; omega
  have HL4 := Lib.hid hl4
  have HO := Lib.hid hown2
  clear hown2 hrow hh hs ht
  rw [hl4] at hn ⊢
  clear hl4
  go_wp2_with fail
  have hrd := RdB.of_own HO.out (by rw [HL4.out]; omega)
  have hpart : RdB w3 w.heap.size w3.heap.size (.slice (some ⟨g, l.length, none⟩) 4 (cap - l.length)) (be4 m.length) := rdB_tail hrd (show (be4 m.length).length ≤ cap - l.length by show 4 ≤ _; omega)
  have hbody : RdB w3 L2 w3.heap.size (.slice A2 m.length c2) m := HU.out.step B2 (Nat.le_refl _)
  have b4 := (Below.refl w3.heap.size w3).alloc (Nat.le_refl _) (.cells #[.slice (some ⟨g, l.length, none⟩) 4 (cap - l.length), .slice A2 m.length c2] 26)
  have B4 := B2.trans (b4.mono z2)
  have z4 := B4.size
  have hC := check_any _ [be4 m.length, m] _ 0 w3.heap.size (henv.step B4) (parts_two w3 _ _ (be4 m.length) m 0 w3.heap.size 2 (Nat.le_refl _) (hpart.more (Nat.le_refl _) (Nat.zero_le _)) (hbody.more (Nat.le_refl _) (Nat.zero_le _)))
  rw [show ([be4 m.length, m] : List (List UInt8)).flatten = be4 m.length ++ m by simp] at hC
  have HO4 := Lib.hid (World.ownsRow.alloc HO.out (.cells #[.slice (some ⟨g, l.length, none⟩) 4 (cap - l.length), .slice A2 m.length c2] 26))
  have HB := Lib.hid (hbody.below b4)
  clear hrd hpart hbody
  generalize w3.alloc (.cells #[.slice (some ⟨g, l.length, none⟩) 4 (cap - l.length), .slice A2 m.length c2] 26) = w4 at *
  with_reducible refine hC.mono ?_
  rintro e w5 ⟨rfl, rfl⟩
  clear hC
  have hW4 := aword_any (crc (be4 m.length ++ m)) (l ++ be4 m.length) _ _ w.heap.size z4 (crc_lt _) (by rw [HL4.out]; omega) HO4.out
  rw [HL4.out] at hW4
  have HW4 := Lib.hid hW4
  clear hW4
  go_wp2_with fail
  with_reducible refine HW4.out.mono ?_
  rintro e w6 ⟨v3, rfl, hown3, hb3⟩
  have B6 := B4.trans hb3
  have z6 := B6.size
  have HO6 := Lib.hid hown3
  clear hown3
  have HL8 := Lib.hid (show (l ++ be4 m.length ++ be4 (crc (be4 m.length ++ m))).length = l.length + 8 by rw [List.length_append, HL4.out]; rfl)
  have HB6 := Lib.hid (HU.out.step B6 (Nat.le_refl _))
  cases A2 with
  | none =>
    have hm0 : m = [] := by
      cases m with
      | nil => rfl
      | cons b t => obtain ⟨ad, h1, _⟩ := HU.out.at (k := 0) rfl; cases h1
    subst hm0
    obtain rfl := HUN.out _ _ rfl
    obtain ⟨i0, hi, _, _, _⟩ := info_partsB infoB
    have hf : frmL l [] = l ++ be4 ([] : List UInt8).length ++ be4 (crc (be4 ([] : List UInt8).length ++ [])) := by unfold frmL; rw [List.append_nil]
    have HF := Lib.hid hf
    have HI := Lib.hid hi
    clear hf hi
    go_wp2_with (at_builtin; refine wpList_append_own_none rfl _ _ 26 rfl w.heap.size 5 i0 1 Tryd.underlying26 HI.out v3 _ _ rfl HO6.out rfl ?_)
    go_ret2
    exact ⟨_, rfl, by rw [HF.out]; exact HO6.out, B6⟩
  | some ad =>
    have hnew : ∀ (j : Nat) b, m[j]? = some b → w6.cell? (ad.add j) = some (.int .u8 (b.toNat : Nat)) := fun j b hj => by
      obtain ⟨ad2, h1, _, _, h4⟩ := HB6.out.at hj
      injection h1 with h1; subst h1; exact h4
    have HNW := Lib.hid hnew
    clear hnew
    go_wp2_with (at_builtin; refine append_b _ rfl _ _ rfl w.heap.size v3 (l ++ be4 m.length ++ be4 (crc (be4 m.length ++ m))) rfl HO6.out ad c2 m rfl HNW.out (by rw [HL8.out]; omega) z6 ?_; intro v4 w7 hown7 hb7)
    go_ret2
    exact ⟨_, rfl, hown7, B6.trans hb7⟩
end Go.Proofs.YtclpemmpckjemaaDoor.Fr
