/-
  Contract of the reference's Find, and the walk of the statement AllenNames: relations are found by their keywords and by no other names. Conditions: the table of keywords reads as the program lays it (Env).
-/
import Derived.Test.YthiefmphkgopcaaDoorFind
import Derived.Test.YthiefmphkgopcaaDoorAwkA
import Derived.WalkKit
import Derived.WalkSpells
import Derived.WalkLawsBesides
import Derived.Deep.QuietTactic
import Derived.BigQuiet
import Derived.Handy
import Derived.Lib.Hide
namespace Go.Proofs.YthiefmphkgopcaaDoor
open Go.RowKit
theorem nm_back : ∀ k : Fin 13, findR (nm k.val) 13 0 = (k.val : Int) := by decide +kernel
theorem nm_some : ∀ k : Fin 13, (nm k.val).toList.isEmpty = false := by decide +kernel
attribute [local irreducible] nm

set_option maxRecDepth 100000 in
set_option maxHeartbeats 1600000 in
theorem rfind_any (s : ByteArray) (w : World) :
    Calls Tryd.prog 23 #[.string s] w fun e w' => e = .returned (.int .i64 (findR s 13 0)) ∧ Below w.heap.size w w' := by
  go_enter Tryd.func23, Tryd.ntmps23
  go_wp2
  go_loopw [3] (fun c wr => ∃ k : Nat, k ≤ 13 ∧ c = .int .i64 k ∧ findR s 13 0 = findR s (13 - k) k ∧ Below w.heap.size w wr) (fun c _ => 13 - (intOf c).toNat)
  case atStart => exact ⟨0, by omega, rfl, rfl, Below.refl _ _⟩
  case round =>
    obtain ⟨k, hk, rfl, hf, hbr⟩ := hrel
    have hbz := hbr.size
    by_cases hlt : k < 13
    · have hS := findR_step s (12 - k) k
      rw [show 12 - k + 1 = 13 - k by omega, ← hf] at hS
      have HS := Lib.hid hS
      clear hS hf
      have HR := rname_any (k : Int)
      rw [show nameB (k : Int) = nm k by unfold nameB; rw [(isRel_iff _).2 (by omega)]; rfl] at HR
      generalize nm k = b at *
      cases hb : (b.toList == s.toList)
      · have H2 := Lib.hid (HS.out.trans (by rw [hb]; rfl : _ = findR s (12 - k) (k + 1)))
        clear HS
        go_wp2_with (go_at_call 21; refine (HR _).mono ?_; rintro e w1 ⟨rfl, hb1⟩)
        go_roundw
        case rel => exact ⟨k + 1, by omega, by go_num, by rw [H2.out, show 13 - (k + 1) = 12 - k by omega], hbr.trans (hb1.mono hbz)⟩
        case measure => simp [intOf]; omega
      · have H2 := Lib.hid (HS.out.trans (by rw [hb]; rfl : _ = (k : Int)))
        clear HS
        go_wp2_with (go_at_call 21; refine (HR _).mono ?_; rintro e w1 ⟨rfl, hb1⟩)
        go_ret
        exact ⟨congrArg (fun n => Ending.returned (.int .i64 n)) H2.out.symm, hbr.trans (hb1.mono hbz)⟩
    · have hkl : k = 13 := by omega
      subst hkl
      have H2 := Lib.hid (hf.trans (show findR s (13 - 13) 13 = -1 from rfl))
      clear hf
      go_wp2
      go_ret
      exact ⟨congrArg (fun n => Ending.returned (.int .i64 n)) H2.out.symm, hbr⟩

set_option maxRecDepth 100000 in
set_option maxHeartbeats 1600000 in
theorem law_names (r : Int) (s : ByteArray) (w : World) (henv : Env w) (_hs : s.size ≤ maxLen) :
    Calls Tryd.prog 7 #[.int .i64 r, .string s] w fun e w' => e = .returned (.bool true) ∧ Below w.heap.size w w' := by
  by_cases hlen : (s.size : Int) > 40
  · go_enter Tryd.func7, Tryd.ntmps7
    go_wp2_with (go_at_call 15; refine (awake_any _ henv).mono ?_; rintro e wx ⟨rfl, hb⟩)
    go_ret
    exact ⟨rfl, hb⟩
  · have HN := name_any r
    have HR := rname_any r
    have hq : ((nameB r).toList == (nameB r).toList) = true := by simp
    have hz : (findR s 13 0 == findR s 13 0) = true := by simp
    have HF := find_any s
    have HG := rfind_any s
    generalize findR s 13 0 = z at *
    cases hr : isRel r
    · have hE : nameB r = { data := #[] } := by unfold nameB; rw [hr]; rfl
      rw [hE] at HN HR hq
      go_enter Tryd.func7, Tryd.ntmps7
      go_wp2_with fail
      refine (HN _ henv).mono ?_
      rintro e w1 ⟨rfl, hb1⟩
      go_wp2_with fail
      refine (HR _).mono ?_
      rintro e w2 ⟨rfl, hb2⟩
      have B2 := hb1.trans (hb2.mono hb1.size)
      go_wp2_with fail
      refine (HF _ (henv.step B2)).mono ?_
      rintro e w3 ⟨rfl, hb3⟩
      have B3 := B2.trans (hb3.mono B2.size)
      go_wp2_with fail
      refine (HG _).mono ?_
      rintro e w4 ⟨rfl, hb4⟩
      have B4 := B3.trans (hb4.mono B3.size)
      go_wp2_with fail
      refine (awake_any _ (henv.step B4)).mono ?_
      rintro e w5 ⟨rfl, hb5⟩
      go_wp2_with fail
      go_ret
      exact ⟨rfl, B4.trans (hb5.mono B4.size)⟩
    · obtain ⟨h1, h2⟩ := (isRel_iff r).1 hr
      obtain ⟨k, rfl⟩ := Int.eq_ofNat_of_zero_le h1
      have hE : nameB (k : Int) = nm k := by unfold nameB; rw [hr]; rfl
      rw [hE] at HN HR hq
      have hk : k < 13 := by omega
      have hemp : (nm k).toList.isEmpty = false := nm_some ⟨k, hk⟩
      have hback : findR (nm k) 13 0 = (k : Int) := nm_back ⟨k, hk⟩
      have HB := find_any (nm k)
      rw [hback] at HB
      have hkk : ((k : Int) == (k : Int)) = true := by simp
      clear hE hback
      generalize nm k = b at *
      go_enter Tryd.func7, Tryd.ntmps7
      go_wp2_with fail
      refine (HN _ henv).mono ?_
      rintro e w1 ⟨rfl, hb1⟩
      go_wp2_with fail
      refine (HR _).mono ?_
      rintro e w2 ⟨rfl, hb2⟩
      have B2 := hb1.trans (hb2.mono hb1.size)
      go_wp2_with fail
      refine (HB _ (henv.step B2)).mono ?_
      rintro e w2b ⟨rfl, hb2b⟩
      have B2b := B2.trans (hb2b.mono B2.size)
      go_wp2_with fail
      refine (HF _ (henv.step B2b)).mono ?_
      rintro e w3 ⟨rfl, hb3⟩
      have B3 := B2b.trans (hb3.mono B2b.size)
      go_wp2_with fail
      refine (HG _).mono ?_
      rintro e w4 ⟨rfl, hb4⟩
      have B4 := B3.trans (hb4.mono B3.size)
      go_wp2_with fail
      refine (awake_any _ (henv.step B4)).mono ?_
      rintro e w5 ⟨rfl, hb5⟩
      go_wp2_with fail
      go_ret
      exact ⟨rfl, B4.trans (hb5.mono B4.size)⟩
end Go.Proofs.YthiefmphkgopcaaDoor
