import Derived.Test.YtbpjgipldddcfaaGU
import Derived.WalkKit
import Derived.WalkSpells
import Derived.WalkLawsBesides
import Derived.Deep.QuietTactic
import Derived.BigQuiet
import Derived.Handy
import Derived.Lib.Hide
/-
  The program's merge of sorted pieces, where nothing ends. Conditions: at most 10000 pieces.
-/
namespace Go.Proofs.Ytbpjgipldddcfaa
set_option maxRecDepth 100000
set_option linter.unusedVariables false
set_option linter.unusedSimpArgs false
open Go.RowKit

set_option maxRecDepth 100000 in
set_option maxHeartbeats 6400000 in
theorem mergeC_one (ada : Addr) (ca : Nat) (A : List Pc) (hr hv h0 : Nat) (w : World) (v0 : Value)
    (hb : BoxC w hr hv h0 0 v0 [(0, 0)]) (k1 : RdB w 0 h0 (.slice (some ada) A.length ca) A) (hca : A.length ≤ ca) (h1 : h0 ≤ hr) (h2 : h0 ≤ hv) (hne0 : hr ≠ hv)
    (hA : srt (A.map kBeg)) (hB : srt (([] : List Pc).map kEnd)) (hl : ∀ p ∈ A.map kBeg ++ ([] : List Pc).map kEnd, p.1 < 9223372036854775807) (hpos : ∀ p ∈ A.map kBeg ++ ([] : List Pc).map kEnd, 0 ≤ p.1) (la : A.length ≤ 10000) :
    Calls Try.prog 50 #[.slice (some ada) A.length ca, .slice none 0 0, .func (.func 47) #[] #[], .func (.func 48) #[] #[], .func (.func 51) #[] #[.pointer (some ⟨hv, 0, none⟩), .pointer (some ⟨hr, 0, none⟩)]] w (RetMC w hr hv h0 (resP (fC (A.map kBeg) (([] : List Pc).map kEnd)) (ptsS (A.map kBeg) (([] : List Pc).map kEnd)))) := by
  have egv : ∀ args w, (callFunc 51 args).run Try.prog w = .ok (.enter 51 args) w := enters_of Try.func51 (by kernel_rfl) rfl
  have eg1 : ∀ args w, (callFunc 47 args).run Try.prog w = .ok (.enter 47 args) w := enters_of Try.func47 (by kernel_rfl) rfl
  have eg2 : ∀ args w, (callFunc 48 args).run Try.prog w = .ok (.enter 48 args) w := enters_of Try.func48 (by kernel_rfl) rfl
  have H1 := Lib.hid k1
  have HB : Hid (BoxC w hr hv h0 (IntKind.i64.wrap (sumN ((A.map kBeg).take 0) - sumN ((([] : List Pc).map kEnd).take 0))) v0 (resP (fC (A.map kBeg) (([] : List Pc).map kEnd)) [])) := Lib.hid hb
  have HS := Lib.hid (And.intro hA (And.intro hB (And.intro hl hpos)))
  generalize hf : fC (A.map kBeg) (([] : List Pc).map kEnd) = f at *
  clear hb k1 hA hB hl hpos
  go_enter Try.func50, Try.ntmps50
  go_wp2
  go_loopw [0, 1] (fun a b wr => ∃ (i j : Nat) (P : List Int) (vv : Value) (ada : Addr) (ca : Nat), Hid (MInv (A.map kBeg) (([] : List Pc).map kEnd) i j P ∧ P.length ≤ i + j) ∧ a = .slice (some ada) (A.drop i).length ca ∧ b = .slice none 0 0 ∧ Hid (RdB wr 0 h0 a (A.drop i)) ∧ (A.drop i).length ≤ ca ∧ Hid (BoxC wr hr hv h0 (IntKind.i64.wrap (sumN ((A.map kBeg).take i) - sumN ((([] : List Pc).map kEnd).take j))) vv (resP f P)) ∧ Below h0 w wr) (fun a b _ => (match a with | .slice _ n _ => n | _ => 0) + (match b with | .slice _ n _ => n | _ => 0))
  case atStart => exact ⟨0, 0, [], _, ada, ca, Lib.hid ⟨MInv.start _ _, by simp⟩, rfl, rfl, Lib.hid (H1.out.more (Nat.le_refl _) (Nat.zero_le _)), hca, HB, Below.refl _ _⟩
  case round =>
    clear H1 HB
    obtain ⟨i, j, P, vv, ada, ca, hM, rfl, rfl, H1, capA, HB, hbr⟩ := hrel
    have hj0 : j = 0 := by have := hM.out.1.hj; simpa using this
    subst hj0
    have hbz := hbr.size
    have hlA := List.length_drop (i := i) (l := A)
    by_cases hne : i < A.length
    · have lmA : (A.map kBeg).length = A.length := List.length_map _
      obtain ⟨hN0, eA, _⟩ := hM.out.1.next HS.out.1 HS.out.2.1 HS.out.2.2.1 (by omega)
      have hN : MInv (A.map kBeg) (([] : List Pc).map kEnd) (i + rch ((A.map kBeg).drop i) (nxA (A.map kBeg) (([] : List Pc).map kEnd) i 0)) (0 + 0) (P ++ [nxA (A.map kBeg) (([] : List Pc).map kEnd) i 0]) := hN0
      have hpos0 := nx_pos (A := A.map kBeg) (B := ([] : List Pc).map kEnd) (i := i) (j := 0) HS.out.2.2.1 (by omega)
      have hpos : 0 < rch ((A.map kBeg).drop i) (nxA (A.map kBeg) (([] : List Pc).map kEnd) i 0) := hpos0
      have hh : h0 ≤ wr.heap.size := by have := HB.out.val.lt; omega
      have HA2 := Lib.hid (fun (w' : World) (hb : Below wr.heap.size wr w') => H1.out.step hb hh)
      have HFa := Lib.hid (fun (w' : World) (hb : Below wr.heap.size wr w') => firstC_any _ kBeg asks_beg eg1 _ _ w' _ (HA2.out w' hb))
      have HFb : Hid (∀ w' : World, Below wr.heap.size wr w' → Calls Try.prog 78 #[.slice none 0 0, .func (.func 48) #[] #[]] w' fun e w'' => e = .returned (.int .i64 9223372036854775807) ∧ Below w'.heap.size w' w'') := Lib.hid (fun w' hb => firstC_any _ kEnd asks_end eg2 _ [] w' 0 (RdB.nil _ _ _ _ _))
      have HRa := Lib.hid (fun (w' : World) (hb : Below wr.heap.size wr w') => reachedC_any _ kBeg asks_beg eg1 _ _ (nxA (A.map kBeg) (([] : List Pc).map kEnd) i 0) w' _ (HA2.out w' hb))
      have HRb : Hid (∀ w' : World, Below wr.heap.size wr w' → Calls Try.prog 79 #[.slice none 0 0, .func (.func 48) #[] #[], .int .i64 (nxA (A.map kBeg) (([] : List Pc).map kEnd) i 0)] w' fun e w'' => e = .returned (.int .i64 0) ∧ Below w'.heap.size w' w'') := Lib.hid (fun w' hb => reachedC_any _ kEnd asks_end eg2 _ [] (nxA (A.map kBeg) (([] : List Pc).map kEnd) i 0) w' 0 (RdB.nil _ _ _ _ _))
      have mdA : (A.map kBeg).drop i = (A.drop i).map kBeg := List.map_drop.symm
      have dn0 : ¬ (A.drop i).length = 0 := by omega
      have lenA : (A.drop i).length ≤ 100000 := by omega
      have eN : nxA (A.map kBeg) (([] : List Pc).map kEnd) i 0 = min (fstT ((A.drop i).map kBeg)) 9223372036854775807 := by unfold nxA; rw [mdA]; rfl
      rw [mdA] at hN eA hpos
      have rA := rch_le ((A.drop i).map kBeg) (nxA (A.map kBeg) (([] : List Pc).map kEnd) i 0)
      rw [List.length_map] at rA
      have qa : ((rch ((A.drop i).map kBeg) (nxA (A.map kBeg) (([] : List Pc).map kEnd) i 0) : Nat) : Int) ≤ (ca : Int) := by omega
      have qa0 : (0 : Int) ≤ ((rch ((A.drop i).map kBeg) (nxA (A.map kBeg) (([] : List Pc).map kEnd) i 0) : Nat) : Int) := by omega
      have qan : rch ((A.drop i).map kBeg) (nxA (A.map kBeg) (([] : List Pc).map kEnd) i 0) ≤ ca := by omega
      have qal : ((rch ((A.drop i).map kBeg) (nxA (A.map kBeg) (([] : List Pc).map kEnd) i 0) : Nat) : Int) ≤ ((A.drop i).length : Int) := by omega
      have MF := mc_facts (t := nxA (A.map kBeg) (([] : List Pc).map kEnd) i 0) hN HS.out.2.2.2 (by have := hM.out.2; have := hM.out.1.hi; omega) h0
      rw [hf] at MF
      have HVis := Lib.hid (fun (w' : World) (hb : Below wr.heap.size wr w') => visitC_any (nxA (A.map kBeg) (([] : List Pc).map kEnd) i 0) _ (.slice none 0 0) _ _ ((([] : List Pc).drop 0).take 0) _ _ hr hv h0 _ w' 0 0 (HB.out.below hb) ((H1.out.below (hb.mono hh)).take _ rA) (show RdB w' 0 h0 (.slice none 0 0) [] from RdB.nil _ _ _ _ _) h1 h2 hne0 (by rw [MF.1]; exact MF.2.2))
      rw [MF.1, MF.2.1] at HVis
      clear MF
      have HW := Lib.hid (And.intro hN (And.intro eA hpos))
      clear hN hN0 eA hpos hpos0 hlA mdA lmA
      generalize nxA (A.map kBeg) (([] : List Pc).map kEnd) i 0 = at' at *
      generalize rch ((A.drop i).map kBeg) at' = n at *
      generalize fstT ((A.drop i).map kBeg) = fa at *
      generalize hDA : A.drop i = DA at *
      clear hne
      have dn : ¬ (DA.length : Int) = 0 := by omega
      go_wp2_with (first
        | (go_at_call 78; (first | with_reducible refine (HFa.out _ ?_).mono ?_ | with_reducible refine (HFb.out _ ?_).mono ?_); (focus (repeat' (first | (with_reducible exact Below.refl _ _) | (with_reducible assumption) | (with_reducible refine Below.alloc ?_ ?_ _) | (with_reducible refine Below.drew ?_) | (with_reducible refine Below.setCell ?_ ?_ _) | (with_reducible refine Below.trans ?_ (Below.mono (by assumption) ?_)) | go_size))); rintro e w2 ⟨rfl, hb2⟩; have hz2 := hb2.size; (try simp only [World.size_drew] at hz2)))
      subst eN
      generalize hmin : min fa 9223372036854775807 = at2 at *
      all_goals go_wp2_with (first
        | (go_at_call 79; (first | with_reducible refine (HRa.out _ ?_).mono ?_ | with_reducible refine (HRb.out _ ?_).mono ?_); (focus (repeat' (first | (with_reducible exact Below.refl _ _) | (with_reducible assumption) | (with_reducible refine Below.alloc ?_ ?_ _) | (with_reducible refine Below.drew ?_) | (with_reducible refine Below.setCell ?_ ?_ _) | (with_reducible refine Below.trans ?_ (Below.mono (by assumption) ?_)) | go_size))); rintro e w3 ⟨rfl, hb3⟩; have hz3 := hb3.size; (try simp only [World.size_drew] at hz3))
        | (go_at_call 51; with_reducible refine (HVis.out _ ?_).mono ?_; (focus (repeat' (first | (with_reducible exact Below.refl _ _) | (with_reducible assumption) | (with_reducible refine Below.alloc ?_ ?_ _) | (with_reducible refine Below.drew ?_) | (with_reducible refine Below.setCell ?_ ?_ _) | (with_reducible refine Below.trans ?_ (Below.mono (by assumption) ?_)) | go_size))); rintro e w4 hR; unfold RetV at hR; obtain ⟨rfl, v4, HB4, hb4⟩ := hR; have hz4 := hb4.size; (try simp only [World.size_drew] at hz4)))
      all_goals go_region_held3 (fun _ => True)
        (first | exact trivial)
        (first | (go_at_call 51; with_reducible refine (HVis.out _ ?_).mono ?_; (focus (repeat' (first | (with_reducible exact Below.refl _ _) | (with_reducible assumption) | (with_reducible refine Below.alloc ?_ ?_ _) | (with_reducible refine Below.drew ?_) | (with_reducible refine Below.setCell ?_ ?_ _) | (with_reducible refine Below.trans ?_ (Below.mono (by assumption) ?_)) | go_size))); rintro e w4 hR; unfold RetV at hR; obtain ⟨rfl, v4, HB4, hb4⟩ := hR; have hz4 := hb4.size; (try simp only [World.size_drew] at hz4)))
      all_goals go_wp2
      all_goals go_region_held3 (fun _ => True)
        (first | exact trivial)
        (first | fail)
      all_goals go_wp2
      all_goals go_roundw
      case rel =>
        have hG : Below wr.heap.size wr w3.drew := (by (repeat' (first | (with_reducible exact Below.refl _ _) | (with_reducible assumption) | (with_reducible refine Below.alloc ?_ ?_ _) | (with_reducible refine Below.drew ?_) | (with_reducible refine Below.setCell ?_ ?_ _) | (with_reducible refine Below.trans ?_ (Below.mono (by assumption) ?_)) | go_size)))
        have hB0 : Below h0 wr w4.drew := Below.drew ((hG.mono hh).trans hb4)
        have eDA : A.drop (i + n) = DA.drop n := by rw [← hDA, List.drop_drop]
        refine ⟨i + n, 0, P ++ [_], v4, if ca = n then ada else ada.add (n * 3), ca - n, Lib.hid ⟨HW.out.1, by have := hM.out.2; have := HW.out.2.2; simp; omega⟩, by rw [eDA, List.length_drop]; split <;> rfl, rfl, Lib.hid ?_, (by rw [eDA, List.length_drop]; omega), Lib.hid (HB4.below (Below.drew (Below.refl _ _))), hbr.trans hB0⟩
        rw [eDA]; exact RdB.dropIf (H1.out.below hB0) capA n _ _ rfl
      case measure =>
        have := HW.out.2.2
        show (DA.length - n) + 0 < DA.length + 0
        omega
    · have hi := hM.out.1.hi
      have lmA : (A.map kBeg).length = A.length := List.length_map _
      have hiA : i = A.length := by omega
      subst hiA
      have hP := (show MInv (A.map kBeg) (([] : List Pc).map kEnd) (A.map kBeg).length (([] : List Pc).map kEnd).length P by rw [lmA]; exact hM.out.1).all
      rw [hP] at HB
      have e1 : (A.drop A.length).length = 0 := by rw [hlA]; omega
      rw [e1]
      clear hP hlA hM H1 HS lmA
      generalize resP f (ptsS (A.map kBeg) (([] : List Pc).map kEnd)) = R at *
      go_wp2
      go_returns
      exact ⟨rfl, _, _, HB.out, hbr⟩
end Go.Proofs.Ytbpjgipldddcfaa
