import Derived.Test.YtbpjgipldddcfaaGG
import Derived.WalkKit
import Derived.WalkSpells
import Derived.WalkLawsBesides
import Derived.Deep.QuietTactic
import Derived.BigQuiet
import Derived.Handy
import Derived.Lib.Hide
/-
  Contract of the program's merge of two valid lists of steps, as combine uses it. Conditions: at most 100000 steps each.
-/
namespace Go.Proofs.Ytbpjgipldddcfaa
set_option maxRecDepth 100000
set_option linter.unusedVariables false
set_option linter.unusedSimpArgs false
open Go.RowKit

theorem add_add (ad : Addr) (j k : Nat) : (ad.add j).add k = ad.add (j + k) := by
  unfold Addr.add
  by_cases h1 : j = 0
  · subst h1; simp
  · by_cases h2 : k = 0
    · subst h2; simp [h1]
    · simp [h1, h2, Nat.add_assoc]
theorem RdP.drop {w : World} {L B : Nat} {ad : Addr} {n c : Nat} {l : List (Int × Int)} (h : RdP w L B (.slice (some ad) n c) l) (j m d : Nat) (hm : m = l.length - j) (hd : m ≤ d) : RdP w L B (.slice (some (ad.add (j * 2))) m d) (l.drop j) := by
  have hl : l.length ≤ 9223372036854775807 := by obtain ⟨_, _, _, h2, _⟩ := h; exact h2
  refine ⟨some (ad.add (j * 2)), d, by rw [hm, List.length_drop], by rw [List.length_drop]; omega, by rw [List.length_drop, ← hm]; exact hd, fun k p hk => ?_⟩
  rw [List.getElem?_drop] at hk
  obtain ⟨ad', e, h1, h2, h3, h4⟩ := h.at hk
  injection e with e
  subst e
  refine ⟨ad.add (j * 2), rfl, by rw [add_block]; exact h1, by rw [add_block]; exact h2, ?_, ?_⟩
  · rw [add_add, ← Nat.add_mul]; exact h3
  · rw [add_add, ← Nat.add_mul]; exact h4

theorem RdP.dropIf {w : World} {L B : Nat} {ad : Addr} {n c : Nat} {l : List (Int × Int)} (h : RdP w L B (.slice (some ad) n c) l) (hc : l.length ≤ c) (j m d : Nat) (hm : m = l.length - j) (hd : m ≤ d) : RdP w L B (.slice (if c = j then some ad else some (ad.add (j * 2))) m d) (l.drop j) := by
  by_cases hj : c = j
  · rw [if_pos hj]
    have hn : l.drop j = [] := List.drop_eq_nil_of_le (by omega)
    rw [hn, show m = 0 by omega]
    exact RdP.nil _ _ _ _ _
  · rw [if_neg hj]
    exact RdP.drop h j m d hm hd

theorem RdP.take {w : World} {L B : Nat} {ad : Addr} {m c : Nat} {l : List (Int × Int)} (h : RdP w L B (.slice (some ad) m c) l) (n : Nat) (hn : n ≤ l.length) : RdP w L B (.slice (some ad) n c) (l.take n) := by
  obtain ⟨_, hc⟩ := h.cap
  have hl : l.length ≤ 9223372036854775807 := by obtain ⟨_, _, _, h2, _⟩ := h; exact h2
  have hlen : (l.take n).length = n := by rw [List.length_take]; omega
  refine ⟨some ad, c, by rw [hlen], by omega, by omega, fun k p hk => ?_⟩
  have hkn := (List.getElem?_eq_some_iff.1 hk).1
  rw [hlen] at hkn
  rw [List.getElem?_take, if_pos hkn] at hk
  exact h.at hk
theorem rch_pos {l : List (Int × Int)} {t : Int} (hne : l ≠ []) (h : fstT l ≤ t) : 0 < rch l t := by
  cases l with
  | nil => exact absurd rfl hne
  | cons q l => unfold rch; rw [List.takeWhile_cons, if_pos (decide_eq_true (show q.1 ≤ t from h))]; simp
theorem nx_pos {A B : List (Int × Int)} {i j : Nat} (hl : ∀ p ∈ A ++ B, p.1 < 9223372036854775807) (hne : i < A.length ∨ j < B.length) : 0 < rch (A.drop i) (nxA A B i j) + rch (B.drop j) (nxA A B i j) := by
  by_cases hA : i < A.length
  · have ha : A.drop i ≠ [] := by intro h; have := congrArg List.length h; rw [List.length_drop] at this; simp at this; omega
    by_cases hle : fstT (A.drop i) ≤ fstT (B.drop j)
    · have := rch_pos ha (t := nxA A B i j) (by unfold nxA; omega); omega
    · have hb : B.drop j ≠ [] := by
        intro hb
        apply hle
        rw [hb]
        obtain ⟨p, hp, he⟩ := fstT_mem ha
        have := hl p (List.mem_append.2 (.inl (List.mem_of_mem_drop hp)))
        rw [← he]
        show p.1 ≤ 9223372036854775807
        omega
      have := rch_pos hb (t := nxA A B i j) (by unfold nxA; omega); omega
  · have hB : j < B.length := by omega
    have hb : B.drop j ≠ [] := by intro h; have := congrArg List.length h; rw [List.length_drop] at this; simp at this; omega
    have ha : A.drop i = [] := List.drop_eq_nil_of_le (by omega)
    obtain ⟨p, hp, he⟩ := fstT_mem hb
    have hpl := hl p (List.mem_append.2 (.inr (List.mem_of_mem_drop hp)))
    have := rch_pos hb (t := nxA A B i j) (by
      unfold nxA
      rw [ha, ← he]
      show p.1 ≤ min 9223372036854775807 p.1
      omega)
    omega
theorem nrm_mem (f : Int → Int) : ∀ (P : List Int) (n : Int), ∀ p ∈ nrm f n P, p.1 ∈ P
  | [], _, p, h => by simp [nrm] at h
  | t :: P, n, p, h => by
    unfold nrm at h
    split at h
    · exact List.mem_cons_of_mem _ (nrm_mem f P _ p h)
    · rcases List.mem_cons.1 h with rfl | h
      · simp
      · exact List.mem_cons_of_mem _ (nrm_mem f P _ p h)
theorem nrmV_mem (f : Int → Int) (P : List Int) : ∀ p ∈ nrmV f P, p.1 ∈ P := by
  cases P with
  | nil => intro p h; cases h
  | cons t P =>
    intro p h
    rcases List.mem_cons.1 h with rfl | h
    · simp
    · exact List.mem_cons_of_mem _ (nrm_mem f P _ p h)
theorem mg_facts {A B : List (Int × Int)} {i j n m : Nat} {P : List Int} {t : Int} {f : Int → Int} {F : Int → Int → Int} (hN : MInv A B (i + n) (j + m) (P ++ [t])) (HF : ∀ t, f t = F (valF 0 A t) (valF 0 B t)) :
    (∀ p, (nrmV f P).getLast? = some p → p.1 ≠ t) ∧ putL (nrmV f P) t (F (lastN (lastN 0 (A.take i)) ((A.drop i).take n)) (lastN (lastN 0 (B.take j)) ((B.drop j).take m))) = nrmV f (P ++ [t]) ∧ lastN (lastN 0 (A.take i)) ((A.drop i).take n) = lastN 0 (A.take (i + n)) ∧ lastN (lastN 0 (B.take j)) ((B.drop j).take m) = lastN 0 (B.take (j + m)) := by
  have hlt : ∀ x ∈ P, x < t := fun x hx => (List.pairwise_append.1 hN.asc).2.2 x hx t (by simp)
  have hle : ∀ x ∈ P ++ [t], x ≤ t := fun x hx => by
    rcases List.mem_append.1 hx with hx | hx
    · have := hlt x hx; omega
    · simp at hx; omega
  have eA : lastN (lastN 0 (A.take i)) ((A.drop i).take n) = lastN 0 (A.take (i + n)) := by rw [take_add_drop, lastN_append]
  have eB : lastN (lastN 0 (B.take j)) ((B.drop j).take m) = lastN 0 (B.take (j + m)) := by rw [take_add_drop, lastN_append]
  refine ⟨fun p hp => ?_, ?_, eA, eB⟩
  · have := hlt _ (nrmV_mem f P p (List.mem_of_getLast? hp))
    omega
  · have vA : valF 0 A t = lastN 0 (A.take (i + n)) := val_done 0 (fun p hp => hle _ ((hN.mem _).2 (.inl ⟨p, hp, rfl⟩))) (fun p hp => hN.loA t (by simp) p hp)
    have vB : valF 0 B t = lastN 0 (B.take (j + m)) := val_done 0 (fun p hp => hle _ ((hN.mem _).2 (.inr ⟨p, hp, rfl⟩))) (fun p hp => hN.loB t (by simp) p hp)
    rw [eA, eB, ← vA, ← vB, ← HF t]
    by_cases hP : P = []
    · subst hP; exact (putL_one f t).symm
    · exact (putL_nrm f hP t).symm
def RetMg (w : World) (h0 fo : Nat) (l : List (Int × Int)) (e : Ending) (w' : World) : Prop := e = .returned (.tuple #[]) ∧ ∃ x y v', Boxes w' h0 fo x y v' l ∧ Below h0 w w'

set_option maxRecDepth 100000 in
set_option maxHeartbeats 6400000 in
theorem merge_any (fo : Nat) (F : Int → Int → Int) (hF : AsksI fo F) (eg : ∀ args w, (callFunc fo args).run Try.prog w = .ok (.enter fo args) w) (ada adb : Addr) (ca cb : Nat) (A B : List (Int × Int)) (h0 : Nat) (w : World) (L L' : Nat)
    (hb : Boxes w h0 fo 0 0 (.slice none 0 0) []) (h1 : RdP w L h0 (.slice (some ada) A.length ca) A) (h2 : RdP w L' h0 (.slice (some adb) B.length cb) B) (hA : srt A) (hB : srt B) (hl : ∀ p ∈ A ++ B, p.1 < 9223372036854775807) (la : A.length ≤ 100000) (lb : B.length ≤ 100000) :
    Calls Try.prog 55 #[.slice (some ada) A.length ca, .slice (some adb) B.length cb, .func (.func 54) #[] #[], .func (.func 54) #[] #[], .func (.func 56) #[] #[.pointer (some ⟨h0 + 1 + 1, 0, none⟩), .pointer (some ⟨h0 + 1 + 1 + 1, 0, none⟩), .pointer (some ⟨h0 + 1, 0, none⟩), .pointer (some ⟨h0, 0, none⟩)]] w (RetMg w h0 fo (nrmV (fun t => F (valF 0 A t) (valF 0 B t)) (ptsS A B))) := by
  have egv : ∀ args w, (callFunc 56 args).run Try.prog w = .ok (.enter 56 args) w := enters_of Try.func56 (by kernel_rfl) rfl
  have H1 := Lib.hid h1
  have H2 := Lib.hid h2
  have HB := Lib.hid hb
  have HS := Lib.hid (And.intro hA (And.intro hB hl))
  generalize hf : (fun t => F (valF 0 A t) (valF 0 B t)) = f
  have HF : Hid (∀ t, f t = F (valF 0 A t) (valF 0 B t)) := Lib.hid (fun t => by rw [← hf])
  clear hb h1 h2 hA hB hl hf
  go_enter Try.func55, Try.ntmps55
  go_wp2
  go_loopw [0, 1] (fun a b wr => ∃ (i j : Nat) (P : List Int) (vv : Value) (ada adb : Addr) (ca cb : Nat), Hid (MInv A B i j P ∧ P.length ≤ i + j) ∧ a = .slice (some ada) (A.drop i).length ca ∧ b = .slice (some adb) (B.drop j).length cb ∧ Hid (RdP wr 0 h0 a (A.drop i)) ∧ Hid (RdP wr 0 h0 b (B.drop j)) ∧ Hid (Boxes wr h0 fo (lastN 0 (A.take i)) (lastN 0 (B.take j)) vv (nrmV f P)) ∧ Below h0 w wr) (fun a b _ => (match a with | .slice _ n _ => n | _ => 0) + (match b with | .slice _ n _ => n | _ => 0))
  case atStart => exact ⟨0, 0, [], _, ada, adb, ca, cb, Lib.hid ⟨MInv.start A B, by simp⟩, rfl, rfl, Lib.hid (H1.out.more (Nat.le_refl _) (Nat.zero_le _)), Lib.hid (H2.out.more (Nat.le_refl _) (Nat.zero_le _)), HB, Below.refl _ _⟩
  case round =>
    clear H1 H2 HB
    obtain ⟨i, j, P, vv, ada, adb, ca, cb, hM, rfl, rfl, H1, H2, HB, hbr⟩ := hrel
    have hbz := hbr.size
    have hlA := List.length_drop (i := i) (l := A)
    have hlB := List.length_drop (i := j) (l := B)
    by_cases hne : i < A.length ∨ j < B.length
    · obtain ⟨hN, eA, eB⟩ := hM.out.1.next HS.out.1 HS.out.2.1 HS.out.2.2 hne
      have hpos := nx_pos (A := A) (B := B) (i := i) (j := j) HS.out.2.2 hne
      have hh : h0 ≤ wr.heap.size := by have := HB.out.vy.lt; omega
      have HA2 := Lib.hid (fun (w' : World) (hb : Below wr.heap.size wr w') => H1.out.step hb hh)
      have HB2 := Lib.hid (fun (w' : World) (hb : Below wr.heap.size wr w') => H2.out.step hb hh)
      have HFa := Lib.hid (fun (w' : World) (hb : Below wr.heap.size wr w') => first_any _ _ w' _ (HA2.out w' hb))
      have HFb := Lib.hid (fun (w' : World) (hb : Below wr.heap.size wr w') => first_any _ _ w' _ (HB2.out w' hb))
      have HRa := Lib.hid (fun (w' : World) (hb : Below wr.heap.size wr w') => reached_any _ _ (nxA A B i j) w' _ (HA2.out w' hb))
      have HRb := Lib.hid (fun (w' : World) (hb : Below wr.heap.size wr w') => reached_any _ _ (nxA A B i j) w' _ (HB2.out w' hb))
      have hne2 : ¬ ((A.drop i).length = 0 ∧ (B.drop j).length = 0) := by omega
      have lenA : (A.drop i).length ≤ 100000 := by omega
      have lenB : (B.drop j).length ≤ 100000 := by omega
      obtain ⟨_, capA⟩ := H1.out.cap
      obtain ⟨_, capB⟩ := H2.out.cap
      have eN : nxA A B i j = min (fstT (A.drop i)) (fstT (B.drop j)) := rfl
      have rA := rch_le (A.drop i) (nxA A B i j)
      have rB := rch_le (B.drop j) (nxA A B i j)
      have qa : ((rch (A.drop i) (nxA A B i j) : Nat) : Int) ≤ (ca : Int) := by omega
      have qb : ((rch (B.drop j) (nxA A B i j) : Nat) : Int) ≤ (cb : Int) := by omega
      have qa0 : (0 : Int) ≤ ((rch (A.drop i) (nxA A B i j) : Nat) : Int) := by omega
      have qb0 : (0 : Int) ≤ ((rch (B.drop j) (nxA A B i j) : Nat) : Int) := by omega
      have qan : rch (A.drop i) (nxA A B i j) ≤ ca := by omega
      have qbn : rch (B.drop j) (nxA A B i j) ≤ cb := by omega
      have qal : ((rch (A.drop i) (nxA A B i j) : Nat) : Int) ≤ ((A.drop i).length : Int) := by omega
      have qbl : ((rch (B.drop j) (nxA A B i j) : Nat) : Int) ≤ ((B.drop j).length : Int) := by omega
      have MF := mg_facts hN HF.out
      have nl : (nrmV f P).length ≤ 1000000 := by
        have := nrmV_len f P
        have := hM.out.2
        have := hM.out.1.hi
        have := hM.out.1.hj
        omega
      have HVis := Lib.hid (fun (w' : World) (hb : Below wr.heap.size wr w') => visit_any fo F hF eg (nxA A B i j) _ _ _ _ _ _ _ _ h0 w' 0 0 (HB.out.below hb) ((H1.out.below (hb.mono hh)).take _ rA) ((H2.out.below (hb.mono hh)).take _ rB) nl MF.1)
      rw [MF.2.1, MF.2.2.1, MF.2.2.2] at HVis
      clear MF
      have HW := Lib.hid (And.intro hN (And.intro eA (And.intro eB hpos)))
      clear hN eA eB hpos hlA hlB
      generalize nxA A B i j = at' at *
      generalize rch (A.drop i) at' = n at *
      generalize rch (B.drop j) at' = m at *
      generalize fstT (A.drop i) = fa at *
      generalize fstT (B.drop j) = fb at *
      generalize hDA : A.drop i = DA at *
      generalize hDB : B.drop j = DB at *
      clear hne
      by_cases dz : DA.length = 0
      · have dn : ¬ (DB.length : Int) = 0 := by omega
        have dm : 0 < DB.length := by omega
        obtain rfl : n = 0 := by omega
        rw [dz] at HFa HRa HA2 H1 rA ⊢
        go_wp2_with (first
          | (go_at_call 80; (first | with_reducible refine (HFa.out _ ?_).mono ?_ | with_reducible refine (HFb.out _ ?_).mono ?_); (focus (repeat' (first | (with_reducible exact Below.refl _ _) | (with_reducible assumption) | (with_reducible refine Below.alloc ?_ ?_ _) | (with_reducible refine Below.drew ?_) | (with_reducible refine Below.setCell ?_ ?_ _) | (with_reducible refine Below.trans ?_ (Below.mono (by assumption) ?_)) | go_size))); rintro e w2 ⟨rfl, hb2⟩; have hz2 := hb2.size; (try simp only [World.size_drew] at hz2)))
        all_goals first
          | (exfalso; omega)
          | skip
        all_goals first
          | (have ha : at' = fb := by omega
             subst ha
             clear eN)
          | (have ha : at' = fa := by omega
             subst ha
             clear eN)
          | skip
        all_goals go_wp2_with (first
          | (go_at_call 81; (first | with_reducible refine (HRa.out _ ?_).mono ?_ | with_reducible refine (HRb.out _ ?_).mono ?_); (focus (repeat' (first | (with_reducible exact Below.refl _ _) | (with_reducible assumption) | (with_reducible refine Below.alloc ?_ ?_ _) | (with_reducible refine Below.drew ?_) | (with_reducible refine Below.setCell ?_ ?_ _) | (with_reducible refine Below.trans ?_ (Below.mono (by assumption) ?_)) | go_size))); rintro e w3 ⟨rfl, hb3⟩; have hz3 := hb3.size; (try simp only [World.size_drew] at hz3))
          | (go_at_call 56; with_reducible refine (HVis.out _ ?_).mono ?_; (focus (repeat' (first | (with_reducible exact Below.refl _ _) | (with_reducible assumption) | (with_reducible refine Below.alloc ?_ ?_ _) | (with_reducible refine Below.drew ?_) | (with_reducible refine Below.setCell ?_ ?_ _) | (with_reducible refine Below.trans ?_ (Below.mono (by assumption) ?_)) | go_size))); rintro e w4 hR; unfold RetBox at hR; obtain ⟨rfl, v4, HB4, hb4⟩ := hR; have hz4 := hb4.size; (try simp only [World.size_drew] at hz4)))
        all_goals go_region_held3 (fun _ => True)
          (first | exact trivial)
          (first | (go_at_call 56; with_reducible refine (HVis.out _ ?_).mono ?_; (focus (repeat' (first | (with_reducible exact Below.refl _ _) | (with_reducible assumption) | (with_reducible refine Below.alloc ?_ ?_ _) | (with_reducible refine Below.drew ?_) | (with_reducible refine Below.setCell ?_ ?_ _) | (with_reducible refine Below.trans ?_ (Below.mono (by assumption) ?_)) | go_size))); rintro e w4 hR; unfold RetBox at hR; obtain ⟨rfl, v4, HB4, hb4⟩ := hR; have hz4 := hb4.size; (try simp only [World.size_drew] at hz4)))
        all_goals go_wp2
        all_goals go_region_held3 (fun _ => True)
          (first | exact trivial)
          (first | fail)
        all_goals go_wp2
        all_goals go_roundw
        case rel =>
          have hG : Below wr.heap.size wr w3.drew := (by (repeat' (first | (with_reducible exact Below.refl _ _) | (with_reducible assumption) | (with_reducible refine Below.alloc ?_ ?_ _) | (with_reducible refine Below.drew ?_) | (with_reducible refine Below.setCell ?_ ?_ _) | (with_reducible refine Below.trans ?_ (Below.mono (by assumption) ?_)) | go_size)))
          have hB0 : Below h0 wr w4.drew := Below.drew ((hG.mono hh).trans hb4)
          have eDB : B.drop (j + m) = DB.drop m := by rw [← hDB, List.drop_drop]
          have eDA : A.drop (i + 0) = DA := hDA
          refine ⟨i + 0, j + m, P ++ [at'], v4, ada, if cb = m then adb else adb.add (m * 2), ca, cb - m, Lib.hid ⟨HW.out.1, by have := hM.out.2; have := HW.out.2.2.2; simp; omega⟩, by rw [eDA, dz], by rw [eDB, List.length_drop]; split <;> rfl, Lib.hid ?_, Lib.hid ?_, Lib.hid (HB4.below (Below.drew (Below.refl _ _))), hbr.trans hB0⟩
          · rw [eDA]; exact H1.out.below hB0
          · rw [eDB]; exact RdP.dropIf (H2.out.below hB0) capB m _ _ rfl (by omega)
        case measure =>
          have := HW.out.2.2.2
          show 0 + (DB.length - m) < 0 + DB.length
          omega
        case rel =>
          have hG : Below wr.heap.size wr w3.drew := (by (repeat' (first | (with_reducible exact Below.refl _ _) | (with_reducible assumption) | (with_reducible refine Below.alloc ?_ ?_ _) | (with_reducible refine Below.drew ?_) | (with_reducible refine Below.setCell ?_ ?_ _) | (with_reducible refine Below.trans ?_ (Below.mono (by assumption) ?_)) | go_size)))
          have hB0 : Below h0 wr w4.drew := Below.drew ((hG.mono hh).trans hb4)
          have eDB : B.drop (j + m) = DB.drop m := by rw [← hDB, List.drop_drop]
          have eDA : A.drop (i + 0) = DA := hDA
          refine ⟨i + 0, j + m, P ++ [at'], v4, ada, if cb = m then adb else adb.add (m * 2), ca, cb - m, Lib.hid ⟨HW.out.1, by have := hM.out.2; have := HW.out.2.2.2; simp; omega⟩, by rw [eDA, dz], by rw [eDB, List.length_drop]; split <;> rfl, Lib.hid ?_, Lib.hid ?_, Lib.hid (HB4.below (Below.drew (Below.refl _ _))), hbr.trans hB0⟩
          · rw [eDA]; exact H1.out.below hB0
          · rw [eDB]; exact RdP.dropIf (H2.out.below hB0) capB m _ _ rfl (by omega)
        case measure =>
          have := HW.out.2.2.2
          show 0 + (DB.length - m) < 0 + DB.length
          omega
      · have dn : ¬ (DA.length : Int) = 0 := by omega
        go_wp2_with (first
          | (go_at_call 80; (first | with_reducible refine (HFa.out _ ?_).mono ?_ | with_reducible refine (HFb.out _ ?_).mono ?_); (focus (repeat' (first | (with_reducible exact Below.refl _ _) | (with_reducible assumption) | (with_reducible refine Below.alloc ?_ ?_ _) | (with_reducible refine Below.drew ?_) | (with_reducible refine Below.setCell ?_ ?_ _) | (with_reducible refine Below.trans ?_ (Below.mono (by assumption) ?_)) | go_size))); rintro e w2 ⟨rfl, hb2⟩; have hz2 := hb2.size; (try simp only [World.size_drew] at hz2)))
        all_goals first
          | (exfalso; omega)
          | skip
        all_goals first
          | (have ha : at' = fb := by omega
             subst ha
             clear eN)
          | (have ha : at' = fa := by omega
             subst ha
             clear eN)
          | skip
        all_goals go_wp2_with (first
          | (go_at_call 81; (first | with_reducible refine (HRa.out _ ?_).mono ?_ | with_reducible refine (HRb.out _ ?_).mono ?_); (focus (repeat' (first | (with_reducible exact Below.refl _ _) | (with_reducible assumption) | (with_reducible refine Below.alloc ?_ ?_ _) | (with_reducible refine Below.drew ?_) | (with_reducible refine Below.setCell ?_ ?_ _) | (with_reducible refine Below.trans ?_ (Below.mono (by assumption) ?_)) | go_size))); rintro e w3 ⟨rfl, hb3⟩; have hz3 := hb3.size; (try simp only [World.size_drew] at hz3))
          | (go_at_call 56; with_reducible refine (HVis.out _ ?_).mono ?_; (focus (repeat' (first | (with_reducible exact Below.refl _ _) | (with_reducible assumption) | (with_reducible refine Below.alloc ?_ ?_ _) | (with_reducible refine Below.drew ?_) | (with_reducible refine Below.setCell ?_ ?_ _) | (with_reducible refine Below.trans ?_ (Below.mono (by assumption) ?_)) | go_size))); rintro e w4 hR; unfold RetBox at hR; obtain ⟨rfl, v4, HB4, hb4⟩ := hR; have hz4 := hb4.size; (try simp only [World.size_drew] at hz4)))
        all_goals go_region_held3 (fun _ => True)
          (first | exact trivial)
          (first | (go_at_call 56; with_reducible refine (HVis.out _ ?_).mono ?_; (focus (repeat' (first | (with_reducible exact Below.refl _ _) | (with_reducible assumption) | (with_reducible refine Below.alloc ?_ ?_ _) | (with_reducible refine Below.drew ?_) | (with_reducible refine Below.setCell ?_ ?_ _) | (with_reducible refine Below.trans ?_ (Below.mono (by assumption) ?_)) | go_size))); rintro e w4 hR; unfold RetBox at hR; obtain ⟨rfl, v4, HB4, hb4⟩ := hR; have hz4 := hb4.size; (try simp only [World.size_drew] at hz4)))
        all_goals go_wp2
        all_goals go_region_held3 (fun _ => True)
          (first | exact trivial)
          (first | fail)
        all_goals go_wp2
        all_goals go_roundw
        case rel =>
          have hG : Below wr.heap.size wr w3.drew := (by (repeat' (first | (with_reducible exact Below.refl _ _) | (with_reducible assumption) | (with_reducible refine Below.alloc ?_ ?_ _) | (with_reducible refine Below.drew ?_) | (with_reducible refine Below.setCell ?_ ?_ _) | (with_reducible refine Below.trans ?_ (Below.mono (by assumption) ?_)) | go_size)))
          have hB0 : Below h0 wr w4.drew := Below.drew ((hG.mono hh).trans hb4)
          have eDB : B.drop (j + m) = DB.drop m := by rw [← hDB, List.drop_drop]
          have eDA : A.drop (i + n) = DA.drop n := by rw [← hDA, List.drop_drop]
          refine ⟨i + n, j + m, P ++ [at'], v4, if ca = n then ada else ada.add (n * 2), if cb = m then adb else adb.add (m * 2), ca - n, cb - m, Lib.hid ⟨HW.out.1, by have := hM.out.2; have := HW.out.2.2.2; simp; omega⟩, by rw [eDA, List.length_drop]; split <;> rfl, by rw [eDB, List.length_drop]; split <;> rfl, Lib.hid ?_, Lib.hid ?_, Lib.hid (HB4.below (Below.drew (Below.refl _ _))), hbr.trans hB0⟩
          · rw [eDA]; exact RdP.dropIf (H1.out.below hB0) capA n _ _ rfl (by omega)
          · rw [eDB]; exact RdP.dropIf (H2.out.below hB0) capB m _ _ rfl (by omega)
        case measure =>
          have := HW.out.2.2.2
          show (DA.length - n) + (DB.length - m) < DA.length + DB.length
          omega
        case rel =>
          have hG : Below wr.heap.size wr w3.drew := (by (repeat' (first | (with_reducible exact Below.refl _ _) | (with_reducible assumption) | (with_reducible refine Below.alloc ?_ ?_ _) | (with_reducible refine Below.drew ?_) | (with_reducible refine Below.setCell ?_ ?_ _) | (with_reducible refine Below.trans ?_ (Below.mono (by assumption) ?_)) | go_size)))
          have hB0 : Below h0 wr w4.drew := Below.drew ((hG.mono hh).trans hb4)
          have eDB : B.drop (j + m) = DB.drop m := by rw [← hDB, List.drop_drop]
          have eDA : A.drop (i + n) = DA.drop n := by rw [← hDA, List.drop_drop]
          refine ⟨i + n, j + m, P ++ [at'], v4, if ca = n then ada else ada.add (n * 2), if cb = m then adb else adb.add (m * 2), ca - n, cb - m, Lib.hid ⟨HW.out.1, by have := hM.out.2; have := HW.out.2.2.2; simp; omega⟩, by rw [eDA, List.length_drop]; split <;> rfl, by rw [eDB, List.length_drop]; split <;> rfl, Lib.hid ?_, Lib.hid ?_, Lib.hid (HB4.below (Below.drew (Below.refl _ _))), hbr.trans hB0⟩
          · rw [eDA]; exact RdP.dropIf (H1.out.below hB0) capA n _ _ rfl (by omega)
          · rw [eDB]; exact RdP.dropIf (H2.out.below hB0) capB m _ _ rfl (by omega)
        case measure =>
          have := HW.out.2.2.2
          show (DA.length - n) + (DB.length - m) < DA.length + DB.length
          omega
    · have hi := hM.out.1.hi
      have hj := hM.out.1.hj
      have hiA : i = A.length := by omega
      have hjB : j = B.length := by omega
      subst hiA hjB
      have hP := hM.out.1.all
      rw [hP] at HB
      have e1 : (A.drop A.length).length = 0 := by rw [hlA]; omega
      have e2 : (B.drop B.length).length = 0 := by rw [hlB]; omega
      rw [e1, e2]
      clear hP hlA hlB hM H1 H2 HS HF
      generalize nrmV f (ptsS A B) = R at *
      go_wp2
      go_returns
      exact ⟨rfl, _, _, _, HB.out, hbr⟩
end Go.Proofs.Ytbpjgipldddcfaa
