import Derived.Test.YtbpjgipldddcfaaGT
import Derived.WalkKit
import Derived.WalkSpells
import Derived.WalkLawsBesides
import Derived.Deep.QuietTactic
import Derived.BigQuiet
import Derived.Handy
import Derived.Lib.Hide
/-
  The program's merge of sorted pieces, as Of uses it. Conditions: at most 10000 pieces each.
-/
namespace Go.Proofs.Ytbpjgipldddcfaa
set_option maxRecDepth 100000
set_option linter.unusedVariables false
set_option linter.unusedSimpArgs false
open Go.RowKit

theorem RdB.len {w : World} {L B : Nat} {A : Option Addr} {n c : Nat} {l : List Bd} (h : RdB w L B (.slice A n c) l) : n = l.length ∧ l.length ≤ 9223372036854775807 := by
  obtain ⟨A', c', hv, hl, _⟩ := h
  injection hv with e1 e2 e3
  exact ⟨e2, hl⟩
theorem RdB.drop {w : World} {L B : Nat} {ad : Addr} {n c : Nat} {l : List Bd} (h : RdB w L B (.slice (some ad) n c) l) (j m d : Nat) (hm : m = l.length - j) : RdB w L B (.slice (some (ad.add (j * 3))) m d) (l.drop j) := by
  obtain ⟨_, hl⟩ := h.len
  refine ⟨some (ad.add (j * 3)), d, by rw [hm, List.length_drop], by rw [List.length_drop]; omega, fun k p hk => ?_⟩
  rw [List.getElem?_drop] at hk
  obtain ⟨ad', e, h1, h2, h3, h4, h5⟩ := h.at hk
  injection e with e
  subst e
  refine ⟨ad.add (j * 3), rfl, by rw [add_block]; exact h1, by rw [add_block]; exact h2, ?_, ?_, ?_⟩
  · rw [add_add, ← Nat.add_mul]; exact h3
  · rw [add_add, show j * 3 + (k * 3 + 1) = (j + k) * 3 + 1 by omega]; exact h4
  · rw [add_add, show j * 3 + (k * 3 + 2) = (j + k) * 3 + 2 by omega]; exact h5
theorem RdB.nil (w : World) (L B : Nat) (c : Nat) (A : Option Addr) : RdB w L B (.slice A 0 c) [] := ⟨A, c, rfl, by simp, by simp⟩
theorem RdB.dropIf {w : World} {L B : Nat} {ad : Addr} {n c : Nat} {l : List Bd} (h : RdB w L B (.slice (some ad) n c) l) (hc : l.length ≤ c) (j m d : Nat) (hm : m = l.length - j) : RdB w L B (.slice (if c = j then some ad else some (ad.add (j * 3))) m d) (l.drop j) := by
  by_cases hj : c = j
  · rw [if_pos hj]
    have hn : l.drop j = [] := List.drop_eq_nil_of_le (by omega)
    rw [hn, show m = 0 by omega]
    exact RdB.nil _ _ _ _ _
  · rw [if_neg hj]
    exact RdB.drop h j m d hm
theorem RdB.take {w : World} {L B : Nat} {A : Option Addr} {m c : Nat} {l : List Bd} (h : RdB w L B (.slice A m c) l) (n : Nat) (hn : n ≤ l.length) : RdB w L B (.slice A n c) (l.take n) := by
  obtain ⟨_, hl⟩ := h.len
  have hlen : (l.take n).length = n := by rw [List.length_take]; omega
  refine ⟨A, c, by rw [hlen], by omega, fun k p hk => ?_⟩
  have hkn := (List.getElem?_eq_some_iff.1 hk).1
  rw [hlen] at hkn
  rw [List.getElem?_take, if_pos hkn] at hk
  exact h.at hk
/-- The sum of the numbers of the pairs up to t, and of all. -/
def kS (l : List (Int × Int)) (t : Int) : Int := (l.map fun p => if p.1 ≤ t then p.2 else 0).sum
def sumN (l : List (Int × Int)) : Int := (l.map (·.2)).sum
theorem sumN_append (l m : List (Int × Int)) : sumN (l ++ m) = sumN l + sumN m := by unfold sumN; rw [List.map_append, List.sum_append]
theorem kS_append (l m : List (Int × Int)) (t : Int) : kS (l ++ m) t = kS l t + kS m t := by unfold kS; rw [List.map_append, List.sum_append]
theorem kS_all : ∀ (l : List (Int × Int)) (t : Int), (∀ p ∈ l, p.1 ≤ t) → kS l t = sumN l
  | [], _, _ => rfl
  | p :: l, t, h => by
    have := kS_all l t (fun q hq => h q (List.mem_cons_of_mem _ hq))
    unfold kS sumN at *
    rw [List.map_cons, List.map_cons, List.sum_cons, List.sum_cons, this, if_pos (h p (by simp))]
theorem kS_none : ∀ (l : List (Int × Int)) (t : Int), (∀ p ∈ l, t < p.1) → kS l t = 0
  | [], _, _ => rfl
  | p :: l, t, h => by
    have := kS_none l t (fun q hq => h q (List.mem_cons_of_mem _ hq))
    unfold kS at *
    rw [List.map_cons, List.sum_cons, this, if_neg (by have := h p (by simp); omega)]
    rfl
theorem kS_done {l : List (Int × Int)} {i : Nat} {t : Int} (h1 : ∀ p ∈ l.take i, p.1 ≤ t) (h2 : ∀ p ∈ l.drop i, t < p.1) : kS l t = sumN (l.take i) := by
  conv => lhs; rw [← List.take_append_drop i l]
  rw [kS_append, kS_all _ _ h1, kS_none _ _ h2]
  omega
theorem totW_map (κ : Pc → Int × Int) (hκ : ∀ c, (κ c).2 = c.2.2) (l : List Pc) : totW l = IntKind.i64.wrap (sumN (l.map κ)) := by
  rw [totW_eq]
  unfold sumN
  rw [List.map_map]
  congr 3
  funext c
  exact (hκ c).symm
theorem wr_four (a b c d : Int) : IntKind.i64.wrap (IntKind.i64.wrap (a - b) + IntKind.i64.wrap (IntKind.i64.wrap c - IntKind.i64.wrap d)) = IntKind.i64.wrap (a + c - (b + d)) := by
  rw [wr_sub, wr_sub2, wr_add, wr_add2]
  congr 1
  omega
/-- The points with the first instant. -/
def P0 (P : List Int) : List Int := match P with
  | [] => [0]
  | p :: P => if p = 0 then p :: P else 0 :: p :: P
def resP (f : Int → Int) (P : List Int) : List (Int × Int) := match P with
  | [] => [(0, 0)]
  | p :: P => nrmV f (P0 (p :: P))
theorem P0_ne (P : List Int) : P0 P ≠ [] := by cases P with
  | nil => simp [P0]
  | cons p P => unfold P0; dsimp only; split <;> simp
theorem P0_snoc {P : List Int} (hP : P ≠ []) (t : Int) : P0 (P ++ [t]) = P0 P ++ [t] := by
  match P, hP with
  | p :: P, _ =>
    show P0 (p :: (P ++ [t])) = _
    unfold P0
    dsimp only
    split <;> simp
theorem P0_mem {P : List Int} {x : Int} (h : x ∈ P0 P) : x = 0 ∨ x ∈ P := by
  match P with
  | [] => simp [P0] at h; exact .inl h
  | p :: P =>
    unfold P0 at h
    dsimp only at h
    split at h
    · exact .inr h
    · rcases List.mem_cons.1 h with h | h
      · exact .inl h
      · exact .inr h
theorem resP_ne {f : Int → Int} {P : List Int} (hP : P ≠ []) : resP f P = nrmV f (P0 P) := by
  match P, hP with
  | p :: P, _ => rfl
/-- What changed does at the next point. -/
theorem ch_next (h0 : Nat) (f : Int → Int) (P : List Int) (t : Int) (hlt : ∀ x ∈ P, x < t) (hp : ∀ x ∈ P, 0 ≤ x) (ht : 0 ≤ t) (hz : P = [] → 0 < t → f 0 = 0) (hlen : P.length ≤ 100000) : ChOk h0 (resP f P) t (f t) (resP f (P ++ [t])) := by
  intro v W hown hb
  by_cases hP : P = []
  · subst hP
    by_cases h0t : t = 0
    · subst h0t
      exact changed_zeroG v 0 (f 0) W h0 hown hb
    · have hf := hz rfl (by omega)
      have e : resP f ([] ++ [t]) = putL [(0, 0)] t (f t) := by
        have := putL_nrm f (P := [0]) (by simp) t
        rw [show nrmV f [0] = [(0, 0)] by show [(0, f 0)] = _; rw [hf]] at this
        rw [← this]
        show nrmV f (P0 [t]) = _
        unfold P0
        dsimp only
        rw [if_neg h0t]
        rfl
      rw [e]
      exact changed_grow v [(0, 0)] t (f t) W h0 hown hb (by simp) (fun p hp => by simp at hp; subst hp; show (0 : Int) ≠ t; omega)
  · have e : resP f (P ++ [t]) = putL (nrmV f (P0 P)) t (f t) := by
      rw [resP_ne (by simp), P0_snoc hP, putL_nrm f (P0_ne P)]
    rw [e]
    rw [resP_ne hP] at hown
    have hl := nrmV_len f (P0 P)
    have hl2 : (P0 P).length ≤ P.length + 1 := by
      match P with
      | [] => simp [P0]
      | p :: P => unfold P0; dsimp only; split <;> simp
    refine changed_grow v _ t (f t) W h0 hown hb (by omega) (fun p hp2 => ?_)
    have hm := nrmV_mem f _ p (List.mem_of_getLast? hp2)
    rcases P0_mem hm with h | h
    · match P, hP with
      | q :: P, _ =>
        have := hlt q (by simp)
        have := hp q (by simp)
        omega
    · have := hlt _ h; omega
def RetMC (w : World) (hr hv h0 : Nat) (l : List (Int × Int)) (e : Ending) (w' : World) : Prop := e = .returned (.tuple #[]) ∧ ∃ n v', BoxC w' hr hv h0 n v' l ∧ Below h0 w w'
/-- The value of the sum at t. -/
def fC (A B : List (Int × Int)) (t : Int) : Int := IntKind.i64.wrap (kS A t - kS B t)
/-- What a round of the merge needs. -/
theorem mc_facts {A B : List Pc} {i j n m : Nat} {P : List Int} {t : Int} (hN : MInv (A.map kBeg) (B.map kEnd) (i + n) (j + m) (P ++ [t])) (hpos : ∀ p ∈ A.map kBeg ++ B.map kEnd, 0 ≤ p.1) (hlen : P.length ≤ 100000) (h0 : Nat) :
    IntKind.i64.wrap (IntKind.i64.wrap (sumN ((A.map kBeg).take i) - sumN ((B.map kEnd).take j)) + IntKind.i64.wrap (totW ((A.drop i).take n) - totW ((B.drop j).take m))) = fC (A.map kBeg) (B.map kEnd) t ∧
    fC (A.map kBeg) (B.map kEnd) t = IntKind.i64.wrap (sumN ((A.map kBeg).take (i + n)) - sumN ((B.map kEnd).take (j + m))) ∧
    ChOk h0 (resP (fC (A.map kBeg) (B.map kEnd)) P) t (fC (A.map kBeg) (B.map kEnd) t) (resP (fC (A.map kBeg) (B.map kEnd)) (P ++ [t])) := by
  have hlt : ∀ x ∈ P, x < t := fun x hx => (List.pairwise_append.1 hN.asc).2.2 x hx t (by simp)
  have hle : ∀ x ∈ P ++ [t], x ≤ t := fun x hx => by
    rcases List.mem_append.1 hx with hx | hx
    · have := hlt x hx; omega
    · simp at hx; omega
  have hge : ∀ x ∈ P ++ [t], 0 ≤ x := fun x hx => by
    rcases (hN.mem x).1 hx with ⟨p, hp, rfl⟩ | ⟨p, hp, rfl⟩
    · exact hpos p (List.mem_append.2 (.inl (List.mem_of_mem_take hp)))
    · exact hpos p (List.mem_append.2 (.inr (List.mem_of_mem_take hp)))
  have eA : kS (A.map kBeg) t = sumN ((A.map kBeg).take (i + n)) := kS_done (fun p hp => hle _ ((hN.mem _).2 (.inl ⟨p, hp, rfl⟩))) (fun p hp => hN.loA t (by simp) p hp)
  have eB : kS (B.map kEnd) t = sumN ((B.map kEnd).take (j + m)) := kS_done (fun p hp => hle _ ((hN.mem _).2 (.inr ⟨p, hp, rfl⟩))) (fun p hp => hN.loB t (by simp) p hp)
  have f2 : fC (A.map kBeg) (B.map kEnd) t = IntKind.i64.wrap (sumN ((A.map kBeg).take (i + n)) - sumN ((B.map kEnd).take (j + m))) := by unfold fC; rw [eA, eB]
  refine ⟨?_, f2, ?_⟩
  · rw [f2, totW_map kBeg (fun _ => rfl), totW_map kEnd (fun _ => rfl), wr_four, take_add_drop, take_add_drop, sumN_append, sumN_append, List.map_take, List.map_drop, List.map_take, List.map_drop]
  · refine ch_next h0 _ P t hlt (fun x hx => hge x (by simp [hx])) (hge t (by simp)) (fun hP h0t => ?_) hlen
    subst hP
    unfold fC
    have hA : ∀ p ∈ A.map kBeg, 0 < p.1 := fun p hp => by
      rw [← List.take_append_drop (i + n) (A.map kBeg)] at hp
      rcases List.mem_append.1 hp with hp | hp
      · have := (hN.mem p.1).2 (.inl ⟨p, hp, rfl⟩); simp at this; omega
      · have := hN.loA t (by simp) p hp; omega
    have hB : ∀ p ∈ B.map kEnd, 0 < p.1 := fun p hp => by
      rw [← List.take_append_drop (j + m) (B.map kEnd)] at hp
      rcases List.mem_append.1 hp with hp | hp
      · have := (hN.mem p.1).2 (.inr ⟨p, hp, rfl⟩); simp at this; omega
      · have := hN.loB t (by simp) p hp; omega
    rw [kS_none _ 0 hA, kS_none _ 0 hB]
    exact wr_zero
set_option maxRecDepth 100000 in
set_option maxHeartbeats 6400000 in
theorem mergeC_any (ada adb : Addr) (ca cb : Nat) (A B : List Pc) (hr hv h0 : Nat) (w : World) (v0 : Value)
    (hb : BoxC w hr hv h0 0 v0 [(0, 0)]) (k1 : RdB w 0 h0 (.slice (some ada) A.length ca) A) (k2 : RdB w 0 h0 (.slice (some adb) B.length cb) B) (hca : A.length ≤ ca) (hcb : B.length ≤ cb) (h1 : h0 ≤ hr) (h2 : h0 ≤ hv) (hne0 : hr ≠ hv)
    (hA : srt (A.map kBeg)) (hB : srt (B.map kEnd)) (hl : ∀ p ∈ A.map kBeg ++ B.map kEnd, p.1 < 9223372036854775807) (hpos : ∀ p ∈ A.map kBeg ++ B.map kEnd, 0 ≤ p.1) (la : A.length ≤ 10000) (lb : B.length ≤ 10000) :
    Calls Try.prog 50 #[.slice (some ada) A.length ca, .slice (some adb) B.length cb, .func (.func 47) #[] #[], .func (.func 48) #[] #[], .func (.func 51) #[] #[.pointer (some ⟨hv, 0, none⟩), .pointer (some ⟨hr, 0, none⟩)]] w (RetMC w hr hv h0 (resP (fC (A.map kBeg) (B.map kEnd)) (ptsS (A.map kBeg) (B.map kEnd)))) := by
  have egv : ∀ args w, (callFunc 51 args).run Try.prog w = .ok (.enter 51 args) w := enters_of Try.func51 (by kernel_rfl) rfl
  have eg1 : ∀ args w, (callFunc 47 args).run Try.prog w = .ok (.enter 47 args) w := enters_of Try.func47 (by kernel_rfl) rfl
  have eg2 : ∀ args w, (callFunc 48 args).run Try.prog w = .ok (.enter 48 args) w := enters_of Try.func48 (by kernel_rfl) rfl
  have H1 := Lib.hid k1
  have H2 := Lib.hid k2
  have HB : Hid (BoxC w hr hv h0 (IntKind.i64.wrap (sumN ((A.map kBeg).take 0) - sumN ((B.map kEnd).take 0))) v0 (resP (fC (A.map kBeg) (B.map kEnd)) [])) := Lib.hid hb
  have HS := Lib.hid (And.intro hA (And.intro hB (And.intro hl hpos)))
  generalize hf : fC (A.map kBeg) (B.map kEnd) = f at *
  clear hb k1 k2 hA hB hl hpos
  go_enter Try.func50, Try.ntmps50
  go_wp2
  go_loopw [0, 1] (fun a b wr => ∃ (i j : Nat) (P : List Int) (vv : Value) (ada adb : Addr) (ca cb : Nat), Hid (MInv (A.map kBeg) (B.map kEnd) i j P ∧ P.length ≤ i + j) ∧ a = .slice (some ada) (A.drop i).length ca ∧ b = .slice (some adb) (B.drop j).length cb ∧ Hid (RdB wr 0 h0 a (A.drop i)) ∧ Hid (RdB wr 0 h0 b (B.drop j)) ∧ (A.drop i).length ≤ ca ∧ (B.drop j).length ≤ cb ∧ Hid (BoxC wr hr hv h0 (IntKind.i64.wrap (sumN ((A.map kBeg).take i) - sumN ((B.map kEnd).take j))) vv (resP f P)) ∧ Below h0 w wr) (fun a b _ => (match a with | .slice _ n _ => n | _ => 0) + (match b with | .slice _ n _ => n | _ => 0))
  case atStart => exact ⟨0, 0, [], _, ada, adb, ca, cb, Lib.hid ⟨MInv.start _ _, by simp⟩, rfl, rfl, Lib.hid (H1.out.more (Nat.le_refl _) (Nat.zero_le _)), Lib.hid (H2.out.more (Nat.le_refl _) (Nat.zero_le _)), hca, hcb, HB, Below.refl _ _⟩
  case round =>
    clear H1 H2 HB
    obtain ⟨i, j, P, vv, ada, adb, ca, cb, hM, rfl, rfl, H1, H2, capA, capB, HB, hbr⟩ := hrel
    have hbz := hbr.size
    have hlA := List.length_drop (i := i) (l := A)
    have hlB := List.length_drop (i := j) (l := B)
    by_cases hne : i < A.length ∨ j < B.length
    · have lmA : (A.map kBeg).length = A.length := List.length_map _
      have lmB : (B.map kEnd).length = B.length := List.length_map _
      obtain ⟨hN, eA, eB⟩ := hM.out.1.next HS.out.1 HS.out.2.1 HS.out.2.2.1 (by omega)
      have hpos := nx_pos (A := A.map kBeg) (B := B.map kEnd) (i := i) (j := j) HS.out.2.2.1 (by omega)
      have hh : h0 ≤ wr.heap.size := by have := HB.out.val.lt; omega
      have HA2 := Lib.hid (fun (w' : World) (hb : Below wr.heap.size wr w') => H1.out.step hb hh)
      have HB2 := Lib.hid (fun (w' : World) (hb : Below wr.heap.size wr w') => H2.out.step hb hh)
      have HFa := Lib.hid (fun (w' : World) (hb : Below wr.heap.size wr w') => firstC_any _ kBeg asks_beg eg1 _ _ w' _ (HA2.out w' hb))
      have HFb := Lib.hid (fun (w' : World) (hb : Below wr.heap.size wr w') => firstC_any _ kEnd asks_end eg2 _ _ w' _ (HB2.out w' hb))
      have HRa := Lib.hid (fun (w' : World) (hb : Below wr.heap.size wr w') => reachedC_any _ kBeg asks_beg eg1 _ _ (nxA (A.map kBeg) (B.map kEnd) i j) w' _ (HA2.out w' hb))
      have HRb := Lib.hid (fun (w' : World) (hb : Below wr.heap.size wr w') => reachedC_any _ kEnd asks_end eg2 _ _ (nxA (A.map kBeg) (B.map kEnd) i j) w' _ (HB2.out w' hb))
      have mdA : (A.map kBeg).drop i = (A.drop i).map kBeg := List.map_drop.symm
      have mdB : (B.map kEnd).drop j = (B.drop j).map kEnd := List.map_drop.symm
      have hne2 : ¬ ((A.drop i).length = 0 ∧ (B.drop j).length = 0) := by omega
      have lenA : (A.drop i).length ≤ 100000 := by omega
      have lenB : (B.drop j).length ≤ 100000 := by omega
      have eN : nxA (A.map kBeg) (B.map kEnd) i j = min (fstT ((A.drop i).map kBeg)) (fstT ((B.drop j).map kEnd)) := by unfold nxA; rw [mdA, mdB]
      rw [mdA] at hN eA hpos
      rw [mdB] at hN eB hpos
      have rA := rch_le ((A.drop i).map kBeg) (nxA (A.map kBeg) (B.map kEnd) i j)
      have rB := rch_le ((B.drop j).map kEnd) (nxA (A.map kBeg) (B.map kEnd) i j)
      rw [List.length_map] at rA rB
      have qa : ((rch ((A.drop i).map kBeg) (nxA (A.map kBeg) (B.map kEnd) i j) : Nat) : Int) ≤ (ca : Int) := by omega
      have qb : ((rch ((B.drop j).map kEnd) (nxA (A.map kBeg) (B.map kEnd) i j) : Nat) : Int) ≤ (cb : Int) := by omega
      have qa0 : (0 : Int) ≤ ((rch ((A.drop i).map kBeg) (nxA (A.map kBeg) (B.map kEnd) i j) : Nat) : Int) := by omega
      have qb0 : (0 : Int) ≤ ((rch ((B.drop j).map kEnd) (nxA (A.map kBeg) (B.map kEnd) i j) : Nat) : Int) := by omega
      have qan : rch ((A.drop i).map kBeg) (nxA (A.map kBeg) (B.map kEnd) i j) ≤ ca := by omega
      have qbn : rch ((B.drop j).map kEnd) (nxA (A.map kBeg) (B.map kEnd) i j) ≤ cb := by omega
      have qal : ((rch ((A.drop i).map kBeg) (nxA (A.map kBeg) (B.map kEnd) i j) : Nat) : Int) ≤ ((A.drop i).length : Int) := by omega
      have qbl : ((rch ((B.drop j).map kEnd) (nxA (A.map kBeg) (B.map kEnd) i j) : Nat) : Int) ≤ ((B.drop j).length : Int) := by omega
      have MF := mc_facts (t := nxA (A.map kBeg) (B.map kEnd) i j) hN HS.out.2.2.2 (by have := hM.out.2; have := hM.out.1.hi; have := hM.out.1.hj; omega) h0
      rw [hf] at MF
      have HVis := Lib.hid (fun (w' : World) (hb : Below wr.heap.size wr w') => visitC_any (nxA (A.map kBeg) (B.map kEnd) i j) _ _ _ _ _ _ _ hr hv h0 _ w' 0 0 (HB.out.below hb) ((H1.out.below (hb.mono hh)).take _ rA) ((H2.out.below (hb.mono hh)).take _ rB) h1 h2 hne0 (by rw [MF.1]; exact MF.2.2))
      rw [MF.1, MF.2.1] at HVis
      clear MF
      have HW := Lib.hid (And.intro hN (And.intro eA (And.intro eB hpos)))
      clear hN eA eB hpos hlA hlB mdA mdB lmA lmB
      generalize nxA (A.map kBeg) (B.map kEnd) i j = at' at *
      generalize rch ((A.drop i).map kBeg) at' = n at *
      generalize rch ((B.drop j).map kEnd) at' = m at *
      generalize fstT ((A.drop i).map kBeg) = fa at *
      generalize fstT ((B.drop j).map kEnd) = fb at *
      generalize hDA : A.drop i = DA at *
      generalize hDB : B.drop j = DB at *
      clear hne
      by_cases dz : DA.length = 0
      · have dn : ¬ (DB.length : Int) = 0 := by omega
        have dm : 0 < DB.length := by omega
        obtain rfl : n = 0 := by omega
        rw [dz] at HFa HRa HA2 H1 rA ⊢
        go_wp2_with (first
          | (go_at_call 78; (first | with_reducible refine (HFa.out _ ?_).mono ?_ | with_reducible refine (HFb.out _ ?_).mono ?_); (focus (repeat' (first | (with_reducible exact Below.refl _ _) | (with_reducible assumption) | (with_reducible refine Below.alloc ?_ ?_ _) | (with_reducible refine Below.drew ?_) | (with_reducible refine Below.setCell ?_ ?_ _) | (with_reducible refine Below.trans ?_ (Below.mono (by assumption) ?_)) | go_size))); rintro e w2 ⟨rfl, hb2⟩; have hz2 := hb2.size; (try simp only [World.size_drew] at hz2)))
        subst eN
        generalize hmin : min fa fb = at2 at *
        all_goals go_wp2_with (first
          | (go_at_call 79; (first | with_reducible refine (HRa.out _ ?_).mono ?_ | with_reducible refine (HRb.out _ ?_).mono ?_); (focus (repeat' (first | (with_reducible exact Below.refl _ _) | (with_reducible assumption) | (with_reducible refine Below.alloc ?_ ?_ _) | (with_reducible refine Below.drew ?_) | (with_reducible refine Below.setCell ?_ ?_ _) | (with_reducible refine Below.trans ?_ (Below.mono (by assumption) ?_)) | go_size))); rintro e w3 ⟨rfl, hb3⟩; have hz3 := hb3.size; (try simp only [World.size_drew] at hz3))
          | (go_at_call 51; with_reducible refine (HVis.out _ ?_).mono ?_; (focus (repeat' (first | (with_reducible exact Below.refl _ _) | (with_reducible assumption) | (with_reducible refine Below.alloc ?_ ?_ _) | (with_reducible refine Below.drew ?_) | (with_reducible refine Below.setCell ?_ ?_ _) | (with_reducible refine Below.trans ?_ (Below.mono (by assumption) ?_)) | go_size))); rintro e w4 hR; unfold RetV at hR; obtain ⟨rfl, v4, HB4, hb4⟩ := hR; have hz4 := hb4.size; (try simp only [World.size_drew] at hz4)))
        all_goals go_region_held3 (fun _ => True)
          (first | exact trivial)
          (first | (go_at_call 51; with_reducible refine (HVis.out _ ?_).mono ?_; (focus (repeat' (first | (with_reducible exact Below.refl _ _) | (with_reducible assumption) | (with_reducible refine Below.alloc ?_ ?_ _) | (with_reducible refine Below.drew ?_) | (with_reducible refine Below.setCell ?_ ?_ _) | (with_reducible refine Below.trans ?_ (Below.mono (by assumption) ?_)) | go_size))); rintro e w4 hR; unfold RetV at hR; obtain ⟨rfl, v4, HB4, hb4⟩ := hR; have hz4 := hb4.size; (try simp only [World.size_drew] at hz4)))
        all_goals go_wp2
        all_goals go_region_held3 (fun _ => True)
          (first | exact trivial)
          (first | fail)
        all_goals go_wp2
        all_goals go_roundw
        case rel =>
          have hG : Below wr.heap.size wr w3.drew := (by (repeat' (first | (with_reducible exact Below.refl _ _) | (with_reducible assumption) | (with_reducible refine Below.alloc ?_ ?_ _) | (with_reducible refine Below.drew ?_) | (with_reducible refine Below.setCell ?_ ?_ _) | (with_reducible refine Below.trans ?_ (Below.mono (by assumption) ?_)) | go_size)))
          have hB0 : Below h0 wr w4.drew := Below.drew ((hG.mono hh).trans hb4)
          have eDB : B.drop (j + m) = DB.drop m := by rw [← hDB, List.drop_drop]
          have eDA : A.drop (i + 0) = DA := hDA
          refine ⟨i + 0, j + m, P ++ [_], v4, ada, if cb = m then adb else adb.add (m * 3), ca, cb - m, Lib.hid ⟨HW.out.1, by have := hM.out.2; have := HW.out.2.2.2; simp; omega⟩, by rw [eDA, dz], by rw [eDB, List.length_drop]; split <;> rfl, Lib.hid ?_, Lib.hid ?_, (by rw [eDA]; omega), (by rw [eDB, List.length_drop]; omega), Lib.hid (HB4.below (Below.drew (Below.refl _ _))), hbr.trans hB0⟩
          · rw [eDA]; exact H1.out.below hB0
          · rw [eDB]; exact RdB.dropIf (H2.out.below hB0) capB m _ _ rfl
        case measure =>
          have := HW.out.2.2.2
          show 0 + (DB.length - m) < 0 + DB.length
          omega
      · have dn : ¬ (DA.length : Int) = 0 := by omega
        go_wp2_with (first
          | (go_at_call 78; (first | with_reducible refine (HFa.out _ ?_).mono ?_ | with_reducible refine (HFb.out _ ?_).mono ?_); (focus (repeat' (first | (with_reducible exact Below.refl _ _) | (with_reducible assumption) | (with_reducible refine Below.alloc ?_ ?_ _) | (with_reducible refine Below.drew ?_) | (with_reducible refine Below.setCell ?_ ?_ _) | (with_reducible refine Below.trans ?_ (Below.mono (by assumption) ?_)) | go_size))); rintro e w2 ⟨rfl, hb2⟩; have hz2 := hb2.size; (try simp only [World.size_drew] at hz2)))
        subst eN
        generalize hmin : min fa fb = at2 at *
        all_goals go_wp2_with (first
          | (go_at_call 79; (first | with_reducible refine (HRa.out _ ?_).mono ?_ | with_reducible refine (HRb.out _ ?_).mono ?_); (focus (repeat' (first | (with_reducible exact Below.refl _ _) | (with_reducible assumption) | (with_reducible refine Below.alloc ?_ ?_ _) | (with_reducible refine Below.drew ?_) | (with_reducible refine Below.setCell ?_ ?_ _) | (with_reducible refine Below.trans ?_ (Below.mono (by assumption) ?_)) | go_size))); rintro e w3 ⟨rfl, hb3⟩; have hz3 := hb3.size; (try simp only [World.size_drew] at hz3))
          | (go_at_call 51; with_reducible refine (HVis.out _ ?_).mono ?_; (focus (repeat' (first | (with_reducible exact Below.refl _ _) | (with_reducible assumption) | (with_reducible refine Below.alloc ?_ ?_ _) | (with_reducible refine Below.drew ?_) | (with_reducible refine Below.setCell ?_ ?_ _) | (with_reducible refine Below.trans ?_ (Below.mono (by assumption) ?_)) | go_size))); rintro e w4 hR; unfold RetV at hR; obtain ⟨rfl, v4, HB4, hb4⟩ := hR; have hz4 := hb4.size; (try simp only [World.size_drew] at hz4)))
        all_goals go_region_held3 (fun _ => True)
          (first | exact trivial)
          (first | (go_at_call 51; with_reducible refine (HVis.out _ ?_).mono ?_; (focus (repeat' (first | (with_reducible exact Below.refl _ _) | (with_reducible assumption) | (with_reducible refine Below.alloc ?_ ?_ _) | (with_reducible refine Below.drew ?_) | (with_reducible refine Below.setCell ?_ ?_ _) | (with_reducible refine Below.trans ?_ (Below.mono (by assumption) ?_)) | go_size))); rintro e w4 hR; unfold RetV at hR; obtain ⟨rfl, v4, HB4, hb4⟩ := hR; have hz4 := hb4.size; (try simp only [World.size_drew] at hz4)))
        all_goals go_wp2
        all_goals go_region_held3 (fun _ => True)
          (first | exact trivial)
          (first | fail)
        all_goals go_wp2
        all_goals go_roundw
        case rel =>
          have hG : Below wr.heap.size wr w3.drew := (by (repeat' (first | (with_reducible exact Below.refl _ _) | (with_reducible assumption) | (with_reducible refine Below.alloc ?_ ?_ _) | (with_reducible refine Below.drew ?_) | (with_reducible refine Below.setCell ?_ ?_ _) | (with_reducible refine Below.trans ?_ (Below.mono (by assumption) ?_)) | go_size)))
          have hB0 : Below h0 wr w4.drew := Below.drew ((hG.mono hh).trans hb4)
          have eDB : B.drop (j + m) = DB.drop m := by rw [← hDB, List.drop_drop]
          have eDA : A.drop (i + n) = DA.drop n := by rw [← hDA, List.drop_drop]
          refine ⟨i + n, j + m, P ++ [_], v4, if ca = n then ada else ada.add (n * 3), if cb = m then adb else adb.add (m * 3), ca - n, cb - m, Lib.hid ⟨HW.out.1, by have := hM.out.2; have := HW.out.2.2.2; simp; omega⟩, by rw [eDA, List.length_drop]; split <;> rfl, by rw [eDB, List.length_drop]; split <;> rfl, Lib.hid ?_, Lib.hid ?_, (by rw [eDA, List.length_drop]; omega), (by rw [eDB, List.length_drop]; omega), Lib.hid (HB4.below (Below.drew (Below.refl _ _))), hbr.trans hB0⟩
          · rw [eDA]; exact RdB.dropIf (H1.out.below hB0) capA n _ _ rfl
          · rw [eDB]; exact RdB.dropIf (H2.out.below hB0) capB m _ _ rfl
        case measure =>
          have := HW.out.2.2.2
          show (DA.length - n) + (DB.length - m) < DA.length + DB.length
          omega
    · have hi := hM.out.1.hi
      have hj := hM.out.1.hj
      have lmA : (A.map kBeg).length = A.length := List.length_map _
      have lmB : (B.map kEnd).length = B.length := List.length_map _
      have hiA : i = A.length := by omega
      have hjB : j = B.length := by omega
      subst hiA hjB
      have hP := (show MInv (A.map kBeg) (B.map kEnd) (A.map kBeg).length (B.map kEnd).length P by rw [lmA, lmB]; exact hM.out.1).all
      rw [hP] at HB
      have e1 : (A.drop A.length).length = 0 := by rw [hlA]; omega
      have e2 : (B.drop B.length).length = 0 := by rw [hlB]; omega
      rw [e1, e2]
      clear hP hlA hlB hM H1 H2 HS lmA lmB
      generalize resP f (ptsS (A.map kBeg) (B.map kEnd)) = R at *
      go_wp2
      go_returns
      exact ⟨rfl, _, _, HB.out, hbr⟩
end Go.Proofs.Ytbpjgipldddcfaa
