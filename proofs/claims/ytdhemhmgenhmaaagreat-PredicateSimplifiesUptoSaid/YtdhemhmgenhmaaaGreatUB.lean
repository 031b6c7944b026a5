import Derived.Test.YtdhemhmgenhmaaaGreatTA
import Derived.Test.YtdhemhmgenhmaaaGreatMG
import Derived.Deep.AppendLies
import Derived.WalkKit
import Derived.WalkSpells
import Derived.WalkLawsBesides
import Derived.Deep.QuietTactic
import Derived.BigQuiet
import Derived.Handy
import Derived.Lib.Hide
import Derived.Lib.SlicesCompact
import Derived.Test.YtdhemhmgenhmaaaGreatMB
import Derived.Laws.OwnMore
set_option maxRecDepth 100000
set_option maxHeartbeats 25600000
set_option linter.unusedVariables false
set_option linter.unusedSimpArgs false
/-
  The columns of a tree, gathered by visit and its closure. Conditions: lengths, a bounded depth.
-/
namespace Go.Proofs.YtdhemhmgenhmaaaGreat
open Go.RowKit
def colH (e : Ex) : List Int := if e.op = 2 then [e.n] else []
def colE : Nat → Ex → List Int
 | 0, _ => []
 | d + 1, e => colH e ++ e.args.flatMap (colE d)
theorem flat_take (f : Ex → List Int) (es : List Ex) (k : Nat) (y : Ex) (h : es[k]? = some y) : (es.take (k + 1)).flatMap f = (es.take k).flatMap f ++ f y := by
 rw [List.take_add_one, h, List.flatMap_append]
 simp
end Go.Proofs.YtdhemhmgenhmaaaGreat
namespace Go.Proofs.YtdhemhmgenhmaaaGreat
open Go.Lib
def AscI (l : List Int) : Prop := l.Pairwise (· < ·)
def lowI (l : List Int) (n : Int) : List Int := l.takeWhile fun x => decide (x < n)
def insI (l : List Int) (n : Int) : List Int := lowI l n ++ n :: ((l.drop (lowI l n).length).filter fun x => decide (x ≠ n))
theorem lowI_cons (x : Int) (l : List Int) (n : Int) : lowI (x :: l) n = if x < n then x :: lowI l n else [] := by
 unfold lowI
 by_cases h : x < n
 ·rw [if_pos h, List.takeWhile_cons_of_pos (by simpa using h)]
 ·rw [if_neg h, List.takeWhile_cons_of_neg (by simpa using h)]
theorem insI_cons (x : Int) (l : List Int) (n : Int) : insI (x :: l) n = if x < n then x :: insI l n else n :: ((x :: l).filter fun x => decide (x ≠ n)) := by
 unfold insI
 rw [lowI_cons]
 by_cases h : x < n
 ·rw [if_pos h, if_pos h]
  simp
 ·rw [if_neg h, if_neg h]
  simp
theorem insI_asc : ∀ (l : List Int) (n : Int), AscI l → AscI (insI l n) ∧ (∀ x, x ∈ insI l n ↔ x ∈ l ∨ x = n)
 | [], n, _ => ⟨by simp [insI, lowI, AscI], fun x => by simp [insI, lowI]⟩
 | y :: l, n, h => by
  have h1 := List.pairwise_cons.1 h
  obtain ⟨ha, hm⟩ := insI_asc l n h1.2
  rw [insI_cons]
  by_cases hy : y < n
  ·rw [if_pos hy]
   refine ⟨List.pairwise_cons.2 ⟨fun b hb => ?_, ha⟩, fun x => ?_⟩
   ·rcases (hm b).1 hb with h0 | rfl
    ·exact h1.1 b h0
    ·exact hy
   ·rw [List.mem_cons, hm x, List.mem_cons, or_assoc]
  ·rw [if_neg hy]
   refine ⟨List.pairwise_cons.2 ⟨fun b hb => ?_, h.sublist List.filter_sublist⟩, fun x => ?_⟩
   ·obtain ⟨hb1, hb2⟩ := List.mem_filter.1 hb
    have hb3 : b ≠ n := by simpa using hb2
    rcases List.mem_cons.1 hb1 with rfl | h0
    ·omega
    ·have := h1.1 b h0; omega
   ·rw [List.mem_cons, List.mem_filter]
    constructor
    ·rintro (rfl | ⟨h0, _⟩)
     ·exact .inr rfl
     ·exact .inl h0
    ·rintro (h0 | rfl)
     ·by_cases e : x = n
      ·exact .inl e
      ·exact .inr ⟨h0, by simpa using e⟩
     ·exact .inl rfl
theorem insI_len (l : List Int) (n : Int) : (insI l n).length ≤ l.length + 1 := by
 unfold insI
 rw [List.length_append, List.length_cons]
 have h1 : (lowI l n).length ≤ l.length := List.Sublist.length_le (List.takeWhile_sublist _)
 have h2 : ((l.drop (lowI l n).length).filter fun x => decide (x ≠ n)).length ≤ (l.drop (lowI l n).length).length := List.length_filter_le _ _
 rw [List.length_drop] at h2
 omega
theorem foldI_asc : ∀ (m l : List Int), AscI l → AscI (m.foldl insI l) ∧ ∀ x, x ∈ m.foldl insI l ↔ x ∈ l ∨ x ∈ m
 | [], l, h => ⟨h, fun x => by simp⟩
 | y :: m, l, h => by
  obtain ⟨h1, h2⟩ := insI_asc l y h
  obtain ⟨h3, h4⟩ := foldI_asc m (insI l y) h1
  refine ⟨h3, fun x => ?_⟩
  rw [List.foldl_cons, h4 x, h2 x, List.mem_cons, or_assoc]
theorem foldI_len : ∀ (m l : List Int), (m.foldl insI l).length ≤ l.length + m.length
 | [], l => Nat.le_refl _
 | y :: m, l => by
  have h1 := foldI_len m (insI l y)
  have h2 := insI_len l y
  rw [List.foldl_cons, List.length_cons]
  omega
end Go.Proofs.YtdhemhmgenhmaaaGreat
namespace Go.Proofs.YtdhemhmgenhmaaaGreat
open Go.RowKit Go.Sort Go.Lib
end Go.Proofs.YtdhemhmgenhmaaaGreat
namespace Go.Proofs.YtdhemhmgenhmaaaGreat
open Go.RowKit
theorem own_empty (w : World) : (w.alloc (.cells #[] 3)).ownsRow w.heap.size 3 1 (.slice (some ⟨w.heap.size, 0, none⟩) 0 0) ([] : List Int).length (intsV []) :=
 ⟨rfl, .inr ⟨w.heap.size, 0, #[], rfl, Nat.le_refl _, heap_alloc_new w _, Nat.le_refl _, Nat.zero_le _, rfl, rfl⟩⟩
theorem lowI_step : ∀ {l : List Int} {n x : Int} {k : Nat}, l[k]? = some x → k ≤ (lowI l n).length → (if x < n then k + 1 ≤ (lowI l n).length else (lowI l n).length = k)
 | y :: l, n, x, 0, h, _ => by
  have e : y = x := by simpa using h
  subst e
  rw [lowI_cons]
  by_cases hx : y < n
  ·rw [if_pos hx, if_pos hx]; simp
  ·rw [if_neg hx, if_neg hx]; rfl
 | y :: l, n, x, k + 1, h, hk => by
  have h2 : l[k]? = some x := by simpa using h
  rw [lowI_cons] at hk ⊢
  by_cases hy : y < n
  ·rw [if_pos hy] at hk ⊢
   have h3 := lowI_step h2 (by simpa using hk)
   by_cases hx : x < n
   ·rw [if_pos hx] at h3 ⊢; simpa using h3
   ·rw [if_neg hx] at h3 ⊢; simpa using h3
  ·rw [if_neg hy] at hk
   simp at hk
theorem lowI_le (l : List Int) (n : Int) : (lowI l n).length ≤ l.length := List.Sublist.length_le (List.takeWhile_sublist _)
theorem lowI_eq (l : List Int) (n : Int) : lowI l n = l.take (lowI l n).length := by
 have h : lowI l n <+: l := List.takeWhile_prefix _
 exact List.prefix_iff_eq_take.1 h
def insK (l : List Int) (n : Int) (k : Nat) : List Int := lowI l n ++ n :: (((l.take k).drop (lowI l n).length).filter fun x => decide (x ≠ n))
theorem insK_full (l : List Int) (n : Int) (k : Nat) (h : l.length ≤ k) : insK l n k = insI l n := by
 unfold insK insI
 rw [List.take_of_length_le h]
theorem insK_first (l : List Int) (n : Int) : insK l n (lowI l n).length = lowI l n ++ [n] := by
 unfold insK
 rw [List.drop_of_length_le (by rw [List.length_take]; omega)]
 rfl
theorem insK_step {l : List Int} {n x : Int} {k : Nat} (h : l[k]? = some x) (hk : (lowI l n).length ≤ k) : insK l n (k + 1) = if x = n then insK l n k else insK l n k ++ [x] := by
 unfold insK
 have hkl := (List.getElem?_eq_some_iff.1 h).1
 rw [List.take_add_one, h, List.drop_append_of_le_length (by rw [List.length_take]; omega), List.filter_append]
 by_cases e : x = n
 ·rw [if_pos e]
  simp [e]
 ·rw [if_neg e]
  simp [e]
theorem insK_len (l : List Int) (n : Int) (k : Nat) (hk : (lowI l n).length ≤ k) (hkl : k ≤ l.length) : (insK l n k).length ≤ k + 1 := by
 unfold insK
 rw [List.length_append, List.length_cons]
 have h := List.length_filter_le (fun x => decide (x ≠ n)) ((l.take k).drop (lowI l n).length)
 rw [List.length_drop, List.length_take] at h
 omega
def RetIn (w : World) (l : List Int) (e : Ending) (w' : World) : Prop := ∃ v, e = .returned v ∧ w'.ownsRow w.heap.size 3 1 v l.length (intsV l) ∧ Below w.heap.size w w'
theorem rInsert_any (l : List Int) (n : Int) (v : Value) (w : World) (L : Nat) (hv : RdI w L w.heap.size v l) (hlen : l.length ≤ 1099511627775) :
  Calls Tryz.prog 35 #[v, .int .i64 n] w (RetIn w (insI l n)) := by
 obtain ⟨A, c, rfl, hl1, hc1⟩ := hv
 have HC := Lib.hid hc1
 have HLE := Lib.hid (lowI_le l n)
 clear hc1
 have HW := Lib.hid (own_empty w)
 have HB := Lib.hid (bel_mk w (.cells #[] 3))
 go_enter Tryz.func35, Tryz.ntmps35
 go_wp2_with fail
 go_loopw [5, 6] (fun vb i wr => ∃ k : Nat, k ≤ (lowI l n).length ∧ i = .int .i64 k ∧ Hid (wr.ownsRow w.heap.size 3 1 vb (l.take k).length (intsV (l.take k))) ∧ Below w.heap.size w wr) (fun _ i _ => l.length - (intOf i).toNat)
 case atStart => exact ⟨0, Nat.zero_le _, rfl, HW, HB.out⟩
 case round =>
  clear HW HB
  obtain ⟨k, hk, rfl, HR, hbr⟩ := hrel
  have hbz := hbr.size
  have hkl : k ≤ l.length := Nat.le_trans hk HLE.out
  by_cases hlt : k < l.length
  ·have hki : (k : Int) < l.length := by omega
   have hx := List.getElem?_eq_getElem hlt
   obtain ⟨ad, rfl, _, hab, a0⟩ := HC.out k _ hx
   have htk : l.take (k + 1) = l.take k ++ [l[k]] := by rw [List.take_add_one, hx]; rfl
   have hst := lowI_step (n := n) hx hk
   have HX := Lib.hid hx
   generalize l[k] = q at *
   have e1 := (hbr.cell (p := ad.add k) (by rw [add_block]; exact hab)).trans a0
   have hlk : (l.take k).length = k := by rw [List.length_take]; omega
   have HTK := Lib.hid htk
   clear a0 htk hx
   by_cases hq : q < n
   ·rw [if_pos hq] at hst
    have b2 := bel_mk wr (.cells #[.int .i64 q] 3)
    have HR2 := Lib.hid (own_below HR.out b2)
    have HCU := Lib.hid (show (wr.alloc (.cells #[.int .i64 q] 3)).cell? ⟨wr.heap.size, 0, none⟩ = some (.int .i64 q) from (Own.new wr 3 #[.int .i64 q]).cell 0)
    have HB2 := Lib.hid (hbr.trans (b2.mono hbz))
    have HLZ := Lib.hid (show (l.take k).length ≤ 1099511627776 by omega)
    have HST := Lib.hid hst
    clear b2 hlk hst
    go_wp2_with (at_builtin; refine append_i _ rfl _ _ rfl w.heap.size _ (l.take k) rfl HR2.out wr.heap.size 1 q rfl HCU.out HLZ.out HB2.out.size ?_; intro v3 w3 hR3 hb3)
    rw [← HTK.out] at hR3
    have B3 := HB2.out.trans (hb3.mono (Nat.le_refl _))
    go_roundw
    case rel => exact ⟨k + 1, HST.out, by go_num, Lib.hid hR3, B3⟩
    case measure => simp [intOf]; omega
   ·rw [if_neg hq] at hst
    have HST := Lib.hid hst
    have h0 := HR.out
    rw [← hst, ← lowI_eq] at h0
    have b2 := bel_mk wr (.cells #[.int .i64 n] 3)
    have HR2 := Lib.hid (own_below h0 b2)
    have HCU := Lib.hid (show (wr.alloc (.cells #[.int .i64 n] 3)).cell? ⟨wr.heap.size, 0, none⟩ = some (.int .i64 n) from (Own.new wr 3 #[.int .i64 n]).cell 0)
    have HB2 := Lib.hid (hbr.trans (b2.mono hbz))
    have HLZ := Lib.hid (show (lowI l n).length ≤ 1099511627776 by omega)
    clear b2 hst h0 hlk
    go_wp2_with (at_builtin; refine append_i _ rfl _ _ rfl w.heap.size _ (lowI l n) rfl HR2.out wr.heap.size 1 n rfl HCU.out HLZ.out HB2.out.size ?_; intro v3 w3 hR3 hb3)
    have B3 := Lib.hid (HB2.out.trans (hb3.mono (Nat.le_refl _)))
    have hR4 : w3.ownsRow w.heap.size 3 1 v3 (insK l n k).length (intsV (insK l n k)) := by rw [← HST.out, insK_first]; exact hR3
    have HR4 := Lib.hid hR4
    have hk0 : k ≤ l.length := hkl
    clear hR3 hR4 hb3 hbr HR2 HCU HB2 HLZ HR hbz e1
    go_loopw [5, 6] (fun vb i wr => ∃ m : Nat, k ≤ m ∧ m ≤ l.length ∧ i = .int .i64 m ∧ Hid (wr.ownsRow w.heap.size 3 1 vb (insK l n m).length (intsV (insK l n m))) ∧ Below w.heap.size w wr) (fun _ i _ => l.length - (intOf i).toNat)
    case atStart => exact ⟨k, Nat.le_refl _, hk0, rfl, HR4, B3.out⟩
    case round =>
     clear HR4 B3
     obtain ⟨m, hkm, hm, rfl, HR, hbr⟩ := hrel
     have hbz := hbr.size
     by_cases hlt2 : m < l.length
     ·have hmi : (m : Int) < l.length := by omega
      have hx := List.getElem?_eq_getElem hlt2
      obtain ⟨ad2, hA, _, hab2, a0⟩ := HC.out m _ hx
      injection hA.symm with hA; subst hA
      have hst := insK_step hx (n := n) (by have := HST.out; omega)
      generalize l[m] = q2 at *
      have e1 := (hbr.cell (p := ad2.add m) (by rw [add_block]; exact hab2)).trans a0
      have hlk := insK_len l n m (by have := HST.out; omega) hm
      clear a0 hx
      by_cases hq2 : q2 = n
      ·rw [if_pos hq2] at hst
       have hqe : (q2 == n) = true := by rw [beq_iff_eq]; exact hq2
       have hR3 := HR.out
       rw [← hst] at hR3
       have HR3 := Lib.hid hR3
       clear hst hq2 hR3 HR
       go_wp2
       go_roundw
       case rel => exact ⟨m + 1, by omega, by omega, by go_num, HR3, hbr⟩
       case measure => simp [intOf]; omega
      ·rw [if_neg hq2] at hst
       have hqe : (q2 == n) = false := by rw [beq_eq_false_iff_ne]; exact hq2
       have b2 := bel_mk wr (.cells #[.int .i64 q2] 3)
       have HR2 := Lib.hid (own_below HR.out b2)
       have HCU := Lib.hid (show (wr.alloc (.cells #[.int .i64 q2] 3)).cell? ⟨wr.heap.size, 0, none⟩ = some (.int .i64 q2) from (Own.new wr 3 #[.int .i64 q2]).cell 0)
       have HB2 := Lib.hid (hbr.trans (b2.mono hbz))
       have HLZ := Lib.hid (show (insK l n m).length ≤ 1099511627776 by omega)
       have HTK := Lib.hid hst
       clear b2 hst hlk hq2
       go_wp2_with (at_builtin; refine append_i _ rfl _ _ rfl w.heap.size _ (insK l n m) rfl HR2.out wr.heap.size 1 q2 rfl HCU.out HLZ.out HB2.out.size ?_; intro v3 w3 hR3 hb3)
       rw [← HTK.out] at hR3
       have B3 := HB2.out.trans (hb3.mono (Nat.le_refl _))
       go_roundw
       case rel => exact ⟨m + 1, by omega, by omega, by go_num, Lib.hid hR3, B3⟩
       case measure => simp [intOf]; omega
     ·have hmi : ¬ (m : Int) < l.length := by omega
      have hR := HR.out
      rw [insK_full l n m (by omega)] at hR
      have HF := Lib.hid hR
      clear hR HR
      go_wp2
      go_ret
      exact ⟨_, rfl, HF.out, hbr⟩
  ·have hki : ¬ (k : Int) < l.length := by omega
   have hst : (lowI l n).length = k := by have := HLE.out; omega
   have HST := Lib.hid hst
   have h0 := HR.out
   rw [← hst, ← lowI_eq] at h0
   have b2 := bel_mk wr (.cells #[.int .i64 n] 3)
   have HR2 := Lib.hid (own_below h0 b2)
   have HCU := Lib.hid (show (wr.alloc (.cells #[.int .i64 n] 3)).cell? ⟨wr.heap.size, 0, none⟩ = some (.int .i64 n) from (Own.new wr 3 #[.int .i64 n]).cell 0)
   have HB2 := Lib.hid (hbr.trans (b2.mono hbz))
   have HLZ := Lib.hid (show (lowI l n).length ≤ 1099511627776 by omega)
   clear b2 hst h0
   go_wp2_with (at_builtin; refine append_i _ rfl _ _ rfl w.heap.size _ (lowI l n) rfl HR2.out wr.heap.size 1 n rfl HCU.out HLZ.out HB2.out.size ?_; intro v3 w3 hR3 hb3)
   have B3 := Lib.hid (HB2.out.trans (hb3.mono (Nat.le_refl _)))
   have hR4 : w3.ownsRow w.heap.size 3 1 v3 (insK l n k).length (intsV (insK l n k)) := by rw [← HST.out, insK_first]; exact hR3
   have HR4 := Lib.hid hR4
   have hk0 : k ≤ l.length := hkl
   clear hR3 hR4 hb3 hbr HR2 HCU HB2 HLZ HR hbz hlt hki
   go_loopw [5, 6] (fun vb i wr => ∃ m : Nat, k ≤ m ∧ m ≤ l.length ∧ i = .int .i64 m ∧ Hid (wr.ownsRow w.heap.size 3 1 vb (insK l n m).length (intsV (insK l n m))) ∧ Below w.heap.size w wr) (fun _ i _ => l.length - (intOf i).toNat)
   case atStart => exact ⟨k, Nat.le_refl _, hk0, rfl, HR4, B3.out⟩
   case round =>
    clear HR4 B3
    obtain ⟨m, hkm, hm, rfl, HR, hbr⟩ := hrel
    have hbz := hbr.size
    by_cases hlt2 : m < l.length
    ·have hmi : (m : Int) < l.length := by omega
     have hx := List.getElem?_eq_getElem hlt2
     obtain ⟨ad2, hA, _, hab2, a0⟩ := HC.out m _ hx
     subst hA
     have hst := insK_step hx (n := n) (by have := HST.out; omega)
     generalize l[m] = q2 at *
     have e1 := (hbr.cell (p := ad2.add m) (by rw [add_block]; exact hab2)).trans a0
     have hlk := insK_len l n m (by have := HST.out; omega) hm
     clear a0 hx
     by_cases hq2 : q2 = n
     ·rw [if_pos hq2] at hst
      have hqe : (q2 == n) = true := by rw [beq_iff_eq]; exact hq2
      have hR3 := HR.out
      rw [← hst] at hR3
      have HR3 := Lib.hid hR3
      clear hst hq2 hR3 HR
      go_wp2
      go_roundw
      case rel => exact ⟨m + 1, by omega, by omega, by go_num, HR3, hbr⟩
      case measure => simp [intOf]; omega
     ·rw [if_neg hq2] at hst
      have hqe : (q2 == n) = false := by rw [beq_eq_false_iff_ne]; exact hq2
      have b2 := bel_mk wr (.cells #[.int .i64 q2] 3)
      have HR2 := Lib.hid (own_below HR.out b2)
      have HCU := Lib.hid (show (wr.alloc (.cells #[.int .i64 q2] 3)).cell? ⟨wr.heap.size, 0, none⟩ = some (.int .i64 q2) from (Own.new wr 3 #[.int .i64 q2]).cell 0)
      have HB2 := Lib.hid (hbr.trans (b2.mono hbz))
      have HLZ := Lib.hid (show (insK l n m).length ≤ 1099511627776 by omega)
      have HTK := Lib.hid hst
      clear b2 hst hlk hq2
      go_wp2_with (at_builtin; refine append_i _ rfl _ _ rfl w.heap.size _ (insK l n m) rfl HR2.out wr.heap.size 1 q2 rfl HCU.out HLZ.out HB2.out.size ?_; intro v3 w3 hR3 hb3)
      rw [← HTK.out] at hR3
      have B3 := HB2.out.trans (hb3.mono (Nat.le_refl _))
      go_roundw
      case rel => exact ⟨m + 1, by omega, by omega, by go_num, Lib.hid hR3, B3⟩
      case measure => simp [intOf]; omega
    ·have hmi : ¬ (m : Int) < l.length := by omega
     have hR := HR.out
     rw [insK_full l n m (by omega)] at hR
     have HF := Lib.hid hR
     clear hR HR
     go_wp2
     go_ret
     exact ⟨_, rfl, HF.out, hbr⟩
end Go.Proofs.YtdhemhmgenhmaaaGreat
