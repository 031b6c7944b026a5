import Derived.Test.YtpiadcfejbnonaaQU
import Derived.Test.YtpiadcfejbnonaaMX
import Derived.WalkKit
import Derived.WalkSpells
import Derived.WalkLawsBesides
import Derived.Deep.QuietTactic
import Derived.BigQuiet
import Derived.Handy
import Derived.Lib.Hide
/-
  Relations between the periods of four arguments, by the program. Conditions: none.
-/
namespace Go.Proofs.Ytpiadcfejbnonaa
set_option linter.unusedVariables false
set_option linter.unusedSimpArgs false
set_option linter.unusedVariables false
set_option linter.unusedSimpArgs false
set_option linter.unusedVariables false
set_option linter.unusedSimpArgs false
set_option maxRecDepth 100000
open Go.RowKit

/-- Whether the relation holds between the periods of four numbers, or the null. -/
def relP (rel : Int) (l : List Vl) : Vl := if (l.take 4).all (fun p => p.1 == 1) then
    (if Aln.bothV (l.getD 0 nullP).2.1 (l.getD 1 nullP).2.1 (l.getD 2 nullP).2.1 (l.getD 3 nullP).2.1 then booP (Aln.relR (l.getD 0 nullP).2.1 (l.getD 1 nullP).2.1 (l.getD 2 nullP).2.1 (l.getD 3 nullP).2.1 == rel) else nullP) else nullP
set_option maxRecDepth 100000 in
set_option maxHeartbeats 6400000 in
theorem pRelated_any (rel : Int) (l : List Vl) (p q : Addr) (w : World) (hA : Args w (.pointer (some p)) (.pointer (some q)) l) (hl : l.length = 4) :
    Calls Try.prog 50 #[.int .i64 rel, .func (.func 37) #[] #[.pointer (some p), .pointer (some q)]] w fun e w' => e = .returned (valV (relP rel l)) ∧ Below w.heap.size w w' := by
  have HA := Lib.hid hA
  have b1 := bel_mk w (.cells #[.int .i64 0, .int .i64 0, .string ⟨#[]⟩] 23)
  have HB1 := Lib.hid (b1.trans ((bel_mk (w.alloc (.cells #[.int .i64 0, .int .i64 0, .string ⟨#[]⟩] 23)) (.cells #[.int .i64 0, .int .i64 0, .int .i64 0, .int .i64 0] 92)).mono b1.size))
  have HO0 := Lib.hid ((own_onez w).alloc (.cells #[.int .i64 0, .int .i64 0, .int .i64 0, .int .i64 0] 92))
  have HO1 := Lib.hid (show Own ((w.alloc (.cells #[.int .i64 0, .int .i64 0, .string ⟨#[]⟩] 23)).alloc (.cells #[.int .i64 0, .int .i64 0, .int .i64 0, .int .i64 0] 92)) (w.heap.size + 1) 92 (rowZ ((l.take 0).map fun p => p.2.1) 4) from Va.own_two _)
  clear b1 hA
  go_enter Try.func50, Try.ntmps50
  go_wp2_with fail
  go_loopw [6, 7, 10] (fun _ _ i wr => ∃ k : Nat, k ≤ 4 ∧ i = .int .i64 k ∧ Hid ((l.take k).all (fun p => p.1 == 1) = true) ∧ Hid (Own wr (w.heap.size + 1) 92 (rowZ ((l.take k).map fun p => p.2.1) 4)) ∧ Hid (Own wr w.heap.size 23 #[.int .i64 0, .int .i64 0, .string ⟨#[]⟩]) ∧ Below w.heap.size w wr) (fun _ _ i _ => 4 - (intOf i).toNat)
  case atStart => exact ⟨0, by omega, rfl, Lib.hid rfl, HO1, HO0, HB1.out⟩
  case round =>
    obtain ⟨k, hk, rfl, HK, HR, HO, hbr⟩ := hrel
    have hbz := hbr.size
    clear HO1 HO0 HB1
    by_cases hlt : k < 4
    · have hki : (k : Int) < 4 := by omega
      have hlt2 : k < l.length := by omega
      have hcall := HA.out k wr hlt2 hbr
      rw [show l.getD k nullP = l[k] by simp [List.getD, List.getElem?_eq_getElem hlt2]] at hcall
      have htk : (l.take (k + 1)).map (fun p => p.2.1) = (l.take k).map (fun p => p.2.1) ++ [l[k].2.1] := by rw [List.take_add_one, List.getElem?_eq_getElem hlt2, List.map_append]; rfl
      have hta : (l.take (k + 1)).all (fun p => p.1 == 1) = (l[k].1 == 1) := by rw [List.take_add_one, List.getElem?_eq_getElem hlt2, List.all_append, HK.out]; simp
      have hrl : l[k].1 ≠ 1 → relP rel l = nullP := by
        intro hne
        unfold relP
        have hm : l[k] ∈ l.take 4 := by rw [List.take_of_length_le (by omega)]; exact List.getElem_mem hlt2
        rw [if_neg]
        intro hall
        have := List.all_eq_true.1 hall _ hm
        exact hne (by simpa using this)
      have hlz : ((l.take k).map fun p => p.2.1).length = k := by rw [List.length_map, List.length_take]; omega
      have hz0 := rowZ_next ((l.take k).map fun p => p.2.1) 4 (by rw [hlz]; exact hlt)
      rw [hlz] at hz0
      generalize l[k] = p1 at *
      obtain ⟨kd, n, s⟩ := p1
      dsimp only at htk hta hrl
      have hz1 := rowZ_set ((l.take k).map fun p => p.2.1) 4 n (by rw [hlz]; exact hlt)
      rw [hlz, ← htk] at hz1
      unfold valV at hcall
      have HC := Lib.hid hcall
      have HZ0 := Lib.hid hz0
      have HZ1 := Lib.hid hz1
      have HTA := Lib.hid hta
      have HRL := Lib.hid hrl
      clear hcall hz0 hz1 hta hrl htk hlz HK
      go_wp2_with fail
      with_reducible refine HC.out.mono ?_
      rintro e w1 ⟨rfl, hb1⟩
      have o1 := HO.out.below hb1 HO.out.lt
      have r1 := HR.out.below hb1 HR.out.lt
      have B1 := hbr.trans (hb1.mono hbz)
      have o2 := o1.alloc (.cells #[.int .i64 kd, .int .i64 n, .string s] 23)
      have r2 := r1.alloc (.cells #[.int .i64 kd, .int .i64 n, .string s] 23)
      have B2 := B1.trans ((bel_mk w1 (.cells #[.int .i64 kd, .int .i64 n, .string s] 23)).mono B1.size)
      have HO2 := Lib.hid o2
      have HB2 := Lib.hid B2
      have f0 := (r2.cell k).trans HZ0.out
      have f1 := r2.free k
      have r3 := r2.store k (.int .i64 n)
      rw [HZ1.out] at r3
      have HR3 := Lib.hid r3
      have HO3 := Lib.hid (o2.far (p := ⟨w.heap.size + 1, k, none⟩) (by show w.heap.size ≠ w.heap.size + 1; omega) (.int .i64 n))
      have HB3 := Lib.hid (B2.setCell (p := ⟨w.heap.size + 1, k, none⟩) (Nat.le_succ _) (.int .i64 n))
      clear hb1 o1 r1 B1 o2 r2 B2 r3 HZ0 HZ1 HO HR HC
      by_cases k1 : kd = 1
      · subst k1
        have HA2 := Lib.hid (show (l.take (k + 1)).all (fun p => p.1 == 1) = true by rw [HTA.out]; rfl)
        clear HTA HRL
        go_wp2
        go_roundw
        case rel => exact ⟨k + 1, by omega, by go_num, HA2, HR3, HO3, HB3.out⟩
        case measure => simp [intOf]; omega
      · have hN := fun W => eNull W
        rw [← HRL.out k1] at hN
        have hq : relP rel l = (0, 0, ⟨#[]⟩) := HRL.out k1
        rw [hq] at hN
        have e1 : (kd != 1) = true := by simp [k1]
        have HQ := Lib.hid hq
        unfold valV at hN
        dsimp only at hN
        have HN := Lib.hid hN
        clear HRL hN hq HTA f0 f1 HR3 HO3 HB3
        go_wp2_with fail
        with_reducible refine (HN.out _).mono ?_
        rintro e w2 ⟨rfl, hb2⟩
        have o3 := HO2.out.below hb2 HO2.out.lt
        have B3 := HB2.out.trans (hb2.mono HB2.out.size)
        have d0 := o3.cell 0; have e0 := o3.free 0; have d1 := o3.cell 1; have e1 := o3.free 1; have d2 := o3.cell 2; have e2 := o3.free 2; (try simp only [List.getElem?_toArray, List.getElem?_cons_zero, List.getElem?_cons_succ] at d0 d1 d2)
        clear hb2
        go_wp2
        (try simp only [Exit.inBlock, Exit.then]); refine bodyPost_ret_by (results_cell_row1 (by rfl) _ _ (w.heap.size) _ (by rfl) (load_val (((o3.store 0 _).store 1 _).store 2 _))) ?_ ?_; (focus rfl); refine ⟨by rw [HQ.out]; rfl, ?_⟩
        (repeat' (first | (with_reducible exact Below.refl _ _) | (with_reducible assumption) | (with_reducible refine Below.alloc ?_ ?_ _) | (with_reducible refine Below.drew ?_) | (with_reducible refine Below.setCell ?_ ?_ _) | (with_reducible refine Below.trans ?_ (Below.mono (by assumption) ?_)) | go_size))
    · have hki : ¬ (k : Int) < 4 := by omega
      obtain rfl : k = 4 := by omega
      obtain ⟨p0, p1, p2, p3, hL⟩ : ∃ p0 p1 p2 p3, l = [p0, p1, p2, p3] := by
        match l, hl with
        | [p0, p1, p2, p3], _ => exact ⟨p0, p1, p2, p3, rfl⟩
      focus
        have hr0 := HR.out
        have hk0 := HK.out
        rw [hL] at hr0 hk0
        unfold rowZ at hr0
        simp only [List.take_succ_cons, List.take_zero, List.map_cons, List.map_nil, List.length_cons, List.length_nil, Nat.sub_self, List.replicate_zero, List.append_nil] at hr0
        have c0 := hr0.cell 0
        have c1 := hr0.cell 1
        have c2 := hr0.cell 2
        have c3 := hr0.cell 3
        simp only [List.getElem?_toArray, List.getElem?_cons_zero, List.getElem?_cons_succ] at c0 c1 c2 c3
        have hrp : relP rel l = if Aln.bothV p0.2.1 p1.2.1 p2.2.1 p3.2.1 then booP (Aln.relR p0.2.1 p1.2.1 p2.2.1 p3.2.1 == rel) else nullP := by
          rw [hL]
          unfold relP
          have : ([p0, p1, p2, p3].take 4).all (fun p => p.1 == 1) = true := hk0
          rw [if_pos this]; rfl
        have hrel := fun W => Aln.rel_any p0.2.1 p1.2.1 p2.2.1 p3.2.1 W
        unfold Aln.relRes at hrel
        generalize p0.2.1 = a at *
        generalize p1.2.1 = b at *
        generalize p2.2.1 = c at *
        generalize p3.2.1 = d at *
        generalize Aln.relR a b c d = R at *
        have HREL := Lib.hid hrel
        have HRP := Lib.hid hrp
        clear hr0 hk0 HR HK hrel hrp HA hL
        cases hb : Aln.bothV a b c d
        · have HQ := Lib.hid (show relP rel l = nullP by have := HRP.out; rwa [hb, if_neg (by simp)] at this)
          rw [hb] at HREL
          have HN := Lib.hid (show ∀ W, Calls Try.prog 36 #[] W fun e w' => e = .returned (.agg #[.int .i64 0, .int .i64 0, .string ⟨#[]⟩]) ∧ Below W.heap.size W w' from fun W => eNull W)
          clear hb HRP
          go_wp2_with fail
          with_reducible refine (HREL.out _).mono ?_
          rintro e w1 ⟨rfl, hb1⟩
          have o1 := HO.out.below hb1 HO.out.lt
          have B1 := hbr.trans (hb1.mono hbz)
          go_wp2_with fail
          with_reducible refine (HN.out _).mono ?_
          rintro e w2 ⟨rfl, hb2⟩
          have o3 := o1.below hb2 o1.lt
          have B3 := B1.trans (hb2.mono B1.size)
          have d0 := o3.cell 0; have e0 := o3.free 0; have d1 := o3.cell 1; have e1 := o3.free 1; have d2 := o3.cell 2; have e2 := o3.free 2; (try simp only [List.getElem?_toArray, List.getElem?_cons_zero, List.getElem?_cons_succ] at d0 d1 d2)
          clear hb2 hb1
          go_wp2
          (try simp only [Exit.inBlock, Exit.then]); refine bodyPost_ret_by (results_cell_row1 (by rfl) _ _ (w.heap.size) _ (by rfl) (load_val (((o3.store 0 _).store 1 _).store 2 _))) ?_ ?_; (focus rfl); refine ⟨by rw [HQ.out]; rfl, ?_⟩
          (repeat' (first | (with_reducible exact Below.refl _ _) | (with_reducible assumption) | (with_reducible refine Below.alloc ?_ ?_ _) | (with_reducible refine Below.drew ?_) | (with_reducible refine Below.setCell ?_ ?_ _) | (with_reducible refine Below.trans ?_ (Below.mono (by assumption) ?_)) | go_size))
        · have HQ := Lib.hid (show relP rel l = booP (R == rel) by have := HRP.out; rwa [hb, if_pos rfl] at this)
          rw [hb] at HREL
          have hB := fun W => eBool (R == rel) W
          generalize booP (R == rel) = r at *
          obtain ⟨r1, r2, r3⟩ := r
          unfold valV at *
          dsimp only at hB ⊢
          have HB := Lib.hid hB
          clear hb HRP hB
          go_wp2_with fail
          with_reducible refine (HREL.out _).mono ?_
          rintro e w1 ⟨rfl, hb1⟩
          have o1 := HO.out.below hb1 HO.out.lt
          have B1 := hbr.trans (hb1.mono hbz)
          go_wp2_with fail
          with_reducible refine (HB.out _).mono ?_
          rintro e w2 ⟨rfl, hb2⟩
          have o3 := o1.below hb2 o1.lt
          have B3 := B1.trans (hb2.mono B1.size)
          have d0 := o3.cell 0; have e0 := o3.free 0; have d1 := o3.cell 1; have e1 := o3.free 1; have d2 := o3.cell 2; have e2 := o3.free 2; (try simp only [List.getElem?_toArray, List.getElem?_cons_zero, List.getElem?_cons_succ] at d0 d1 d2)
          clear hb2 hb1
          go_wp2
          (try simp only [Exit.inBlock, Exit.then]); refine bodyPost_ret_by (results_cell_row1 (by rfl) _ _ (w.heap.size) _ (by rfl) (load_val (((o3.store 0 _).store 1 _).store 2 _))) ?_ ?_; (focus rfl); refine ⟨by rw [HQ.out]; rfl, ?_⟩
          (repeat' (first | (with_reducible exact Below.refl _ _) | (with_reducible assumption) | (with_reducible refine Below.alloc ?_ ?_ _) | (with_reducible refine Below.drew ?_) | (with_reducible refine Below.setCell ?_ ?_ _) | (with_reducible refine Below.trans ?_ (Below.mono (by assumption) ?_)) | go_size))
end Go.Proofs.Ytpiadcfejbnonaa
