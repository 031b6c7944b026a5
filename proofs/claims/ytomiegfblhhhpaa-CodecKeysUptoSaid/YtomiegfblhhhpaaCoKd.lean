/-
  compare of the statements; the reference's Compare: what they answer. Conditions: lengths.
-/
import Derived.Test.YtomiegfblhhhpaaCoKm
import Derived.Test.YtomiegfblhhhpaaCoRa
import Derived.Test.YtomiegfblhhhpaaCoX
import Derived.Deep.RegionHeld3
import Derived.WalkKit
import Derived.WalkSpells
import Derived.WalkLawsBesides
import Derived.Deep.QuietTactic
import Derived.BigQuiet
import Derived.Handy
import Derived.Lib.Hide
namespace Go.Proofs.Ytomiegfblhhhpaa
open Go.RowKit

theorem mk_toList (x : List UInt8) : (ByteArray.mk x.toArray).toList = x := by rw [Lib.toList_data]
set_option maxHeartbeats 1600000 in
theorem compare_any (v u : Value) (x y : List UInt8) (w : World) (L B L2 B2 : Nat) (hv : RdB w L B v x) (hu : RdB w L2 B2 u y) :
    Calls Try.prog 39 #[v, u] w fun e w' => e = .returned (.int .i64 (sgnB x y)) ∧ w' = w := by
  have h1 := conv_rdB hv
  have h2 := conv_rdB hu
  have e1 : sgnB x y = sgnB (ByteArray.mk x.toArray).toList (ByteArray.mk y.toArray).toList := by rw [mk_toList, mk_toList]
  rw [e1]
  generalize ByteArray.mk x.toArray = s at *
  generalize ByteArray.mk y.toArray = t at *
  obtain ⟨A, c, rfl, _⟩ := hv
  obtain ⟨A2, c2, rfl, _⟩ := hu
  clear e1
  cases hl : Op.bytesLess s.toList t.toList <;> cases he : s.toList == t.toList
  · have hne : s.toList ≠ t.toList := by simpa using he
    have hg : Op.bytesLess t.toList s.toList = true := by have := bl_total _ _ hne; rw [hl] at this; simpa using this.symm
    have HF := Lib.hid (show sgnB s.toList t.toList = 1 by unfold sgnB; rw [hl, hg]; rfl)
    clear hg hne
    go_enter Try.func39, Try.ntmps39
    go_wp2
    go_ret
    exact ⟨by rw [HF.out]; rfl, rfl⟩
  · have heq : s.toList = t.toList := by simpa using he
    have HF := Lib.hid (show sgnB s.toList t.toList = 0 by unfold sgnB; rw [heq, bl_irr]; rfl)
    clear heq
    go_enter Try.func39, Try.ntmps39
    go_wp2
    go_ret
    exact ⟨by rw [HF.out]; rfl, rfl⟩
  · have HF := Lib.hid (show sgnB s.toList t.toList = -1 by unfold sgnB; rw [hl]; rfl)
    go_enter Try.func39, Try.ntmps39
    go_wp2
    go_ret
    exact ⟨by rw [HF.out]; rfl, rfl⟩
  · have HF := Lib.hid (show sgnB s.toList t.toList = -1 by unfold sgnB; rw [hl]; rfl)
    go_enter Try.func39, Try.ntmps39
    go_wp2
    go_ret
    exact ⟨by rw [HF.out]; rfl, rfl⟩
/-- Comparison of two values. -/
def eqV (k n : Int) (s : ByteArray) (k2 n2 : Int) (s2 : ByteArray) : Bool := k == k2 && (n == n2 && s.toList == s2.toList)
theorem neq_val (k n : Int) (s : ByteArray) (k2 n2 : Int) (s2 : ByteArray) (w : World) : (binOp .neq 35 (.agg #[.int .i64 k, .int .i64 n, .string s]) (.agg #[.int .i64 k2, .int .i64 n2, .string s2])).run Try.prog w = .ok (.bool (!eqV k n s k2 n2 s2)) w := by
  rw [run_neq_struct, run_equalIn_struct w 9999 35 _ _ (by kernel_rfl) (by kernel_rfl)]
  simp [Program.fieldsOf, Op.eqFields, Try.underlying35, Try.underlying3, Try.underlying9, part, isAgg, go_sem]
  unfold eqV
  by_cases h1 : k = k2 <;> by_cases h2 : n = n2 <;> by_cases h3 : s.toList = s2.toList <;> simp [h1, h2, h3]
theorem cmpR_drop (ps qs : List Vl) (k : Nat) (p q : Vl) (hp : ps[k]? = some p) (hq : qs[k]? = some q) : cmpR (ps.drop k) (qs.drop k) = if lessP p q = true then -1 else if p = q then cmpR (ps.drop (k + 1)) (qs.drop (k + 1)) else 1 := by
  obtain ⟨h1, rfl⟩ := List.getElem?_eq_some_iff.1 hp
  obtain ⟨h2, rfl⟩ := List.getElem?_eq_some_iff.1 hq
  rw [List.drop_eq_getElem_cons h1, List.drop_eq_getElem_cons h2]
  rfl
theorem cmpR_end (ps qs : List Vl) (k : Nat) (h : ¬ (k < ps.length ∧ k < qs.length)) : cmpR (ps.drop k) (qs.drop k) = if k < qs.length then -1 else if k < ps.length then 1 else 0 := by
  by_cases h1 : k < ps.length
  · have h2 : ¬ k < qs.length := fun h2 => h ⟨h1, h2⟩
    rw [List.drop_eq_nil_of_le (show qs.length ≤ k by omega), List.drop_eq_getElem_cons h1, if_neg h2, if_pos h1]
    rfl
  · rw [List.drop_eq_nil_of_le (show ps.length ≤ k by omega)]
    by_cases h2 : k < qs.length
    · rw [List.drop_eq_getElem_cons h2, if_pos h2]; rfl
    · rw [List.drop_eq_nil_of_le (show qs.length ≤ k by omega), if_neg h2, if_neg h1]; rfl
set_option maxRecDepth 100000 in
set_option maxHeartbeats 6400000 in
theorem rCompare_any (u v : Value) (ps qs : List Vl) (w : World) (L L2 : Nat) (hu : RdV w L w.heap.size u ps) (hv : RdV w L2 w.heap.size v qs) :
    Calls Try.prog 40 #[u, v] w fun e w' => e = .returned (.int .i64 (cmpR ps qs)) ∧ Below w.heap.size w w' := by
  obtain ⟨A, c, rfl, hl1, hc1⟩ := hu
  obtain ⟨A2, c2, rfl, hl2, hc2⟩ := hv
  have HC := Lib.hid hc1
  have HC2 := Lib.hid hc2
  clear hc1 hc2
  go_enter Try.func40, Try.ntmps40
  go_wp2
  go_loopw [5] (fun i wr => ∃ k : Nat, k ≤ ps.length ∧ k ≤ qs.length ∧ i = .int .i64 k ∧ Hid (cmpR ps qs = cmpR (ps.drop k) (qs.drop k)) ∧ Below w.heap.size w wr) (fun i _ => ps.length - (intOf i).toNat)
  case atStart => exact ⟨0, Nat.zero_le _, Nat.zero_le _, rfl, Lib.hid rfl, Below.refl _ _⟩
  case round =>
    obtain ⟨k, hk, hk2, rfl, HR, hbr⟩ := hrel
    have hbz := hbr.size
    by_cases hlt : k < ps.length ∧ k < qs.length
    · obtain ⟨hlt, hlt2⟩ := hlt
      have hki : (k : Int) < ps.length := by omega
      have hki2 : (k : Int) < qs.length := by omega
      obtain ⟨ad, rfl, _, hab, c0, c1, c2⟩ := HC.out k _ (List.getElem?_eq_getElem hlt)
      obtain ⟨ad2, rfl, _, hab2, b0, b1, b2⟩ := HC2.out k _ (List.getElem?_eq_getElem hlt2)
      have hcd := cmpR_drop ps qs k _ _ (List.getElem?_eq_getElem hlt) (List.getElem?_eq_getElem hlt2)
      rw [← HR.out] at hcd
      generalize ps[k] = p at *
      generalize qs[k] = q at *
      obtain ⟨kd, n, s⟩ := p
      obtain ⟨kd2, n2, s2⟩ := q
      dsimp only at c0 c1 c2 b0 b1 b2
      have HCD := Lib.hid hcd
      have HS : ∀ w', Below wr.heap.size wr w' → (Below wr.heap.size wr w' ∧ w'.cell? (ad.add (k * 3)) = some (.int .i64 kd) ∧ w'.cell? ⟨(ad.add (k * 3)).block, (ad.add (k * 3)).off + 1, none⟩ = some (.int .i64 n) ∧ w'.cell? ⟨(ad.add (k * 3)).block, (ad.add (k * 3)).off + 2, none⟩ = some (.string s) ∧ w'.cell? (ad2.add (k * 3)) = some (.int .i64 kd2) ∧ w'.cell? ⟨(ad2.add (k * 3)).block, (ad2.add (k * 3)).off + 1, none⟩ = some (.int .i64 n2) ∧ w'.cell? ⟨(ad2.add (k * 3)).block, (ad2.add (k * 3)).off + 2, none⟩ = some (.string s2)) := fun w' hb =>
        have hB := hbr.trans (hb.mono hbz)
        ⟨hb, (hB.cell (p := ad.add (k * 3)) (by rw [add_block]; exact hab)).trans c0, (hB.cell (p := ⟨(ad.add (k * 3)).block, (ad.add (k * 3)).off + 1, none⟩) (by show (ad.add (k * 3)).block < _; rw [add_block]; exact hab)).trans c1, (hB.cell (p := ⟨(ad.add (k * 3)).block, (ad.add (k * 3)).off + 2, none⟩) (by show (ad.add (k * 3)).block < _; rw [add_block]; exact hab)).trans c2,
          (hB.cell (p := ad2.add (k * 3)) (by rw [add_block]; exact hab2)).trans b0, (hB.cell (p := ⟨(ad2.add (k * 3)).block, (ad2.add (k * 3)).off + 1, none⟩) (by show (ad2.add (k * 3)).block < _; rw [add_block]; exact hab2)).trans b1, (hB.cell (p := ⟨(ad2.add (k * 3)).block, (ad2.add (k * 3)).off + 2, none⟩) (by show (ad2.add (k * 3)).block < _; rw [add_block]; exact hab2)).trans b2⟩
      have HS := Lib.hid HS
      clear c0 c1 c2 b0 b1 b2 hcd
      go_wp2_with fail
      go_region_held3 (fun w' => Below wr.heap.size wr w' ∧ w'.cell? (ad.add (k * 3)) = some (.int .i64 kd) ∧ w'.cell? ⟨(ad.add (k * 3)).block, (ad.add (k * 3)).off + 1, none⟩ = some (.int .i64 n) ∧ w'.cell? ⟨(ad.add (k * 3)).block, (ad.add (k * 3)).off + 2, none⟩ = some (.string s) ∧ w'.cell? (ad2.add (k * 3)) = some (.int .i64 kd2) ∧ w'.cell? ⟨(ad2.add (k * 3)).block, (ad2.add (k * 3)).off + 1, none⟩ = some (.int .i64 n2) ∧ w'.cell? ⟨(ad2.add (k * 3)).block, (ad2.add (k * 3)).off + 2, none⟩ = some (.string s2))
        (exact HS.out _ (by repeat' (first | exact Below.refl _ _ | refine Below.drew ?_ | refine Below.alloc ?_ ?_ _ | refine Below.setCell ?_ ?_ _ | go_size)))
        (fail)
      · skip
        rename_i hH
        clear hH
        have oX : Own ((wr.alloc (.cells #[.int .i64 kd, .int .i64 n, .string s] 35)).alloc (.cells #[.int .i64 kd2, .int .i64 n2, .string s2] 35)).drew (wr.heap.size) 35 #[.int .i64 kd, .int .i64 n, .string s] := (Own.new wr 35 #[.int .i64 kd, .int .i64 n, .string s]).alloc _
        have oY : Own ((wr.alloc (.cells #[.int .i64 kd, .int .i64 n, .string s] 35)).alloc (.cells #[.int .i64 kd2, .int .i64 n2, .string s2] 35)).drew (wr.heap.size + 1) 35 #[.int .i64 kd2, .int .i64 n2, .string s2] := own_two _
        have bX : Below wr.heap.size wr ((wr.alloc (.cells #[.int .i64 kd, .int .i64 n, .string s] 35)).alloc (.cells #[.int .i64 kd2, .int .i64 n2, .string s2] 35)).drew := ((bel_mark wr _).trans ((bel_mark _ _).mono (bel_mark wr _).size)).drew
        have BX := hbr.trans (bX.mono hbz)
        clear HS bX
        generalize ((wr.alloc (.cells #[.int .i64 kd, .int .i64 n, .string s] 35)).alloc (.cells #[.int .i64 kd2, .int .i64 n2, .string s2] 35)).drew = X at *
        have x0 := oX.cell 0; have x1 := oX.cell 1; have x2 := oX.cell 2
        have y0 := oY.cell 0; have y1 := oY.cell 1; have y2 := oY.cell 2
        (try simp only [List.getElem?_toArray, List.getElem?_cons_zero, List.getElem?_cons_succ] at x0 x1 x2 y0 y1 y2)
        have HB := Lib.hid BX
        clear oX oY BX hbr
        rcases Int.lt_trichotomy kd kd2 with h | h | h
        · have HF := Lib.hid (show cmpR ps qs = -1 by rw [HCD.out, if_pos (by simp [lessP, h])])
          clear HCD
          go_wp2
          go_ret
          exact ⟨by rw [HF.out]; rfl, HB.out⟩
        · subst h
          rcases Int.lt_trichotomy n n2 with h | h | h
          · have HF := Lib.hid (show cmpR ps qs = -1 by rw [HCD.out, if_pos (by simp [lessP, h])])
            clear HCD
            go_wp2
            go_ret
            exact ⟨by rw [HF.out]; rfl, HB.out⟩
          · subst h
            cases hl : Op.bytesLess s.toList s2.toList
            · by_cases hs : s = s2
              · subst hs
                have HF := Lib.hid (show cmpR ps qs = cmpR (ps.drop (k + 1)) (qs.drop (k + 1)) by rw [HCD.out, if_neg (by rw [lessP_irr]; decide), if_pos rfl])
                have q := fun W => neq_self kd n s W
                clear HCD
                go_wp2
                go_round
                case rel => exact ⟨k + 1, by omega, by omega, by go_num, HF, HB.out⟩
                case measure => simp [intOf]; omega
              · have hse : s.toList ≠ s2.toList := fun e => hs (mk_ext (by rw [← Lib.toList_data, ← Lib.toList_data]; exact e))
                have hlp : lessP (kd, n, s) (kd, n, s2) = false := by simp [lessP, hl]
                have HF := Lib.hid (show cmpR ps qs = 1 by rw [HCD.out, if_neg (by rw [hlp]; decide), if_neg (by intro e; simp at e; exact hs e)])
                have hev : eqV kd n s kd n s2 = false := by unfold eqV; simp [hse]
                have q := fun W => neq_val kd n s kd n s2 W
                rw [hev] at q
                clear HCD hlp hev hse hs
                go_wp2
                go_ret
                exact ⟨by rw [HF.out]; rfl, HB.out⟩
            · have HF := Lib.hid (show cmpR ps qs = -1 by rw [HCD.out, if_pos (by simp [lessP, hl])])
              clear HCD
              go_wp2
              go_ret
              exact ⟨by rw [HF.out]; rfl, HB.out⟩
          · have hnn : ¬ n < n2 := by omega
            have hne : ¬ n = n2 := by omega
            have hlp : lessP (kd, n, s) (kd, n2, s2) = false := by simp [lessP, hnn, hne]
            have HF := Lib.hid (show cmpR ps qs = 1 by rw [HCD.out, if_neg (by rw [hlp]; decide), if_neg (by intro e; simp at e; exact hne e.1)])
            have hev : eqV kd n s kd n2 s2 = false := by unfold eqV; simp [hne]
            have q := fun W => neq_val kd n s kd n2 s2 W
            rw [hev] at q
            clear HCD hlp hev
            go_wp2
            go_ret
            exact ⟨by rw [HF.out]; rfl, HB.out⟩
        · have hnn : ¬ kd < kd2 := by omega
          have hne : ¬ kd = kd2 := by omega
          have hlp : lessP (kd, n, s) (kd2, n2, s2) = false := by simp [lessP, hnn, hne]
          have HF := Lib.hid (show cmpR ps qs = 1 by rw [HCD.out, if_neg (by rw [hlp]; decide), if_neg (by intro e; simp at e; exact hne e.1)])
          have hev : eqV kd n s kd2 n2 s2 = false := by unfold eqV; simp [hne]
          have q := fun W => neq_val kd n s kd2 n2 s2 W
          rw [hev] at q
          clear HCD hlp hev
          go_wp2
          go_ret
          exact ⟨by rw [HF.out]; rfl, HB.out⟩
      · skip
        rename_i hH
        clear hH
        have oX : Own ((wr.alloc (.cells #[.int .i64 kd2, .int .i64 n2, .string s2] 35)).alloc (.cells #[.int .i64 kd, .int .i64 n, .string s] 35)).drew (wr.heap.size + 1) 35 #[.int .i64 kd, .int .i64 n, .string s] := own_two _
        have oY : Own ((wr.alloc (.cells #[.int .i64 kd2, .int .i64 n2, .string s2] 35)).alloc (.cells #[.int .i64 kd, .int .i64 n, .string s] 35)).drew (wr.heap.size) 35 #[.int .i64 kd2, .int .i64 n2, .string s2] := (Own.new wr 35 #[.int .i64 kd2, .int .i64 n2, .string s2]).alloc _
        have bX : Below wr.heap.size wr ((wr.alloc (.cells #[.int .i64 kd2, .int .i64 n2, .string s2] 35)).alloc (.cells #[.int .i64 kd, .int .i64 n, .string s] 35)).drew := ((bel_mark wr _).trans ((bel_mark _ _).mono (bel_mark wr _).size)).drew
        have BX := hbr.trans (bX.mono hbz)
        clear HS bX
        generalize ((wr.alloc (.cells #[.int .i64 kd2, .int .i64 n2, .string s2] 35)).alloc (.cells #[.int .i64 kd, .int .i64 n, .string s] 35)).drew = X at *
        have x0 := oX.cell 0; have x1 := oX.cell 1; have x2 := oX.cell 2
        have y0 := oY.cell 0; have y1 := oY.cell 1; have y2 := oY.cell 2
        (try simp only [List.getElem?_toArray, List.getElem?_cons_zero, List.getElem?_cons_succ] at x0 x1 x2 y0 y1 y2)
        have HB := Lib.hid BX
        clear oX oY BX hbr
        rcases Int.lt_trichotomy kd kd2 with h | h | h
        · have HF := Lib.hid (show cmpR ps qs = -1 by rw [HCD.out, if_pos (by simp [lessP, h])])
          clear HCD
          go_wp2
          go_ret
          exact ⟨by rw [HF.out]; rfl, HB.out⟩
        · subst h
          rcases Int.lt_trichotomy n n2 with h | h | h
          · have HF := Lib.hid (show cmpR ps qs = -1 by rw [HCD.out, if_pos (by simp [lessP, h])])
            clear HCD
            go_wp2
            go_ret
            exact ⟨by rw [HF.out]; rfl, HB.out⟩
          · subst h
            cases hl : Op.bytesLess s.toList s2.toList
            · by_cases hs : s = s2
              · subst hs
                have HF := Lib.hid (show cmpR ps qs = cmpR (ps.drop (k + 1)) (qs.drop (k + 1)) by rw [HCD.out, if_neg (by rw [lessP_irr]; decide), if_pos rfl])
                have q := fun W => neq_self kd n s W
                clear HCD
                go_wp2
                go_round
                case rel => exact ⟨k + 1, by omega, by omega, by go_num, HF, HB.out⟩
                case measure => simp [intOf]; omega
              · have hse : s.toList ≠ s2.toList := fun e => hs (mk_ext (by rw [← Lib.toList_data, ← Lib.toList_data]; exact e))
                have hlp : lessP (kd, n, s) (kd, n, s2) = false := by simp [lessP, hl]
                have HF := Lib.hid (show cmpR ps qs = 1 by rw [HCD.out, if_neg (by rw [hlp]; decide), if_neg (by intro e; simp at e; exact hs e)])
                have hev : eqV kd n s kd n s2 = false := by unfold eqV; simp [hse]
                have q := fun W => neq_val kd n s kd n s2 W
                rw [hev] at q
                clear HCD hlp hev hse hs
                go_wp2
                go_ret
                exact ⟨by rw [HF.out]; rfl, HB.out⟩
            · have HF := Lib.hid (show cmpR ps qs = -1 by rw [HCD.out, if_pos (by simp [lessP, hl])])
              clear HCD
              go_wp2
              go_ret
              exact ⟨by rw [HF.out]; rfl, HB.out⟩
          · have hnn : ¬ n < n2 := by omega
            have hne : ¬ n = n2 := by omega
            have hlp : lessP (kd, n, s) (kd, n2, s2) = false := by simp [lessP, hnn, hne]
            have HF := Lib.hid (show cmpR ps qs = 1 by rw [HCD.out, if_neg (by rw [hlp]; decide), if_neg (by intro e; simp at e; exact hne e.1)])
            have hev : eqV kd n s kd n2 s2 = false := by unfold eqV; simp [hne]
            have q := fun W => neq_val kd n s kd n2 s2 W
            rw [hev] at q
            clear HCD hlp hev
            go_wp2
            go_ret
            exact ⟨by rw [HF.out]; rfl, HB.out⟩
        · have hnn : ¬ kd < kd2 := by omega
          have hne : ¬ kd = kd2 := by omega
          have hlp : lessP (kd, n, s) (kd2, n2, s2) = false := by simp [lessP, hnn, hne]
          have HF := Lib.hid (show cmpR ps qs = 1 by rw [HCD.out, if_neg (by rw [hlp]; decide), if_neg (by intro e; simp at e; exact hne e.1)])
          have hev : eqV kd n s kd2 n2 s2 = false := by unfold eqV; simp [hne]
          have q := fun W => neq_val kd n s kd2 n2 s2 W
          rw [hev] at q
          clear HCD hlp hev
          go_wp2
          go_ret
          exact ⟨by rw [HF.out]; rfl, HB.out⟩
    · skip
      have hce := cmpR_end ps qs k hlt
      rw [← HR.out] at hce
      by_cases h1 : k < qs.length
      · have h2 : ¬ k < ps.length := fun h2 => hlt ⟨h2, h1⟩
        have HF := Lib.hid (hce.trans (if_pos h1))
        have t1 : ¬ (k : Int) < ps.length := by omega
        have t2 : (ps.length : Int) < qs.length := by omega
        clear hce hlt
        go_wp2
        go_ret
        exact ⟨by rw [HF.out]; rfl, hbr⟩
      · by_cases h2 : k < ps.length
        · have HF := Lib.hid ((hce.trans (if_neg h1)).trans (if_pos h2))
          have t0 : (k : Int) < ps.length := by omega
          have t1 : ¬ (k : Int) < qs.length := by omega
          have t2 : ¬ (ps.length : Int) < qs.length := by omega
          have t3 : (ps.length : Int) > qs.length := by omega
          clear hce hlt
          go_wp2
          go_ret
          exact ⟨by rw [HF.out]; rfl, hbr⟩
        · have HF := Lib.hid ((hce.trans (if_neg h1)).trans (if_neg h2))
          have t1 : ¬ (k : Int) < ps.length := by omega
          have t2 : ¬ (ps.length : Int) < qs.length := by omega
          have t3 : ¬ (ps.length : Int) > qs.length := by omega
          clear hce hlt
          go_wp2
          go_ret
          exact ⟨by rw [HF.out]; rfl, hbr⟩
end Go.Proofs.Ytomiegfblhhhpaa
