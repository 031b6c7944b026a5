import Derived.Test.YtbpjgipldddcfaaGZ
import Derived.WalkKit
import Derived.WalkSpells
import Derived.WalkLawsBesides
import Derived.Deep.QuietTactic
import Derived.BigQuiet
import Derived.Handy
import Derived.Lib.Hide
/-
  Contract of the program's Levels. Conditions: at most 1000 steps; the levels hold at most a million periods.
-/
namespace Go.Proofs.Ytbpjgipldddcfaa
set_option maxRecDepth 100000
set_option linter.unusedVariables false
set_option linter.unusedSimpArgs false
open Go.RowKit Go.Sort Go.Lib

theorem append_perG {ops : Array Oper} {rest : List Oper} {o : Oper} {a : Act} {Q : Exit → Act → World → Prop} (W : World) (hgd : o.guard = none) (s x : Operand)
    (ho : o.op = .call { callee := .builtin .append, args := #[s, x], argTypes := #[26, 26] }) (base : Nat) (v : Value) (l : List (Int × Int)) (hs : a.eval s = v)
    (hown : W.ownsRow base 33 2 v l.length (flatP l)) (ad : Addr) (c d : Int) (hx : a.eval x = .slice (some ad) 1 1)
    (hnew : ∀ j u, [Value.int .i64 c, Value.int .i64 d][j]? = some u → W.cell? (ad.add j) = some u) (hl : l.length ≤ 1000000000) (hbase : base ≤ W.heap.size)
    (h : ∀ v' w', w'.ownsRow base 33 2 v' (l ++ [(c, d)]).length (flatP (l ++ [(c, d)])) → Below base W w' → W.grownBy w' v.ownBlock → wpList Try.prog ops Q rest (a.put o.dst v') w') :
    wpList Try.prog ops Q (o :: rest) a W := by
  obtain ⟨i0, hi, hz0, hz1, hz2⟩ := info_parts infoPer
  refine wpList_append_own _ hgd s x 26 ho base 33 i0 (.agg #[.int .i64 0, .int .i64 0]) 2 16 Try.underlying26 hi hz0 hz1 hz2 rfl (by decide) v l.length (flatP l) hs hown ad 1 1 [.int .i64 c, .int .i64 d] hx rfl
    hnew (fun u hu => by simp at hu; rcases hu with rfl | rfl <;> rfl) (by unfold maxLen; omega) (by omega) hbase ?_
  intro v' w' h1 h2 _
  refine h v' w' (by rw [flatP_snoc, List.length_append]; exact h1) ((Below.refl _ _).grown h2 hbase fun k hk => (hown.lt k hk).1) h2
def cfL (x y : Pc) : Int := cmpP x.1 x.2.1 y.1 y.2.1
theorem ltL (x y : Pc) : ltOf cfL x y = decide (x.1 < y.1 ∨ (x.1 = y.1 ∧ x.2.1 < y.2.1)) := by
  unfold ltOf cfL cmpP
  rw [Bool.eq_iff_iff, decide_eq_true_eq, decide_eq_true_eq]
  repeat' split
  all_goals omega
theorem swoL : SWO (ltOf cfL) where
  irrefl x := by rw [ltL]; simp
  trans x y z h1 h2 := by rw [ltL, decide_eq_true_eq] at *; omega
  ntrans x y z h1 h2 := by rw [ltL, decide_eq_false_iff_not] at *; omega
set_option maxHeartbeats 1000000 in
theorem closureL (x y : Pc) (W : World) : Calls Try.prog 27 #[.agg (encB x).toArray, .agg (encB y).toArray] W fun e w' => e = .returned (.int .i64 (cfL x y)) ∧ ∃ q os', w' = grow (W.drewN q) os' := by
  obtain ⟨x1, x2, x3⟩ := x
  obtain ⟨y1, y2, y3⟩ := y
  unfold encB cfL
  have hcon := fun W' => compare_grow x1 x2 y1 y2 W'
  dsimp only
  generalize cmpP x1 x2 y1 y2 = r at hcon ⊢
  go_enter Try.func27, Try.ntmps27
  go_wp2_with (go_at_call 28; refine (hcon _).mono ?_; rintro e w' ⟨rfl, hG⟩)
  have hG2 : ∃ q os, w' = grow (W.drewN q) os := aftG_trans ⟨0, _, by rw [alloc_eq_grow, alloc_eq_grow, grow_grow]; rfl⟩ hG
  go_ret
  exact ⟨rfl, hG2⟩
def SortedL (w : World) (base : Nat) (v : Value) (l : List Pc) (e : Ending) (w' : World) : Prop :=
  e = .returned (.tuple #[]) ∧ ∃ D : List Pc, D.Perm l ∧ D.Pairwise (fun x y => lexL (x.1, x.2.1) (y.1, y.2.1) = true) ∧ RdB w' base w'.heap.size v D ∧ Below base w w'
theorem sort_lv (v : Value) (l : List Pc) (w : World) (base : Nat) (hown : w.ownsRow base 44 3 v l.length (flatB l)) (hlen : l.length ≤ 1000000) :
    Calls Try.prog 26 #[v, .func (.func 27) #[] #[]] w (SortedL w base v l) := by
  rcases own_get hown with ⟨rfl, h0⟩ | ⟨gb, c, rfl, hb, hgb, hnc, _⟩
  · obtain rfl := List.eq_nil_of_length_eq_zero h0
    have h := AnyF.slices_SortFunc_none { Try.sortPc with } none 0 (.func (.func 27) #[] #[]) w
    refine Calls.mono h ?_
    rintro e w' ⟨rfl, rfl⟩
    exact ⟨rfl, [], List.Perm.refl _, List.Pairwise.nil, ⟨none, 0, rfl, by simp, by simp⟩, Below.refl _ _⟩
  · have hH := holds_of_ownC hown
    have eg1 : ∀ args w, (callFunc 27 args).run Try.prog w = .ok (.enter 27 args) w := enters_of Try.func27 (by kernel_rfl) rfl
    have h := AnyQ.slices_SortFunc Try.sortPc 3 Try.isAgg44 Try.sizeOf44 encB (fun _ => rfl) (fun x v hv => by simp [encB] at hv; rcases hv with rfl | rfl | rfl <;> rfl) cfL swoL 27 #[] gb 0 c l.toArray w eg1 (fun _ _ _ _ x y => closureL x y _) hH hgb (by simp; omega)
    refine Calls.mono h ?_
    rintro e w' ⟨rfl, d', n, os, hp, hs, rfl⟩
    have hsz : d'.size = l.length := by simpa using hp.1
    refine ⟨rfl, d'.toList, ?_, ?_, ?_, (below_sortWorld encB 3 w gb 0 n d' os hgb).mono hb⟩
    · have h2 := hp.2.2
      have e1 : d'.extract 0 l.toArray.size = d' := by rw [show l.toArray.size = d'.size by simpa using hsz.symm]; exact Array.extract_size
      have e2 : l.toArray.extract 0 l.toArray.size = l.toArray := Array.extract_size
      rw [e1, e2] at h2
      simpa using h2
    · rw [List.pairwise_iff_getElem]
      intro i j hi hj hij
      have h3 := hs i j (Nat.zero_le _) hij (by simp at hj ⊢; omega)
      rw [ltL, getElem!_pos _ _ (by simpa using hj), getElem!_pos _ _ (by simpa using hi), decide_eq_false_iff_not] at h3
      rw [lexL_iff]
      simp at h3 ⊢
      omega
    · have h4 := rd_of_holds (c := c) (holdsK_sortWorldK_c encB 3 w gb 0 l.toArray d' n os hH hgb (by simpa using hsz)) hb (Nat.lt_of_lt_of_le hgb (size_sortWorldK_c encB 3 w gb 0 n d' os)) (by omega)
      rw [hsz] at h4
      exact h4
theorem expC_perm {C D : List Pc} (h : C.Perm D) : (expC C).Perm (expC D) := h.flatMap_right _
theorem expC_sorted : ∀ {D : List Pc}, D.Pairwise (fun x y => lexL (x.1, x.2.1) (y.1, y.2.1) = true) → srtL (expC D)
  | [], _ => List.Pairwise.nil
  | c :: D, h => by
    obtain ⟨h1, h2⟩ := List.pairwise_cons.1 h
    show srtL (List.replicate c.2.2.toNat (c.1, c.2.1) ++ expC D)
    refine List.pairwise_append.2 ⟨?_, expC_sorted h2, fun p hp q hq => ?_⟩
    · rw [List.pairwise_replicate]
      exact .inr (lexL_iff.2 (by omega))
    · obtain ⟨_, rfl⟩ := List.mem_replicate.1 hp
      obtain ⟨d, hd, hq⟩ := List.mem_flatMap.1 hq
      obtain ⟨_, rfl⟩ := List.mem_replicate.1 hq
      exact h1 d hd
theorem expC_eq {C D : List Pc} {l : List (Int × Int)} (hp : D.Perm C) (hs : D.Pairwise (fun x y => lexL (x.1, x.2.1) (y.1, y.2.1) = true)) (hC : (expC C).Perm (lvAll l)) : expC D = levL l := by
  obtain ⟨h1, h2⟩ := plcs_facts (lvAll l) [] .nil
  exact srtL_ext (expC_sorted hs) h1 (((expC_perm hp).trans hC).trans h2.symm)
theorem expC_step {D : List Pc} {k : Nat} {c : Pc} (h : D[k]? = some c) : expC (D.take (k + 1)) = expC (D.take k) ++ List.replicate c.2.2.toNat (c.1, c.2.1) := by
  rw [take_snocC h, expC_append, expC_one]
theorem expC_take_len (D : List Pc) (k : Nat) : (expC (D.take k)).length ≤ (expC D).length := by
  conv => rhs; rw [← List.take_append_drop k D]
  rw [expC_append, List.length_append]; omega
set_option maxRecDepth 100000 in
set_option maxHeartbeats 6400000 in
theorem pLevels_any (v : Value) (l : List (Int × Int)) (w : World) (L0 : Nat) (hv : RdP w L0 w.heap.size v l) (hlen : l.length ≤ 1000) (hlv : (levL l).length ≤ 1000000) :
    Calls Try.prog 11 #[v] w (RetPers w (levL l)) := by
  have HLay := Lib.hid (layers_any v l w L0 hv hlen)
  obtain ⟨A, c, rfl, _, _⟩ := hv
  go_enter Try.func11, Try.ntmps11
  go_wp2_with fail
  refine HLay.out.mono ?_
  intro e w1 hR
  unfold RetLay at hR
  obtain ⟨v1, rfl, M, hown1, hMl, hMp, hMq, hb1⟩ := hR
  have HM := Lib.hid (And.intro hMp hMq)
  have O1 := Lib.hid hown1
  obtain ⟨A1, n1, c1, rfl⟩ := own_slice hown1
  clear hown1 hMp hMq HLay
  go_wp2_with fail
  refine (sort_lv _ M w1 w.heap.size O1.out (by omega)).mono ?_
  intro e w2 hR
  unfold SortedL at hR
  obtain ⟨rfl, D, hp, hs, hr, hb2⟩ := hR
  have HE := Lib.hid (expC_eq hp hs HM.out.2)
  have HD : Hid (∀ c ∈ D, 0 < c.2.2 ∧ c.2.2 ≤ 1048576) := Lib.hid (fun c hc => HM.out.1 c (hp.mem_iff.1 hc))
  have HR := Lib.hid hr
  have B2 := hb1.trans hb2
  have hn1 := hr.len.1
  subst hn1
  have hDl : D.length ≤ 1000 := by rw [hp.length_eq]; omega
  clear hp hs hr hb1 hb2
  rw [← HE.out] at hlv
  have HEl : (expC D).length ≤ 1000000 := hlv
  clear HM O1 hlv
  have z2 := B2.size
  go_wp2
  go_loopw [4, 13] (fun o i wr => ∃ k : Nat, k ≤ D.length ∧ i = .int .i64 k ∧ wr.ownsRow w2.heap.size 33 2 o (expC (D.take k)).length (flatP (expC (D.take k))) ∧ Below w2.heap.size w2 wr) (fun _ i _ => D.length - (intOf i).toNat)
  case atStart => exact ⟨0, by omega, rfl, own_nilP _ _, Below.refl _ _⟩
  case round =>
    obtain ⟨k, hk, rfl, hown, hbr⟩ := hrel
    have hbz := hbr.size
    have OR := Lib.hid hown
    clear hown
    have hel := expC_take_len D k
    by_cases hlt : k < D.length
    · have hx := List.getElem?_eq_getElem hlt
      generalize D[k] = s at hx
      obtain ⟨x, y, z⟩ := s
      obtain ⟨ad, rfl, _, hab, c0, c1, c2⟩ := (HR.out.below hbr).atw hx
      have hz := HD.out _ (List.mem_of_getElem? hx)
      dsimp only at hz
      have hS := Lib.hid (expC_step hx)
      have hel2 := expC_take_len D (k + 1)
      rw [expC_step hx, List.length_append, List.length_replicate] at hel2
      dsimp only at hel2
      have i2 : (0 : Int) ≤ (k : Int) := by omega
      have i3 : (k : Int) < (D.length : Int) := by omega
      clear hx
      generalize expC (D.take k) = EL at *
      have bW : Below wr.heap.size wr (wr.alloc (.cells #[.int .i64 x, .int .i64 y, .int .i64 z] 44)) := (Below.refl _ _).alloc (Nat.le_refl _) _
      have oW := Own.new wr 44 #[.int .i64 x, .int .i64 y, .int .i64 z]
      have OR1 := Lib.hid (own_below OR.out bW)
      have BW := hbr.trans (bW.mono hbz)
      obtain ⟨zn, hzn⟩ : ∃ zn : Nat, z = zn := ⟨z.toNat, by omega⟩
      subst hzn
      have hzt : ((zn : Nat) : Int).toNat = zn := by omega
      have OWh := Lib.hid oW
      have e0 := oW.cell 0
      have e1 := oW.cell 1
      have e2 := oW.cell 2
      generalize hsb : wr.heap.size = sb at *
      clear bW oW OR hbr
      go_wp2
      generalize wr.alloc (.cells #[.int .i64 x, .int .i64 y, .int .i64 zn] 44) = W1 at *
      go_loopw [4, 19] (fun o i wx => ∃ j : Nat, j ≤ zn ∧ i = .int .i64 j ∧ wx.ownsRow w2.heap.size 33 2 o (EL ++ List.replicate j (x, y)).length (flatP (EL ++ List.replicate j (x, y))) ∧ Own wx sb 44 #[.int .i64 x, .int .i64 y, .int .i64 zn] ∧ Below w2.heap.size w2 wx) (fun _ i _ => zn - (intOf i).toNat)
      case atStart => exact ⟨0, by omega, rfl, by rw [List.replicate_zero, List.append_nil]; exact OR1.out, OWh.out, BW⟩
      case round =>
        clear OR1 OWh BW e0 e1 e2
        obtain ⟨j, hj, rfl, hown, hob, hbr⟩ := hrel
        have hbz := hbr.size
        have OR := Lib.hid hown
        have OB := Lib.hid hob
        clear hown hob
        by_cases hjl : j < zn
        · have e0 : wr.cell? ⟨sb, 0, none⟩ = some (.int .i64 x) := OB.out.cell 0
          have e1 : wr.cell? ⟨sb, 1, none⟩ = some (.int .i64 y) := OB.out.cell 1
          have hsn : EL ++ List.replicate (j + 1) (x, y) = (EL ++ List.replicate j (x, y)) ++ [(x, y)] := by rw [List.append_assoc, List.replicate_succ']
          have HSn := Lib.hid hsn
          have hll : (EL ++ List.replicate j (x, y)).length ≤ 1000000 := by rw [List.length_append, List.length_replicate]; omega
          have hsu : u4.ownBlock = none ∨ u4.ownBlock ≠ some sb := own_apart OR.out OB.out (by decide)
          have i5 : (j : Int) < (zn : Int) := by omega
          clear hsn
          generalize EL ++ List.replicate j (x, y) = RL at *
          go_wp2_with (at_builtin; refine append_perG _ rfl _ _ rfl w2.heap.size _ RL rfl (World.ownsRow.alloc OR.out _) ⟨wr.heap.size, 0, none⟩ x y rfl (cell_two_new _ _ _ _) ?_ ?_ ?_; (focus omega); (focus go_size); intro v3 w3 hown3 hb3 hg3; (try dsimp only [Act.eval, Act.put] at hg3))
          go_roundw
          case rel =>
            have hg4 : (wr.alloc (.cells #[.int .i64 x, .int .i64 y] 33)).grownBy w3 u4.ownBlock := hg3
            exact ⟨j + 1, by omega, by go_num, by rw [HSn.out]; exact hown3, (OB.out.alloc _).grown hg4 hsu, hbr.trans (((Below.refl _ _).alloc hbz _).trans hb3)⟩
          case measure => simp [intOf]; omega
        · have hjz : j = zn := by omega
          subst hjz
          have i5 : ¬ (j : Int) < (j : Int) := by omega
          go_wp2
          go_roundw
          case rel => exact ⟨k + 1, by omega, by go_num, by rw [hS.out, hzt]; exact OR.out, hbr⟩
          case measure => simp [intOf]; omega
    · have hT : D.take k = D := List.take_of_length_le (by omega)
      have hd : ¬ (k : Int) < D.length := by omega
      rw [hT] at OR
      clear hT
      have hr := Lib.hid (RdP.of_own OR.out (by omega))
      go_wp2
      go_ret
      exact ⟨_, rfl, by rw [← HE.out]; exact hr.out.more (Nat.le_refl _) z2, B2.trans (hbr.mono z2)⟩
end Go.Proofs.Ytbpjgipldddcfaa
