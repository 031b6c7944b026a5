import Derived.Test.YteihjneeiojgaaaSEoD
import Derived.Test.YteihjneeiojgaaaSExUc
import Derived.Test.YteihjneeiojgaaaSExUe
import Derived.Laws.AppendOwn
import Derived.Laws.OwnMore
import Derived.WalkKit
import Derived.WalkSpells
import Derived.WalkLawsBesides
import Derived.Deep.QuietTactic
import Derived.BigQuiet
import Derived.Handy
import Derived.Lib.Hide
/-
  used of evolve: the columns that a definition's key, foreign keys and checks name, as a map. Conditions: lengths.
-/
namespace Go.Proofs.Yteihjneeiojgaaa
set_option maxRecDepth 100000
set_option linter.unusedVariables false
set_option linter.unusedSimpArgs false
open Go.RowKit Go.Deep Go.ChangeShapes Go.WideShapes Go.MapKept Go.ChangeMaps Go.WideElems
open Go.Maps (Keyed int_keyed keyOf_int_mk)

theorem infoIz : (Try.prog.info? 3).map (fun i => (i.zero, i.size, i.bytes)) = some (some (.int .i64 0), 1, 8) := by kernel_rfl
theorem run_append_noneC {w : World} (base : Nat) (t ty e : TypeId) (i : TypeInfo) (size c : Nat) (ht : Try.prog.underlying t = some (.slice e)) (hi : Try.prog.info? e = some i)
    (v : Value) (n : Nat) (xs : List Value) (hown : w.ownsRow base e size v n xs) :
    (Builtin.append_ #[t, t] ty #[v, .slice none 0 c]).run Try.prog w = .ok v w := by
  rcases hown.2 with ⟨rfl, rfl⟩ | ⟨g, cap, cur, rfl, _, _, hnc, _⟩
  · simp [Builtin.append_, run_underlying ht, sizeOf, typeInfo, hi, Builtin.lenOf, Builtin.firstCells]
  · simp [Builtin.append_, run_underlying ht, sizeOf, typeInfo, hi, Builtin.lenOf, Builtin.firstCells, hnc, storeCells]
/-- append of a list of numbers that lies somewhere. -/
theorem append_iM {ops : Array Oper} {rest : List Oper} {o : Oper} {a : Act} {Q : Exit → Act → World → Prop} (W : World) (hgd : o.guard = none) (s x : Operand)
    (ho : o.op = .call { callee := .builtin .append, args := #[s, x], argTypes := #[23, 23] }) (base : Nat) (v : Value) (zs : List Int) (hs : a.eval s = v)
    (hown : W.ownsRow base 3 1 v zs.length (zs.flatMap fI)) (u : Value) (ys : List Int) (L : Nat) (hx : a.eval x = u) (hu : RdI W L W.heap.size u ys) (hl : zs.length + ys.length ≤ 17592186044416) (hbase : base ≤ W.heap.size)
    (h : ∀ v' w', w'.ownsRow base 3 1 v' (zs ++ ys).length ((zs ++ ys).flatMap fI) → W.grownBy w' v.ownBlock → wpList Try.prog ops Q rest (a.put o.dst v') w') :
    wpList Try.prog ops Q (o :: rest) a W := by
  obtain ⟨i0, hi, hz0, hz1, hz2⟩ := info_partsB infoIz
  have hu0 := hu
  obtain ⟨A, c, rfl, _, hc⟩ := hu
  cases A with
  | none =>
    have hz : ys = [] := by
      cases ys with
      | nil => rfl
      | cons z zs => obtain ⟨ad, h1, _⟩ := hc 0 z rfl; cases h1
    subst hz
    refine wpList_plain hgd fun K hK => ?_
    have hrun := run_append_noneC (w := W) base 23 o.type 3 i0 1 c Try.underlying23 hi v zs.length _ hown
    unfold Oper.wp
    simp [execOp, ho, resolve, invoke, builtin, hs, hx, hrun, Result.andThen]
    exact hK _ _ (h v W (by rw [List.append_nil]; exact hown) ⟨rfl, rfl, rfl, Nat.le_refl _, fun _ _ _ => rfl⟩)
  | some ad =>
    refine wpList_append_own W hgd s x 23 ho base 3 i0 (.int .i64 0) 1 8 Try.underlying23 hi hz0 hz1 hz2 rfl (by decide) v zs.length (zs.flatMap fI) hs hown ad ys.length c (ys.flatMap fI) hx (fm_len fI_len ys) (rdI_flat hu0)
      (fun u hu => by obtain ⟨z, _, hz⟩ := List.mem_flatMap.1 hu; simp [fI] at hz; subst hz; rfl) (by unfold maxLen; omega) (by omega) hbase ?_
    intro v' w' h1 h2 _
    refine h v' w' ?_ h2
    rw [List.length_append, List.flatMap_append]
    exact h1
theorem pClI_own (v : Value) (zs : List Int) (w : World) (L : Nat) (h : RdI w L w.heap.size v zs) (hl : zs.length ≤ 1099511627776) :
    Calls Try.prog 28 #[v] w fun e w' => ∃ v', e = .returned v' ∧ w'.ownsRow w.heap.size 3 1 v' zs.length (zs.flatMap fI) ∧ Below w.heap.size w w' := by
  have h0 := h
  obtain ⟨A, c, rfl, _, _⟩ := h
  cases A with
  | none =>
    have hz : zs = [] := by
      cases zs with
      | nil => rfl
      | cons z zs => obtain ⟨_, _, hv, _, hc⟩ := h0; injection hv with hA; obtain ⟨ad, h1, _⟩ := hc 0 z rfl; rw [← hA] at h1; cases h1
    subst hz
    exact (pClI_nil _ c w).mono fun e w' ⟨h1, h2⟩ => ⟨_, h1, World.ownsRow_nil w' w.heap.size 3 1, h2⟩
  | some ad =>
    exact (pClI_raw ad zs.length c (zs.flatMap fI) w (fm_len fI_len zs) hl (rdI_flat h0) (fun u hu => by obtain ⟨z, _, hz⟩ := List.mem_flatMap.1 hu; simp [fI] at hz; subst hz; rfl))
/-- A number that a set of numbers holds already is put there again. -/
theorem MapZ.again {w : World} {b : Nat} {ns : List Int} (h : MapZ w b ns) (s : Int) (hs : (Lit.int .i64 s).wf = true) (hn : s ∈ ns) :
    ∃ w', (Instr.mapUpdate 68 (.map (some b)) (.int .i64 s) (.bool true)).run Try.prog w = .ok () w' ∧ MapZ w' b ns ∧ w.grownBy w' (some b) ∧ w'.heap.size = w.heap.size := by
  have hlt := h.lt
  obtain ⟨es, c, hb, h1, h2⟩ := h
  have hkey := keyOf_int_mk (P := Try.prog) Try.underlying3 hs
  have hks : ∀ e ∈ es.toList, ∃ l, keyOf Try.prog 3 e.key = some l := fun e he => by
    obtain ⟨s2, e1, e2, _⟩ := h1 e he
    rw [e1]
    exact ⟨_, keyOf_int_mk Try.underlying3 e2⟩
  rcases lawZ.find w hkey es.toList hks with ⟨f1, f2⟩ | ⟨j, e0, f1, f2, f3⟩
  · obtain ⟨x, hx, hx2⟩ := h2 _ hn
    exact absurd hx2 (f2 x hx)
  · have hf2 : es[j]? = some e0 := by rw [← Array.getElem?_toList]; exact f2
    have hlist : (es.modify j fun e => ⟨.int .i64 s, .bool true, e.born⟩).toList = es.toList.modify j fun e => ⟨.int .i64 s, .bool true, e.born⟩ := Array.toList_modify ..
    refine ⟨setBlock w b (.map (es.modify j fun e => ⟨.int .i64 s, .bool true, e.born⟩) c), ?_, ⟨es.modify j fun e => ⟨.int .i64 s, .bool true, e.born⟩, c, ?_, ?_, ?_⟩, ⟨rfl, rfl, rfl, ?_, ?_⟩, ?_⟩
    · simp [Instr.mapUpdate, Instr.keyThatStays, run_underlying Try.underlying68, MapKept.run_getObj_map hb, lawZ.check w false hkey, f1, hf2, f3, Instr.sameBits, MapKept.run_setObj_map _ hb, Result.andThen, setBlock]
    · unfold setBlock
      simp [hlt]
    · intro x hx
      rw [hlist] at hx
      obtain ⟨m, hm⟩ := List.mem_iff_getElem?.1 hx
      rw [List.getElem?_modify] at hm
      cases hem : es.toList[m]? with
      | none => rw [hem] at hm; simp at hm
      | some y =>
        rw [hem] at hm
        by_cases hjm : j = m
        · subst hjm
          simp at hm
          subst hm
          exact ⟨s, rfl, hs, hn, rfl⟩
        · simp [hjm] at hm
          subst hm
          exact h1 y (List.mem_of_getElem? hem)
    · intro s2 hs2
      obtain ⟨x, hx, hx2⟩ := h2 s2 hs2
      rw [hlist]
      obtain ⟨m, hm⟩ := List.mem_iff_getElem?.1 hx
      by_cases hjm : j = m
      · subst hjm
        rw [f2] at hm
        injection hm with hm
        subst hm
        refine ⟨⟨.int .i64 s, .bool true, e0.born⟩, List.mem_iff_getElem?.2 ⟨j, ?_⟩, f3.symm.trans hx2⟩
        rw [List.getElem?_modify, f2]
        simp
      · refine ⟨x, List.mem_iff_getElem?.2 ⟨m, ?_⟩, hx2⟩
        rw [List.getElem?_modify, hm]
        simp [hjm]
    · unfold setBlock; simp
    · intro i hi hne
      have hne2 : b ≠ i := fun e => hne (by rw [e])
      unfold setBlock
      simp [hne2]
    · unfold setBlock; simp
def usdL (zs : List Int) (fs : List Fk) (d : Nat) (es : List Ex) : List Int := (zs ++ fs.flatMap (·.1)) ++ es.flatMap (fun e => colS (colE d e))
def RetUsd (w : World) (l : List Int) (e : Ending) (w' : World) : Prop := ∃ b ns, e = .returned (.map (some b)) ∧ w.heap.size ≤ b ∧ MapZ w' b ns ∧ (∀ z, z ∈ ns ↔ z ∈ l) ∧ Below w.heap.size w w'
theorem take_flat {α β : Type} (f : α → List β) (l : List α) (k : Nat) (a : α) (h : l[k]? = some a) : (l.take (k + 1)).flatMap f = (l.take k).flatMap f ++ f a := by
  rw [List.take_add_one, h, List.flatMap_append]
  simp
theorem own_len {w : World} {base n s : Nat} {t : TypeId} {v : Value} {xs : List Value} (h : w.ownsRow base t s v n xs) : ∃ A c, v = .slice A n c := by
  rcases own_row h with ⟨h5, h6⟩ | ⟨g, c, h5, _⟩
  · exact ⟨none, 0, by rw [h6]; exact h5⟩
  · exact ⟨_, _, h5⟩
theorem rdI_ownX {w : World} {base : Nat} {v : Value} {zs : List Int} (h : w.ownsRow base 3 1 v zs.length (zs.flatMap fI)) (hl : zs.length ≤ 9223372036854775807) : RdI w base w.heap.size v zs := by
  obtain ⟨A, c, hv⟩ := own_len h
  subst hv
  refine ⟨A, c, rfl, hl, fun k z hk => ?_⟩
  rcases own_row h with ⟨_, h6⟩ | ⟨g, c', h5, h6, h7, h8⟩
  · rw [List.length_eq_zero_iff.1 h6] at hk; simp at hk
  · injection h5 with h5
    subst h5
    refine ⟨⟨g, 0, none⟩, rfl, h6, h7, h8 k _ ?_⟩
    have := fm_get fI_len zs k z hk 0 (by decide)
    simpa [fI] using this
set_option maxRecDepth 100000 in
set_option maxHeartbeats 25600000 in
theorem used_any (nm vc vk vf vx : Value) (zs : List Int) (fs : List Fk) (es : List Ex) (d : Nat) (w : World) (L2 L3 L4 : Nat) (hk : RdI w L2 w.heap.size vk zs) (hf : RdF w L3 w.heap.size vf fs) (he : RdE w L4 w.heap.size (d + 1) vx es)
    (lk : zs.length ≤ 1099511627776) (lf : fs.length ≤ 4) (lf1 : ∀ f ∈ fs, f.1.length ≤ 1099511627776) (le : es.length ≤ 4) (le1 : ∀ e ∈ es, (colE d e).length ≤ 1099511627776) (lw : ∀ z ∈ usdL zs fs d es, (Lit.int .i64 z).wf = true) :
    Calls Try.prog 35 #[.agg #[nm, vc, vk, vf, vx]] w (RetUsd w (usdL zs fs d es)) := by
  obtain ⟨Ak, ck, ek, _⟩ := id hk
  obtain ⟨Af, cf, ef, _⟩ := id hf
  obtain ⟨Ae, ce, ee, _⟩ := id he
  subst ek ef ee
  obtain ⟨HO, HB⟩ := bx1 w 27 #[nm, vc, .slice Ak zs.length ck, .slice Af fs.length cf, .slice Ae es.length ce]
  have HKK := Lib.hid (hk.step HB.out (Nat.le_refl _))
  have HC := Lib.hid (fun (W : World) (hb : Below w.heap.size w W) => hf.below hb)
  have HE := Lib.hid (fun (W : World) (hb : Below w.heap.size w W) => he.below hb)
  have HL1 := Lib.hid lf1
  have HL2 := Lib.hid le1
  have HLW := Lib.hid lw
  have HLF := Lib.hid lf
  have HLE := Lib.hid le
  have HLK := Lib.hid lk
  clear hk hf he lf1 le1 lw lf le lk
  have hVz : (w.alloc (.cells #[nm, vc, .slice Ak zs.length ck, .slice Af fs.length cf, .slice Ae es.length ce] 27)).heap.size = w.heap.size + 1 := World.size_alloc ..
  have HCL := Lib.hid (pClI_own _ zs _ _ HKK.out HLK.out)
  obtain ⟨d0, d1, d2, d3, d4⟩ := Own.five HO.out
  go_enter Try.func35, Try.ntmps35
  go_wp2_with fail
  generalize w.alloc (.cells #[nm, vc, .slice Ak zs.length ck, .slice Af fs.length cf, .slice Ae es.length ce] 27) = V at *
  have HVZ := Lib.hid hVz
  clear hVz
  with_reducible refine HCL.out.mono ?_
  rintro e w1 ⟨v1, rfl, hv1, hb1⟩
  have HB1 := Lib.hid hb1
  have HO1 := blw HO hb1
  have HR1 := Lib.hid hv1
  clear hb1 hv1 HCL HKK d0 d1 d2 d3 d4
  have d3 := (Own.five HO1.out).2.2.2.1
  obtain ⟨A1, c1, e1⟩ := own_len HR1.out
  subst e1
  go_wp2_with fail
  have hN : w.heap.size + 1 ≤ w1.heap.size := by have := HB1.out.size; rw [HVZ.out] at this; exact this
  go_loopw [3, 17] (fun l i wr => ∃ (k : Nat) (ls : List Int), k ≤ fs.length ∧ i = .int .i64 k ∧ Hid (ls = zs ++ (fs.take k).flatMap (·.1)) ∧ ls.length ≤ (1 + k) * 1099511627776 ∧ Hid (wr.ownsRow V.heap.size 3 1 l ls.length (ls.flatMap fI)) ∧ Below V.heap.size V wr) (fun _ i _ => fs.length - (intOf i).toNat)
  case atStart => exact ⟨0, zs, Nat.zero_le _, rfl, Lib.hid (by simp), by have := HLK.out; omega, HR1, HB1.out⟩
  case round =>
    clear HR1 HB1 HO1 d3 hN
    obtain ⟨k, ls, hk, rfl, HLS, hll, HR, hbr⟩ := hrel
    have hbz := hbr.size
    have HOr := blw HO hbr
    have hVs := HVZ.out
    have hbw : Below w.heap.size w wr := HB.out.trans (hbr.mono (by omega))
    obtain ⟨d0, d1, d2, d3, d4⟩ := Own.five HOr.out
    have hfl := HLF.out
    by_cases hlt : k < fs.length
    · have hki : (k : Int) < fs.length := by omega
      obtain ⟨A3, c3, hv3, _, hcc⟩ := HC.out wr hbw
      injection hv3 with e1 e2 e3
      subst e1 e3
      obtain ⟨ad, u, rfl, _, hab, a0, a1, hu⟩ := hcc k _ (List.getElem?_eq_getElem hlt)
      have hlq := HL1.out _ (List.getElem_mem hlt)
      have HTF := Lib.hid (take_flat (fun f : Fk => f.1) fs k _ (List.getElem?_eq_getElem hlt))
      generalize fs[k] = q at *
      obtain ⟨ys, s⟩ := q
      dsimp only at a1 hu hlq
      obtain ⟨Au, cu, eu, _⟩ := id hu
      subst eu
      have b2 := bel_mk wr (.cells #[.slice Au ys.length cu, .string s] 54)
      have HY := Lib.hid ((hu.more (show w.heap.size ≤ wr.heap.size by omega)).step b2 (Nat.le_refl _))
      have g0 := (Own.new wr 54 #[.slice Au ys.length cu, .string s]).cell 0
      have HRV := Lib.hid (World.ownsRow.alloc HR.out (.cells #[.slice Au ys.length cu, .string s] 54))
      have HBV := Lib.hid (hbr.trans (b2.mono hbz))
      have hsz : V.heap.size ≤ (wr.alloc (.cells #[.slice Au ys.length cu, .string s] 54)).heap.size := HBV.out.size
      obtain ⟨Al, cl, el⟩ := own_len HR.out
      subst el
      clear hcc hu b2
      go_wp2_with (at_builtin; refine append_iM _ rfl _ _ rfl V.heap.size _ ls rfl HRV.out _ ys _ rfl HY.out (by omega) hsz ?_; intro v2 w2 hr2 hg2; have HR2 := Lib.hid hr2; have HG2 := Lib.hid hg2; clear hr2 hg2)
      have HBX := HBV.out.grown HG2.out hsz (fun b hb => (World.ownsRow.lt HRV.out b hb).1)
      clear HRV HBV HG2 HY HR hbr hbw HOr d0 d1 d2 d3 d4 g0 hsz
      go_roundw
      case rel => exact ⟨k + 1, ls ++ ys, by omega, by go_num, Lib.hid (by rw [HTF.out, HLS.out, List.append_assoc]), by rw [List.length_append]; omega, HR2, HBX⟩
      case measure => simp [intOf]; omega
    · have hki : ¬ (k : Int) < fs.length := by omega
      have HLT := Lib.hid (show ls = zs ++ fs.flatMap (·.1) by rw [HLS.out, List.take_of_length_le (by omega)])
      clear HLS hlt
      go_wp2_with fail
      have hk4 : k ≤ 4 := by omega
      go_loopw [3, 29] (fun l i wq => ∃ (k2 : Nat) (ms : List Int), k2 ≤ es.length ∧ i = .int .i64 k2 ∧ Hid (ms = ls ++ (es.take k2).flatMap (fun e => colS (colE d e))) ∧ ms.length ≤ (5 + k2) * 1099511627776 ∧ Hid (wq.ownsRow V.heap.size 3 1 l ms.length (ms.flatMap fI)) ∧ Below V.heap.size V wq) (fun _ i _ => es.length - (intOf i).toNat)
      case atStart => exact ⟨0, ls, Nat.zero_le _, rfl, Lib.hid (by simp), Nat.le_trans hll (Nat.mul_le_mul_right _ (by omega)), HR, hbr⟩
      case round =>
        clear HR hbr hbz HOr hbw d0 d1 d2 d3 d4 hki hk
        obtain ⟨k2, ms, hk2, rfl, HMS, hml, HR, hbr⟩ := hrel
        have hbz := hbr.size
        have HOr := blw HO hbr
        have hbw : Below w.heap.size w wr := HB.out.trans (hbr.mono (by omega))
        have hle := HLE.out
        by_cases hlt : k2 < es.length
        · have hki : (k2 : Int) < es.length := by omega
          obtain ⟨A3, c3, hv3, _, hcc⟩ := HE.out wr hbw
          injection hv3 with e1 e2 e3
          subst e1 e3
          obtain ⟨ad, u, rfl, _, hab, hxc, hxr⟩ := hcc k2 _ (List.getElem?_eq_getElem hlt)
          have hlq := HL2.out _ (List.getElem_mem hlt)
          have HTF := Lib.hid (take_flat (fun e : Ex => colS (colE d e)) es k2 _ (List.getElem?_eq_getElem hlt))
          generalize es[k2] = y at *
          obtain ⟨A3, c3, rfl, hl3⟩ := hxr.slice
          obtain ⟨x0, x1, x2, x3, x4, x5, x6⟩ := hxc
          have b2 := bel_mk wr (.cells (exA y (.slice A3 y.args.length c3)) 65)
          have HBV := Lib.hid (hbr.trans (b2.mono hbz))
          have HCO := Lib.hid (pColumns_any d y (.slice A3 y.args.length c3) (wr.alloc (.cells (exA y (.slice A3 y.args.length c3)) 65)) L4 ((hxr.more (show w.heap.size ≤ wr.heap.size by omega) (Nat.le_refl _)).step b2 (Nat.le_refl _)) hlq)
          have HRV := Lib.hid (World.ownsRow.alloc HR.out (.cells (exA y (.slice A3 y.args.length c3)) 65))
          have HW := Lib.hid (Own.new wr 65 (exA y (.slice A3 y.args.length c3)))
          have hcl := colS_len (colE d y)
          generalize colS (colE d y) = ys at *
          obtain ⟨Al, cl, el⟩ := own_len HR.out
          subst el
          clear hcc hxr b2
          unfold exA exV at *
          obtain ⟨g0, g1, g2, g3, g4, g5, g6⟩ := oc7 HW
          go_wp2_with fail
          with_reducible refine HCO.out.mono ?_
          rintro e w5 ⟨v5, rfl, hv5, hb5⟩
          have HR5 := Lib.hid (own_below2 HRV.out hb5)
          have HB5 := Lib.hid (HBV.out.trans (hb5.mono HBV.out.size))
          have hs5 : V.heap.size ≤ w5.heap.size := HB5.out.size
          have HY5 := Lib.hid hv5
          obtain ⟨A5, c5, e5, _⟩ := id hv5
          subst e5
          clear hb5 hv5 HCO HW HRV HBV g0 g1 g2 g3 g4 g5 g6 x0 x1 x2 x3 x4 x5 x6
          go_wp2_with (at_builtin; refine append_iM _ rfl _ _ rfl V.heap.size _ ms rfl HR5.out _ ys _ rfl HY5.out (by omega) hs5 ?_; intro v2 w2 hr2 hg2; have HR2 := Lib.hid hr2; have HG2 := Lib.hid hg2; clear hr2 hg2)
          have HBX := HB5.out.grown HG2.out hs5 (fun b hb => (World.ownsRow.lt HR5.out b hb).1)
          clear HR5 HB5 HG2 HY5 HR hbr hbw HOr
          go_roundw
          case rel => exact ⟨k2 + 1, ms ++ ys, by omega, by go_num, Lib.hid (by rw [HTF.out, HMS.out, List.append_assoc]), by rw [List.length_append]; omega, HR2, HBX⟩
          case measure => simp [intOf]; omega
        · have hki : ¬ (k2 : Int) < es.length := by omega
          have HMT := Lib.hid (show ms = usdL zs fs d es by rw [HMS.out, List.take_of_length_le (by omega), HLT.out]; rfl)
          have HLW2 := Lib.hid (show ∀ z ∈ ms, (Lit.int .i64 z).wf = true from by rw [HMT.out]; exact HLW.out)
          clear HMS hlt HLW
          obtain ⟨Al, cl, el⟩ := own_len HR.out
          subst el
          have hRI := rdI_ownX HR.out (by omega)
          have HRI := Lib.hid hRI
          have HBQ := Lib.hid hbw
          obtain ⟨wq, hwq⟩ : ∃ x, x = wr := ⟨_, rfl⟩
          subst hwq
          have HB1 := Lib.hid (bel_mark wq (.map #[] 0))
          have HS1 := Lib.hid (MapZ.new wq)
          have hmk : (Instr.makeMap 68 none).run Try.prog wq = .ok (.map (some wq.heap.size)) (wq.alloc (.map #[] 0)) := rfl
          clear HR hbr hRI
          go_wp2_with fail
          go_loopw [41] (fun i wr => ∃ (k : Nat) (ns : List Int), k ≤ ms.length ∧ i = .int .i64 k ∧ Hid (∀ z, z ∈ ns ↔ z ∈ ms.take k) ∧ Hid (MapZ wr wq.heap.size ns) ∧ Below wq.heap.size wq wr) (fun i _ => ms.length - (intOf i).toNat)
          case atStart => exact ⟨0, [], Nat.zero_le _, rfl, Lib.hid (by simp), HS1, HB1.out⟩
          case round =>
            clear HB1 HS1 hmk
            obtain ⟨k3, ns, hk3, rfl, HNS, HS, hb3⟩ := hrel
            have hb3z := hb3.size
            by_cases hlt : k3 < ms.length
            · have hki : (k3 : Int) < ms.length := by omega
              obtain ⟨A9, c9, hv9, _, hc9⟩ := HRI.out
              injection hv9 with e1 e2 e3
              subst e1 e3
              obtain ⟨ad, rfl, _, hab, a0⟩ := hc9 k3 _ (List.getElem?_eq_getElem hlt)
              have hwf := HLW2.out _ (List.getElem_mem hlt)
              have htk : ms.take (k3 + 1) = ms.take k3 ++ [ms[k3]] := by rw [List.take_add_one, List.getElem?_eq_getElem hlt]; rfl
              generalize ms[k3] = i at *
              have e0 := (hb3.cell (p := ad.add k3) (by rw [add_block]; exact hab)).trans a0
              have HTK := Lib.hid htk
              clear a0 htk hc9
              by_cases hmem : i ∈ ns
              · obtain ⟨w3, hpt, hs3, hg3, hz3⟩ := HS.out.again i hwf hmem
                have HS3 := Lib.hid hs3
                have G4 := Lib.hid (hb3.grown hg3 hb3.size (fun k hk => by injection hk with hk; omega))
                have HN3 := Lib.hid (show ∀ z, z ∈ ns ↔ z ∈ ms.take (k3 + 1) from fun z => by
                  rw [HTK.out, List.mem_append, List.mem_singleton, ← HNS.out z]
                  exact ⟨fun h => .inl h, fun h => h.elim id (fun h => by rw [h]; exact hmem)⟩)
                clear hs3 hg3 hz3 hmem hwf
                go_wp2
                go_roundw
                case rel => exact ⟨k3 + 1, ns, by omega, by go_num, HN3, HS3, G4.out⟩
                case measure => simp [intOf]; omega
              · obtain ⟨w3, hpt, hs3, hg3, hz3⟩ := HS.out.put i hwf hmem
                have HS3 := Lib.hid hs3
                have G4 := Lib.hid (hb3.grown hg3 hb3.size (fun k hk => by injection hk with hk; omega))
                have HN3 := Lib.hid (show ∀ z, z ∈ ns ++ [i] ↔ z ∈ ms.take (k3 + 1) from fun z => by
                  rw [HTK.out, List.mem_append, List.mem_append, HNS.out z])
                clear hs3 hg3 hz3 hmem hwf
                go_wp2
                go_roundw
                case rel => exact ⟨k3 + 1, _, by omega, by go_num, HN3, HS3, G4.out⟩
                case measure => simp [intOf]; omega
            · have hki : ¬ (k3 : Int) < ms.length := by omega
              have HNE := Lib.hid (show ∀ z, z ∈ ns ↔ z ∈ ms from fun z => by rw [HNS.out z, List.take_of_length_le (by omega)])
              have hbf := HBQ.out.trans (hb3.mono HBQ.out.size)
              have hbs := HBQ.out.size
              go_wp2
              go_ret
              exact ⟨_, ns, rfl, hbs, HS.out, by rw [← HMT.out]; exact HNE.out, hbf⟩
end Go.Proofs.Yteihjneeiojgaaa
