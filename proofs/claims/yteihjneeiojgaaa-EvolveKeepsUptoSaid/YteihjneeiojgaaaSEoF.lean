import Derived.Test.YteihjneeiojgaaaSEoE
import Derived.Test.YteihjneeiojgaaaSEoA
import Derived.WalkKit
import Derived.WalkSpells
import Derived.WalkLawsBesides
import Derived.Deep.QuietTactic
import Derived.BigQuiet
import Derived.Handy
import Derived.Lib.Hide
/-
  checkChange and Check of evolve: the error of a change. Conditions: lengths.
-/
namespace Go.Proofs.Yteihjneeiojgaaa
set_option maxRecDepth 100000
set_option linter.unusedVariables false
set_option linter.unusedSimpArgs false
open Go.RowKit

/-- A definition as it lies in memory, its fields' values apart. -/
structure RdT (w : World) (L B : Nat) (vc vk vf vx : Value) (cs : List Cl) (zs : List Int) (fs : List Fk) (d : Nat) (es : List Ex) : Prop where
  c : RdK w L B vc cs
  k : RdI w L B vk zs
  f : RdF w L B vf fs
  x : RdE w L B (d + 1) vx es
theorem RdT.step {w w' : World} {L B : Nat} {vc vk vf vx : Value} {cs : List Cl} {zs : List Int} {fs : List Fk} {d : Nat} {es : List Ex} (h : RdT w L B vc vk vf vx cs zs fs d es) (hb : Below w.heap.size w w') (hB : B ≤ w.heap.size) : RdT w' L w'.heap.size vc vk vf vx cs zs fs d es :=
  ⟨h.c.step hb hB, h.k.step hb hB, h.f.step hb hB, h.x.step hb hB⟩
/-- What of a definition's size the walks ask. -/
structure SmT (cs : List Cl) (zs : List Int) (fs : List Fk) (d : Nat) (es : List Ex) : Prop where
  hn : ∀ c ∈ cs, (nmC c).all okcB = true
  lc : cs.length ≤ 1099511627776
  lk : zs.length ≤ 1099511627776
  lf : fs.length ≤ 4
  lf1 : ∀ f ∈ fs, f.1.length ≤ 1099511627776
  le : es.length ≤ 4
  le1 : ∀ e ∈ es, (colE d e).length ≤ 1099511627776
  lw : ∀ z ∈ usdL zs fs d es, (Lit.int .i64 z).wf = true
theorem oa9 {w : World} {g : Nat} {t : TypeId} {x0 x1 x2 x3 x4 x5 x6 x7 x8 : Value} (h : Hid (Own w g t #[x0, x1, x2, x3, x4, x5, x6, x7, x8])) : (∀ p : After w, p.w.cell? ⟨g, 0, none⟩ = some x0) ∧ (∀ p : After w, p.w.cell? ⟨g, 1, none⟩ = some x1) ∧ (∀ p : After w, p.w.cell? ⟨g, 2, none⟩ = some x2) ∧ (∀ p : After w, p.w.cell? ⟨g, 3, none⟩ = some x3) ∧ (∀ p : After w, p.w.cell? ⟨g, 4, none⟩ = some x4) ∧ (∀ p : After w, p.w.cell? ⟨g, 5, none⟩ = some x5) ∧ (∀ p : After w, p.w.cell? ⟨g, 6, none⟩ = some x6) ∧ (∀ p : After w, p.w.cell? ⟨g, 7, none⟩ = some x7) ∧ (∀ p : After w, p.w.cell? ⟨g, 8, none⟩ = some x8) :=
  ⟨fun p => after_cell h.out.lt (h.out.cell 0) p, fun p => after_cell h.out.lt (h.out.cell 1) p, fun p => after_cell h.out.lt (h.out.cell 2) p, fun p => after_cell h.out.lt (h.out.cell 3) p, fun p => after_cell h.out.lt (h.out.cell 4) p, fun p => after_cell h.out.lt (h.out.cell 5) p, fun p => after_cell h.out.lt (h.out.cell 6) p, fun p => after_cell h.out.lt (h.out.cell 7) p, fun p => after_cell h.out.lt (h.out.cell 8) p⟩
def kdAt (cs : List Cl) (i : Int) : Int := ((cs[i.toNat]?).map (fun c => c.2.1)).getD 0
/-- The error of a change of a definition that is valid. -/
def chgE (cs : List Cl) (zs : List Int) (fs : List Fk) (d : Nat) (es : List Ex) (h : Chg) : Int :=
  if h.k < 1 ∨ 4 < h.k then 7 else if eqH h (plnC h) = false then 8 else if h.k = 1 then addE cs h else
    if findK h.nm 0 cs < 0 then 11 else if h.k = 3 then renE cs h else if findK h.nm 0 cs ∈ usdL zs fs d es then 25 else if h.k = 4 ∧ kdAt cs (findK h.nm 0 cs) = 2 then 7 else 0
theorem findK_up (s : ByteArray) : ∀ (l : List Cl) (j : Nat), findK s j l < (j + l.length : Nat)
  | [], j => by unfold findK; omega
  | c :: t, j => by
    unfold findK
    split
    · simp only [List.length_cons]; omega
    · have := findK_up s t (j + 1); simp only [List.length_cons]; omega
theorem chg_k1 {cs : List Cl} {zs : List Int} {fs : List Fk} {d : Nat} {es : List Ex} {h : Chg} (hk : ¬ (h.k < 1 ∨ 4 < h.k)) (he : eqH h (plnC h) = true) : chgE cs zs fs d es h = if h.k = 1 then addE cs h else
    if findK h.nm 0 cs < 0 then 11 else if h.k = 3 then renE cs h else if findK h.nm 0 cs ∈ usdL zs fs d es then 25 else if h.k = 4 ∧ kdAt cs (findK h.nm 0 cs) = 2 then 7 else 0 := by
  unfold chgE
  rw [if_neg hk, if_neg (by rw [he]; decide)]
set_option maxRecDepth 100000 in
set_option maxHeartbeats 25600000 in
theorem checkChange_any (nm vc vk vf vx : Value) (cs : List Cl) (zs : List Int) (fs : List Fk) (d : Nat) (es : List Ex) (h : Chg) (m : Int) (w : World) (L : Nat) (hm : w.cell? ⟨0, 0, none⟩ = some (.int .i64 m)) (ht : RdT w L w.heap.size vc vk vf vx cs zs fs d es) (hs : SmT cs zs fs d es) :
    Calls Try.prog 15 #[.agg #[nm, vc, vk, vf, vx], chV h] w fun e w' => e = .returned (.int .i64 (chgE cs zs fs d es h)) ∧ Below w.heap.size w w' := by
  have HT := Lib.hid ht
  have HS := Lib.hid hs
  have hcl : ∀ W : World, Below w.heap.size w W → W.cell? ⟨0, 0, none⟩ = some (.int .i64 m) := fun W hb => (hb.cell (p := ⟨0, 0, none⟩) (World.block_lt_of_cell? w _ hm)).trans hm
  have HF := Lib.hid (fun (W : World) (hb : Below w.heap.size w W) => eFind_any nm vc vk vf vx cs h.nm W L (ht.c.step hb (Nat.le_refl _)) hs.hn)
  have HA := Lib.hid (fun (W : World) (hb : Below w.heap.size w W) => checkAdd_any nm vc vk vf vx cs h m W L (hcl W hb) (ht.c.step hb (Nat.le_refl _)) hs.hn)
  have HR := Lib.hid (fun (W : World) (hb : Below w.heap.size w W) => checkRename_any nm vc vk vf vx cs h m W L (hcl W hb) (ht.c.step hb (Nat.le_refl _)) hs.hn)
  have HU := Lib.hid (fun (W : World) => usedFields_any h W)
  have HD := Lib.hid (fun (W : World) (hb : Below w.heap.size w W) => used_any nm vc vk vf vx zs fs es d W L L L (ht.k.step hb (Nat.le_refl _)) (ht.f.step hb (Nat.le_refl _)) (ht.x.step hb (Nat.le_refl _)) hs.lk hs.lf hs.lf1 hs.le hs.le1 hs.lw)
  have HCH := Lib.hid (fun (a b : ¬ (h.k < 1 ∨ 4 < h.k)) => a)
  have hx1 := fun (hk : ¬ (h.k < 1 ∨ 4 < h.k)) (he : eqH h (plnC h) = true) => chg_k1 (cs := cs) (zs := zs) (fs := fs) (d := d) (es := es) hk he
  have hx0 : (h.k < 1 ∨ 4 < h.k) → chgE cs zs fs d es h = 7 := fun hk => by unfold chgE; rw [if_pos hk]
  have hx2 : ¬ (h.k < 1 ∨ 4 < h.k) → eqH h (plnC h) = false → chgE cs zs fs d es h = 8 := fun hk he => by unfold chgE; rw [if_neg hk, if_pos he]
  have hfl := findK_lo h.nm cs 0
  have hfu := findK_up h.nm cs 0
  generalize chgE cs zs fs d es h = R at *
  generalize addE cs h = RA at *
  generalize renE cs h = RR at *
  generalize findK h.nm 0 cs = fi at *
  generalize hp : plnC h = h2 at *
  clear hcl hm ht hs HCH hp
  obtain ⟨k, s1, s2, ⟨s3, ck, cb⟩, ⟨p1, p2, p3⟩⟩ := h
  obtain ⟨l, t1, t2, ⟨t3, dk, db⟩, ⟨q1, q2, q3⟩⟩ := h2
  have hneq := fun W => neq_chg k s1 s2 s3 ck cb p1 p2 p3 l t1 t2 t3 dk db q1 q2 q3 W
  generalize eqH ⟨k, s1, s2, (s3, ck, cb), (p1, p2, p3)⟩ ⟨l, t1, t2, (t3, dk, db), (q1, q2, q3)⟩ = bq at *
  unfold chV chA at *
  dsimp only at *
  have HX0 := Lib.hid hx0
  have HX1 := Lib.hid hx1
  have HX2 := Lib.hid hx2
  have HFL := Lib.hid hfl
  have HFU := Lib.hid hfu
  clear hx0 hx1 hx2 hfl hfu
  obtain ⟨A0, c0', e0⟩ := shK HT.out.c
  subst e0
  obtain ⟨HO0, HO1, HB⟩ := bx2 w 27 #[nm, .slice A0 cs.length c0', vk, vf, vx] 40 #[.int .i64 k, .string s1, .string s2, .string s3, .int .i64 ck, .bool cb, .int .i64 p1, .int .i64 p2, .string p3]
  obtain ⟨d0, d1, d2, d3, d4⟩ := Own.five HO0.out
  obtain ⟨x0, x1, x2, x3, x4, x5, x6, x7, x8⟩ := oc9 HO1
  by_cases hk : k < 1 ∨ 4 < k
  · have hr := HX0.out hk
    subst hr
    rcases hk with hk | hk
    · go_enter Try.func15, Try.ntmps15
      go_wp2
      go_ret
      exact ⟨rfl, HB.out⟩
    · have hk1 : ¬ k < 1 := by omega
      go_enter Try.func15, Try.ntmps15
      go_wp2
      go_ret
      exact ⟨rfl, HB.out⟩
  have hk1 : ¬ k < 1 := by omega
  have hk4 : ¬ 4 < k := by omega
  have HK := Lib.hid hk
  clear hk
  go_enter Try.func15, Try.ntmps15
  go_upto_region 3 with fail
  generalize hW : (w.alloc (.cells #[nm, .slice A0 cs.length c0', vk, vf, vx] 27)).alloc (.cells #[.int .i64 k, .string s1, .string s2, .string s3, .int .i64 ck, .bool cb, .int .i64 p1, .int .i64 p2, .string p3] 40) = W at *
  clear x0 x1 x2 x3 x4 x5 x6 x7 x8 d0 d1 d2 d3 d4
  obtain ⟨x0, x1, x2, x3, x4, x5, x6, x7, x8⟩ := oa9 HO1
  (refine wp_region_after (by kernel_rfl) (by kernel_rfl) ?_; (repeat (go_big_quiet_step ((go_at_call 32; exact calls_after (HU.out _))))); refine wpQuiet_nil ?_; intro wq hw0; obtain ⟨⟨wq0, hbq⟩, hw1⟩ := hw0; subst hw1; (try dsimp only))
  replace HO0 := blw HO0 hbq
  replace HO1 := blw HO1 hbq
  replace HB := btr HB hbq
  clear hbq x0 x1 x2 x3 x4 x5 x6 x7 x8 hneq hW
  cases bq
  · have hr := HX2.out HK.out rfl
    subst hr
    go_wp2
    go_ret
    exact ⟨rfl, HB.out⟩
  have hr := HX1.out HK.out rfl
  have HRR := Lib.hid hr
  clear hr
  obtain ⟨d0, d1, d2, d3, d4⟩ := Own.five HO0.out
  obtain ⟨x0, x1, x2, x3, x4, x5, x6, x7, x8⟩ := oc9 HO1
  by_cases h1 : k = 1
  · subst h1
    have hr := HRR.out
    rw [if_pos rfl] at hr
    subst hr
    go_wp2_with fail
    with_reducible refine (HA.out _ HB.out).mono ?_
    rintro e w2 ⟨rfl, hb⟩
    replace HB := btr HB hb
    clear hb x0 x1 x2 x3 x4 x5 x6 x7 x8 d0 d1 d2 d3 d4
    go_wp2
    go_ret
    exact ⟨rfl, HB.out⟩
  have h1b : (k == 1) = false := by rw [beq_eq_false_iff_ne]; exact h1
  have hr := HRR.out
  rw [if_neg h1] at hr
  have HRR := Lib.hid hr
  clear hr h1
  go_wp2_with fail
  with_reducible refine (HF.out _ HB.out).mono ?_
  rintro e w2 ⟨rfl, hb⟩
  replace HO0 := blw HO0 hb
  replace HO1 := blw HO1 hb
  replace HB := btr HB hb
  clear hb x0 x1 x2 x3 x4 x5 x6 x7 x8 d0 d1 d2 d3 d4 h1b
  obtain ⟨d0, d1, d2, d3, d4⟩ := Own.five HO0.out
  obtain ⟨x0, x1, x2, x3, x4, x5, x6, x7, x8⟩ := oc9 HO1
  by_cases hf : fi < 0
  · have hr := HRR.out
    rw [if_pos hf] at hr
    subst hr
    go_wp2
    go_ret
    exact ⟨rfl, HB.out⟩
  have hr := HRR.out
  rw [if_neg hf] at hr
  have HRR := Lib.hid hr
  clear hr
  by_cases h3 : k = 3
  · subst h3
    have hr := HRR.out
    rw [if_pos rfl] at hr
    subst hr
    go_wp2_with fail
    with_reducible refine (HR.out _ HB.out).mono ?_
    rintro e w3 ⟨rfl, hb⟩
    replace HB := btr HB hb
    clear hb x0 x1 x2 x3 x4 x5 x6 x7 x8 d0 d1 d2 d3 d4
    go_wp2
    go_ret
    exact ⟨rfl, HB.out⟩
  have h3b : (k == 3) = false := by rw [beq_eq_false_iff_ne]; exact h3
  have hr := HRR.out
  rw [if_neg h3] at hr
  have HRR := Lib.hid hr
  clear hr h3
  go_wp2_with fail
  with_reducible refine (HD.out _ HB.out).mono ?_
  rintro e w3 ⟨bm, ns, rfl, hbm, hmz, hmem, hb⟩
  replace HO0 := blw HO0 hb
  replace HO1 := blw HO1 hb
  replace HB := btr HB hb
  clear hb x0 x1 x2 x3 x4 x5 x6 x7 x8 d0 d1 d2 d3 d4 h3b
  obtain ⟨d0, d1, d2, d3, d4⟩ := Own.five HO0.out
  obtain ⟨x0, x1, x2, x3, x4, x5, x6, x7, x8⟩ := oc9 HO1
  have hup : fi < (cs.length : Int) := by have := HFU.out; omega
  have hlc := HS.out.lc
  have hlk := hmz.look fi (wf_int (by omega) (by omega))
  rw [show decide (fi ∈ ns) = decide (fi ∈ usdL zs fs d es) from decide_eq_decide.2 (hmem fi)] at hlk
  clear hmz hmem hbm
  by_cases hu : fi ∈ usdL zs fs d es
  · have hr := HRR.out
    rw [if_pos hu] at hr
    subst hr
    rw [decide_eq_true hu] at hlk
    clear hu
    go_wp2
    go_ret
    exact ⟨rfl, HB.out⟩
  have hr := HRR.out
  rw [if_neg hu] at hr
  have HRR := Lib.hid hr
  rw [decide_eq_false hu] at hlk
  clear hr hu
  by_cases h4 : k = 4
  · subst h4
    obtain ⟨j, hj⟩ : ∃ j : Nat, fi = (j : Int) := ⟨fi.toNat, by omega⟩
    subst hj
    have hjl : j < cs.length := by omega
    obtain ⟨A9, c9, hv9, _, hc9⟩ := HT.out.c
    injection hv9 with e1 e2 e3
    subst e1 e3
    obtain ⟨ad, rfl, _, hab, a0, a1, a2⟩ := hc9 j _ (List.getElem?_eq_getElem hjl)
    have hkd : kdAt cs (j : Int) = cs[j].2.1 := by unfold kdAt; rw [Int.toNat_natCast, List.getElem?_eq_getElem hjl]; rfl
    have e1 := (HB.out.cell (p := ⟨(ad.add (j * 3)).block, (ad.add (j * 3)).off + 1, none⟩) (by show (ad.add (j * 3)).block < _; rw [add_block]; exact hab)).trans a1
    rw [hkd] at HRR
    generalize cs[j] = q at *
    obtain ⟨qn, qk, qb⟩ := q
    dsimp only at *
    clear a0 a1 a2 hc9 hkd
    have hj0 : ¬ (j : Int) < 0 := by omega
    by_cases hq : qk = 2
    · subst hq
      have hr := HRR.out
      rw [if_pos ⟨rfl, rfl⟩] at hr
      subst hr
      go_wp2
      go_ret
      exact ⟨rfl, HB.out⟩
    · have hqb : (qk == 2) = false := by rw [beq_eq_false_iff_ne]; exact hq
      have hr := HRR.out
      rw [if_neg (fun h => hq h.2)] at hr
      subst hr
      clear hq
      go_wp2
      go_ret
      exact ⟨rfl, HB.out⟩
  · have h4b : (k == 4) = false := by rw [beq_eq_false_iff_ne]; exact h4
    have hr := HRR.out
    rw [if_neg (fun h => h4 h.1)] at hr
    subst hr
    clear h4
    go_wp2
    go_ret
    exact ⟨rfl, HB.out⟩
/-- The error of a change of any definition. -/
def evoE (nm : List UInt8) (cs : List Cl) (zs : List Int) (fs : List Fk) (d : Nat) (es : List Ex) (h : Chg) : Int :=
  if chkA nm cs zs fs d es ≠ 0 then chkA nm cs zs fs d es else chgE cs zs fs d es h
set_option maxRecDepth 100000 in
set_option maxHeartbeats 12800000 in
theorem pEvCheck_any (nm : ByteArray) (vc vk vf vx : Value) (cs : List Cl) (zs : List Int) (fs : List Fk) (d : Nat) (es : List Ex) (h : Chg) (m : Int) (w : World) (L : Nat) (hm : w.cell? ⟨0, 0, none⟩ = some (.int .i64 m)) (ht : RdT w L w.heap.size vc vk vf vx cs zs fs d es) (hlen : cs.length ≤ 1099511627776) (hs : chkA nm.data.toList cs zs fs d es = 0 → SmT cs zs fs d es) :
    Calls Try.prog 12 #[.agg #[.string nm, vc, vk, vf, vx], chV h] w fun e w' => e = .returned (.int .i64 (evoE nm.data.toList cs zs fs d es h)) ∧ Below w.heap.size w w' := by
  have hcl : ∀ W : World, Below w.heap.size w W → W.cell? ⟨0, 0, none⟩ = some (.int .i64 m) := fun W hb => (hb.cell (p := ⟨0, 0, none⟩) (World.block_lt_of_cell? w _ hm)).trans hm
  have H1 := Lib.hid (fun (W : World) (hb : Below w.heap.size w W) => pTabCheck_any nm vc vk vf vx cs zs fs es d m W L L L L (hcl W hb) (ht.c.step hb (Nat.le_refl _)) (ht.k.step hb (Nat.le_refl _)) (ht.f.step hb (Nat.le_refl _)) (ht.x.step hb (Nat.le_refl _)) hlen)
  have H2 := Lib.hid (fun (hz : chkA nm.data.toList cs zs fs d es = 0) (W : World) (hb : Below w.heap.size w W) => checkChange_any (.string nm) vc vk vf vx cs zs fs d es h m W L (hcl W hb) (ht.step hb (Nat.le_refl _)) (hs hz))
  have hR0 : chkA nm.data.toList cs zs fs d es = 0 → evoE nm.data.toList cs zs fs d es h = chgE cs zs fs d es h := fun h0 => by unfold evoE; rw [if_neg (fun h => h h0)]
  have hR1 : chkA nm.data.toList cs zs fs d es ≠ 0 → evoE nm.data.toList cs zs fs d es h = chkA nm.data.toList cs zs fs d es := fun h0 => by unfold evoE; rw [if_pos h0]
  generalize evoE nm.data.toList cs zs fs d es h = RES at *
  generalize chkA nm.data.toList cs zs fs d es = R at *
  generalize chgE cs zs fs d es h = R2 at *
  clear hcl hs hm
  obtain ⟨k, s1, s2, ⟨s3, ck, cb⟩, ⟨p1, p2, p3⟩⟩ := h
  unfold chV chA at *
  dsimp only at *
  obtain ⟨A0, c0', e0⟩ := shK ht.c
  subst e0
  obtain ⟨HO0, HO1, HB⟩ := bx2 w 27 #[.string nm, .slice A0 cs.length c0', vk, vf, vx] 40 #[.int .i64 k, .string s1, .string s2, .string s3, .int .i64 ck, .bool cb, .int .i64 p1, .int .i64 p2, .string p3]
  obtain ⟨d0, d1, d2, d3, d4⟩ := Own.five HO0.out
  clear ht
  go_enter Try.func12, Try.ntmps12
  go_wp2_with fail
  with_reducible refine (H1.out _ HB.out).mono ?_
  rintro e w2 ⟨rfl, hb⟩
  replace HO0 := blw HO0 hb
  replace HO1 := blw HO1 hb
  replace HB := btr HB hb
  clear hb d0 d1 d2 d3 d4
  by_cases hr : R = 0
  · have HR0 := Lib.hid hr
    have hrn : (R != 0) = false := by simp [hr]
    have hx := hR0 hr
    subst hx
    clear hr hR0 hR1
    obtain ⟨d0, d1, d2, d3, d4⟩ := Own.five HO0.out
    obtain ⟨x0, x1, x2, x3, x4, x5, x6, x7, x8⟩ := oc9 HO1
    go_wp2_with fail
    with_reducible refine (H2.out HR0.out _ HB.out).mono ?_
    rintro e w3 ⟨rfl, hb⟩
    replace HB := btr HB hb
    clear hb x0 x1 x2 x3 x4 x5 x6 x7 x8 d0 d1 d2 d3 d4
    go_wp2
    go_ret
    exact ⟨rfl, HB.out⟩
  · have hrn : (R != 0) = true := by simp [hr]
    have hx := hR1 hr
    subst hx
    clear hr hR0 hR1
    go_wp2
    go_ret
    exact ⟨rfl, HB.out⟩
end Go.Proofs.Yteihjneeiojgaaa
