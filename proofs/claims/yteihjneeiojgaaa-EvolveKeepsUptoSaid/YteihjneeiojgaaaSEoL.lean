import Derived.Test.YteihjneeiojgaaaSEoK
import Derived.WalkKit
import Derived.WalkSpells
import Derived.WalkLawsBesides
import Derived.Deep.QuietTactic
import Derived.BigQuiet
import Derived.Handy
import Derived.Lib.Hide
/-
  change of evolve: a definition after a change that can be applied. Conditions: its rows are the caller's own. (Written by mkEoL.py.)
-/
namespace Go.Proofs.Yteihjneeiojgaaa
set_option maxRecDepth 100000
set_option linter.unusedVariables false
set_option linter.unusedSimpArgs false
open Go.RowKit Go.Deep

def nthC (cs : List Cl) (i : Nat) : Cl := (cs[i]?).getD zC
def chCs (cs : List Cl) (h : Chg) (i : Nat) : List Cl := if h.k = 1 then cs ++ [h.c] else if h.k = 2 then cs.take i ++ cs.drop (i + 1) else if h.k = 3 then cs.set i (h.to, (nthC cs i).2) else cs.set i ((nthC cs i).1, 2, (nthC cs i).2.2)
def chZs (zs : List Int) (k : Int) (i : Nat) : List Int := if k = 2 then zs.map (mvI i) else zs
def chFs (fs : List Fk) (k : Int) (i : Nat) : List Fk := if k = 2 then fs.map (fun f => (f.1.map (mvI i), f.2)) else fs
def chEs (n d : Nat) (es : List Ex) (k : Int) (i : Nat) : List Ex := if k = 2 then es.map (sbX (mvE i n) d) else es
/-- append of one column that was just laid. -/
theorem append_c1 {ops : Array Oper} {rest : List Oper} {o : Oper} {a : Act} {Q : Exit → Act → World → Prop} (W : World) (hgd : o.guard = none) (s x : Operand)
    (ho : o.op = .call { callee := .builtin .append, args := #[s, x], argTypes := #[22, 22] }) (base : Nat) (v : Value) (l : List Cl) (hs : a.eval s = v)
    (hown : W.ownsRow base 36 3 v l.length (l.flatMap fC)) (g c : Nat) (q : Cl) (hx : a.eval x = .slice (some ⟨g, 0, none⟩) 1 c)
    (hnew : Own W g 36 #[.string q.1, .int .i64 q.2.1, .bool q.2.2]) (hl : l.length ≤ 1099511627776) (hbase : base ≤ W.heap.size)
    (h : ∀ g' cap w', w'.ownsRow base 36 3 (.slice (some ⟨g', 0, none⟩) (l.length + 1) cap) (l ++ [q]).length ((l ++ [q]).flatMap fC) → W.grownBy w' v.ownBlock → (v.ownBlock = some g' ∨ g' = W.heap.size) → wpList Try.prog ops Q rest (a.put o.dst (.slice (some ⟨g', 0, none⟩) (l.length + 1) cap)) w') :
    wpList Try.prog ops Q (o :: rest) a W := by
  obtain ⟨i0, hi, hz0, hz1, hz2⟩ := info_partsB infoCl
  refine wpList_append_lies W hgd s x 22 ho base 36 i0 (.agg #[.string ⟨#[]⟩, .int .i64 0, .bool false]) 3 32 Try.underlying22 hi hz0 hz1 hz2 rfl (by decide) v l.length (l.flatMap fC) hs hown ⟨g, 0, none⟩ 1 c (fC q) hx rfl (fun j u hu => ?_) (fun u hu => ?_) (by decide) (by unfold maxLen; omega) (by omega) hbase W.heap.size rfl ?_
  · rw [addX]
    exact (hnew.cell j).trans ((List.getElem?_toArray ..).trans hu)
  · simp only [fC, List.mem_cons, List.not_mem_nil, or_false] at hu
    rcases hu with rfl | rfl | rfl <;> rfl
  · intro g' cap w' h1 h2 h3 h4
    refine h g' cap w' ?_ h2 h3
    rw [List.length_append, List.flatMap_append]
    show w'.ownsRow base _ 3 _ (l.length + 1) (l.flatMap fC ++ (fC q ++ []))
    rw [List.append_nil]
    exact h1
theorem om5 {w : World} {g : Nat} {t : TypeId} {x0 x1 x2 x3 x4 : Value} (h : Hid (Own w g t #[x0, x1, x2, x3, x4])) : w.cell? ⟨g, 0, none⟩ = some x0 ∧ w.cell? ⟨g, 1, none⟩ = some x1 ∧ w.cell? ⟨g, 2, none⟩ = some x2 ∧ w.cell? ⟨g, 3, none⟩ = some x3 ∧ w.cell? ⟨g, 4, none⟩ = some x4 ∧ w.frozen? ⟨g, 0, none⟩ = false ∧ w.frozen? ⟨g, 1, none⟩ = false ∧ w.frozen? ⟨g, 2, none⟩ = false ∧ w.frozen? ⟨g, 3, none⟩ = false ∧ w.frozen? ⟨g, 4, none⟩ = false :=
  ⟨h.out.cell 0, h.out.cell 1, h.out.cell 2, h.out.cell 3, h.out.cell 4, h.out.free 0, h.out.free 1, h.out.free 2, h.out.free 3, h.out.free 4⟩
theorem own_store5 {w : World} {g : Nat} {t : TypeId} {x0 x1 x2 x3 x4 : Value} (a b c d e : Value) (h : Own w g t #[x0, x1, x2, x3, x4]) : Own (((((w.setCell ⟨g, 0, none⟩ a).setCell ⟨g, 1, none⟩ b).setCell ⟨g, 2, none⟩ c).setCell ⟨g, 3, none⟩ d).setCell ⟨g, 4, none⟩ e) g t #[a, b, c, d, e] := by
  have hx := ((((h.store 0 a).store 1 b).store 2 c).store 3 d).store 4 e
  simp only [List.setIfInBounds_toArray, List.set_cons_zero, List.set_cons_succ] at hx
  exact hx
theorem own_store1 {w : World} {g : Nat} {t : TypeId} {x0 x1 x2 x3 x4 : Value} (b : Value) (h : Own w g t #[x0, x1, x2, x3, x4]) : Own (w.setCell ⟨g, 1, none⟩ b) g t #[x0, b, x2, x3, x4] := by
  have hx := h.store 1 b
  simp only [List.setIfInBounds_toArray, List.set_cons_zero, List.set_cons_succ] at hx
  exact hx
theorem own_setC {w : World} {base n s : Nat} {t : TypeId} {v : Value} {xs : List Value} (h : w.ownsRow base t s v n xs) {p : Addr} (hp : v.ownBlock ≠ some p.block) (u : Value) : (w.setCell p u).ownsRow base t s v n xs :=
  World.ownsRow.kept h (grownB_one w p u) (.inr hp)
theorem grownB_far {w w1 : World} {row : Option Nat} (h : w.grownBy w1 row) {p : Addr} (hp : w.heap.size ≤ p.block) (u : Value) : w.grownBy (w1.setCell p u) row :=
  ⟨h.os, h.tape, h.output, by rw [World.size_setCell]; exact h.size, fun b hb hr => (Below.heap_setCell w1 p u b (by omega)).trans (h.block b hb hr)⟩
theorem grownB_in {w w1 : World} {g : Nat} (h : w.grownBy w1 (some g)) {p : Addr} (hp : p.block = g) (u : Value) : w.grownBy (w1.setCell p u) (some g) :=
  ⟨h.os, h.tape, h.output, by rw [World.size_setCell]; exact h.size, fun b hb hr => (Below.heap_setCell w1 p u b (fun e => hr (by rw [e, hp]))).trans (h.block b hb hr)⟩
theorem OwT.not_mine {N : Nat} {X : Nat → Prop} {W : World} {v1 v2 v3 v4 : Value} {cs : List Cl} {zs : List Int} {qs : List FkU} {d : Nat} {ps : List ExU} {g : Nat} {xs : Array Value} (h : OwT N X W v1 v2 v3 v4 cs zs qs d ps) (o : Own W g 27 xs) : ¬ Mine v1 v2 v3 v4 qs g := by
  rintro (h1 | h1 | h1 | h1 | ⟨q, hq, h1⟩)
  · exact own_offO o h.c (by decide) h1
  · exact own_offO o h.k (by decide) h1
  · exact own_offO o h.f (by decide) h1
  · exact own_offO o h.x (by decide) h1
  · exact own_offO o (h.i q hq) (by decide) h1
theorem own_fra {M : Nat → Prop} {w w' : World} {g : Nat} {t : TypeId} {cs : Array Value} (h : Own w g t cs) (hf : Fra M w w') (hn : ¬ M g) : Own w' g t cs := (hf.2.2.2.2 g h.lt hn).trans h
def RetChg (N : Nat) (X : Nat → Prop) (w : World) (nm : ByteArray) (v1 v2 v3 v4 : Value) (cs : List Cl) (zs : List Int) (qs : List FkU) (d : Nat) (ps : List ExU) (h : Chg) (e : Ending) (w' : World) : Prop :=
  ∃ (v : Value) (qs' : List FkU) (ps' : List ExU), e = .returned (.agg #[.string nm, v, v2, v3, v4]) ∧ qs'.map (·.1) = chFs (qs.map (·.1)) h.k (findK h.nm 0 cs).toNat ∧ ps'.map (·.1) = chEs cs.length d (ps.map (·.1)) h.k (findK h.nm 0 cs).toNat ∧
    OwT N X w' v v2 v3 v4 (chCs cs h (findK h.nm 0 cs).toNat) (chZs zs h.k (findK h.nm 0 cs).toNat) qs' (d + 1) ps' ∧ Fra (Mine v1 v2 v3 v4 qs) w w'
set_option maxRecDepth 100000 in
set_option maxHeartbeats 25600000 in
theorem change_any (nm : ByteArray) (v1 v2 v3 v4 : Value) (cs : List Cl) (zs : List Int) (qs : List FkU) (d : Nat) (ps : List ExU) (h : Chg) (N : Nat) (X : Nat → Prop) (w : World) (hN : N ≤ w.heap.size) (hX : ∀ b, X b → b < w.heap.size) (ho : OwT N X w v1 v2 v3 v4 cs zs qs d ps)
    (hnm : ∀ c ∈ cs, (nmC c).all okcB = true) (hk : 1 ≤ h.k ∧ h.k ≤ 4) (hfi : h.k ≠ 1 → 0 ≤ findK h.nm 0 cs) (l1 : cs.length ≤ 1000000) (l2 : zs.length ≤ 1099511627776) (l3 : qs.length ≤ 1099511627776) (l4 : ps.length ≤ 1099511627776) (l5 : ∀ q ∈ qs, q.1.1.length ≤ 1099511627776)
    (hz : ∀ z ∈ zs, 0 ≤ z ∧ z ≤ 9223372036854775807) (hf : ∀ q ∈ qs, ∀ z ∈ q.1.1, 0 ≤ z ∧ z ≤ 9223372036854775807) :
    Calls Try.prog 16 #[.agg #[.string nm, v1, v2, v3, v4], chV h] w (RetChg N X w nm v1 v2 v3 v4 cs zs qs d ps h) := by
  have hrd := (rdK_ownL ho.c (by omega)).low (Nat.zero_le _)
  have HF := Lib.hid (fun (W : World) (hb : Below w.heap.size w W) => eFind_any (.string nm) v1 v2 v3 v4 cs h.nm W 0 (hrd.step hb (Nat.le_refl _)) hnm)
  have hfu := findK_up h.nm cs 0
  obtain ⟨A1, c1, e1⟩ := own_len ho.c
  obtain ⟨A2, c2, e2⟩ := own_len ho.k
  obtain ⟨A3, c3, e3⟩ := own_len ho.f
  obtain ⟨A4, c4, e4⟩ := own_len ho.x
  subst e1 e2 e3 e4
  have HO := Lib.hid ho
  have HX := Lib.hid hX
  have HL5 := Lib.hid l5
  have HZ := Lib.hid hz
  have HFZ := Lib.hid hf
  have HM := Lib.hid (OwT.mine_lt ho)
  clear ho hX l5 hz hf hrd hnm
  unfold RetChg
  generalize findK h.nm 0 cs = fi at *
  obtain ⟨k, s1, s2, ⟨s3, ck, cb⟩, ⟨p1, p2, p3⟩⟩ := h
  unfold chV chA
  dsimp only at *
  have HFI := Lib.hid hfi
  have HFU := Lib.hid hfu
  clear hfi hfu
  have hk4 : k = 1 ∨ k = 2 ∨ k = 3 ∨ k = 4 := by omega
  clear hk
  rcases hk4 with rfl | rfl | rfl | rfl
  · obtain ⟨HT, HC, HR, HB⟩ := bx3 w 27 #[.string nm, .slice A1 cs.length c1, .slice A2 zs.length c2, .slice A3 qs.length c3, .slice A4 ps.length c4] 40 #[.int .i64 1, .string s1, .string s2, .string s3, .int .i64 ck, .bool cb, .int .i64 p1, .int .i64 p2, .string p3] 27 #[.string ⟨#[]⟩, .slice none 0 0, .slice none 0 0, .slice none 0 0, .slice none 0 0]
    obtain ⟨d0, d1, d2, d3, d4⟩ := Own.five HT.out
    obtain ⟨x0, x1, x2, x3, x4, x5, x6, x7, x8⟩ := oc9 HC
    go_enter Try.func16, Try.ntmps16
    go_wp2_with fail
    with_reducible refine (HF.out _ HB.out).mono ?_
    rintro e w2 ⟨rfl, hb⟩
    replace HT := blw HT hb
    replace HC := blw HC hb
    replace HR := blw HR hb
    replace HB := btr HB hb
    clear hb d0 d1 d2 d3 d4 x0 x1 x2 x3 x4 x5 x6 x7 x8 HF
    obtain ⟨d0, d1, d2, d3, d4⟩ := Own.five HT.out
    obtain ⟨x0, x1, x2, x3, x4, x5, x6, x7, x8⟩ := oc9 HC
    have hNw : N ≤ w2.heap.size := Nat.le_trans hN HB.out.size
    have HRW := Lib.hid (own_below2 (own_below2 HO.out.c HB.out) (bel_mk w2 (.cells #[.string s3, .int .i64 ck, .bool cb] 36)))
    have HCO := Lib.hid (Own.new w2 36 #[.string s3, .int .i64 ck, .bool cb])
    have HBA := Lib.hid (HB.out.trans ((bel_mk w2 (.cells #[.string s3, .int .i64 ck, .bool cb] 36)).mono HB.out.size))
    have HTA := Lib.hid (HT.out.alloc (.cells #[.string s3, .int .i64 ck, .bool cb] 36))
    have HRA := Lib.hid (HR.out.alloc (.cells #[.string s3, .int .i64 ck, .bool cb] 36))
    have hNA : N ≤ (w2.alloc (.cells #[.string s3, .int .i64 ck, .bool cb] 36)).heap.size := by rw [World.size_alloc]; omega
    have hgT : w.heap.size < w2.heap.size := HT.out.lt
    have hgR : w.heap.size + 1 + 1 < w2.heap.size := HR.out.lt
    go_wp2_with (at_builtin; refine append_c1 _ rfl _ _ rfl N _ cs rfl HRW.out w2.heap.size 1 (s3, ck, cb) rfl HCO.out (by omega) hNA ?_; intro g8 c8 w8 hr8 hg8 hv8; have HT8 := Lib.hid (own_grB HTA.out hg8 (own_offO HTA.out HRW.out (by decide))); have HR8 := Lib.hid (own_grB HRA.out hg8 (own_offO HRA.out HRW.out (by decide))); have HR9 := Lib.hid hr8; have HG8 := Lib.hid hg8; have HV8 := Lib.hid hv8; clear hr8 hg8 hv8; obtain ⟨t0, t1, t2, t3, t4⟩ := Own.five HT8.out; have tm := HT8.out.free 1; obtain ⟨r0, r1, r2, r3, r4, m0, m1, m2, m3, m4⟩ := om5 HR8; clear d0 d1 d2 d3 d4 x0 x1 x2 x3 x4 x5 x6 x7 x8)
    have hoT : (Value.slice (some ⟨g8, 0, none⟩) (cs.length + 1) c8).ownBlock ≠ some w.heap.size := own_offO HT8.out HR9.out (by decide)
    have hoR : (Value.slice (some ⟨g8, 0, none⟩) (cs.length + 1) c8).ownBlock ≠ some (w.heap.size + 1 + 1) := own_offO HR8.out HR9.out (by decide)
    have HXR := Lib.hid (own_store5 (.string nm) (.slice (some ⟨g8, 0, none⟩) (cs.length + 1) c8) (.slice A2 zs.length c2) (.slice A3 qs.length c3) (.slice A4 ps.length c4) (HR8.out.fr w.heap.size 1 (.slice (some ⟨g8, 0, none⟩) (cs.length + 1) c8) (by omega)))
    have hg0 := grownB_tr (grownB_of HBA.out (Value.slice A1 cs.length c1).ownBlock) HG8.out
    have HOW := Lib.hid ((HO.out.up (Nat.le_succ d)).cols (cs' := cs ++ [(s3, ck, cb)]) (own_setC (own_setC (own_setC (own_setC (own_setC (own_setC HR9.out (p := ⟨w.heap.size, 1, none⟩) (hoT) (.slice (some ⟨g8, 0, none⟩) (cs.length + 1) c8)) (p := ⟨(w.heap.size + 1 + 1), 0, none⟩) (hoR) (.string nm)) (p := ⟨(w.heap.size + 1 + 1), 1, none⟩) (hoR) (.slice (some ⟨g8, 0, none⟩) (cs.length + 1) c8)) (p := ⟨(w.heap.size + 1 + 1), 2, none⟩) (hoR) (.slice A2 zs.length c2)) (p := ⟨(w.heap.size + 1 + 1), 3, none⟩) (hoR) (.slice A3 qs.length c3)) (p := ⟨(w.heap.size + 1 + 1), 4, none⟩) (hoR) (.slice A4 ps.length c4)) (grownB_far (grownB_far (grownB_far (grownB_far (grownB_far (grownB_far hg0 (p := ⟨w.heap.size, 1, none⟩) (Nat.le_refl _) (.slice (some ⟨g8, 0, none⟩) (cs.length + 1) c8)) (p := ⟨(w.heap.size + 1 + 1), 0, none⟩) (Nat.le_add_right _ 2) (.string nm)) (p := ⟨(w.heap.size + 1 + 1), 1, none⟩) (Nat.le_add_right _ 2) (.slice (some ⟨g8, 0, none⟩) (cs.length + 1) c8)) (p := ⟨(w.heap.size + 1 + 1), 2, none⟩) (Nat.le_add_right _ 2) (.slice A2 zs.length c2)) (p := ⟨(w.heap.size + 1 + 1), 3, none⟩) (Nat.le_add_right _ 2) (.slice A3 qs.length c3)) (p := ⟨(w.heap.size + 1 + 1), 4, none⟩) (Nat.le_add_right _ 2) (.slice A4 ps.length c4)) (fun g hg => by
      have e : g = g8 := by simp [Value.ownBlock] at hg; exact hg.symm
      subst e
      rcases HV8.out with h1 | h1
      · exact .inl h1
      · refine .inr ?_
        rw [h1, World.size_alloc]
        omega))
    have HFR := Lib.hid (Fra.far (Fra.far (Fra.far (Fra.far (Fra.far (Fra.far ((Fra.of (M := Mine (.slice A1 cs.length c1) (.slice A2 zs.length c2) (.slice A3 qs.length c3) (.slice A4 ps.length c4) qs) HBA.out).gr HG8.out (fun b hb _ => .inl hb)) (p := ⟨w.heap.size, 1, none⟩) (Nat.le_refl _) (.slice (some ⟨g8, 0, none⟩) (cs.length + 1) c8)) (p := ⟨(w.heap.size + 1 + 1), 0, none⟩) (Nat.le_add_right _ 2) (.string nm)) (p := ⟨(w.heap.size + 1 + 1), 1, none⟩) (Nat.le_add_right _ 2) (.slice (some ⟨g8, 0, none⟩) (cs.length + 1) c8)) (p := ⟨(w.heap.size + 1 + 1), 2, none⟩) (Nat.le_add_right _ 2) (.slice A2 zs.length c2)) (p := ⟨(w.heap.size + 1 + 1), 3, none⟩) (Nat.le_add_right _ 2) (.slice A3 qs.length c3)) (p := ⟨(w.heap.size + 1 + 1), 4, none⟩) (Nat.le_add_right _ 2) (.slice A4 ps.length c4))
    go_wp2
    (try simp only [Exit.inBlock, Exit.then]); refine bodyPost_ret_by (results_cell_row1 (by rfl) _ _ (w.heap.size + 1 + 1) _ (by rfl) (load_tabF HXR.out)) ?_ ?_; (focus rfl)
    refine ⟨_, qs, ps, rfl, (if_neg (by decide)).symm, (if_neg (by decide)).symm, ?_, HFR.out⟩
    rw [show chCs cs ⟨1, s1, s2, (s3, ck, cb), (p1, p2, p3)⟩ fi.toNat = cs ++ [(s3, ck, cb)] from if_pos rfl, show chZs zs 1 fi.toNat = zs from if_neg (by decide)]
    exact HOW.out
  · obtain ⟨j, rfl⟩ : ∃ j : Nat, fi = (j : Int) := ⟨fi.toNat, by have := HFI.out (by decide); omega⟩
    have hj : j < cs.length := by have := HFU.out; omega
    obtain ⟨g1, hA1⟩ : ∃ g, A1 = some (⟨g, 0, none⟩ : Addr) := by
      rcases own_row HO.out.c with ⟨_, h6⟩ | ⟨g, c', h5, _⟩
      · omega
      · injection h5 with h5; exact ⟨g, h5⟩
    subst hA1
    obtain ⟨HT, HC, HR, HB⟩ := bx3 w 27 #[.string nm, .slice (some ⟨g1, 0, none⟩) cs.length c1, .slice A2 zs.length c2, .slice A3 qs.length c3, .slice A4 ps.length c4] 40 #[.int .i64 2, .string s1, .string s2, .string s3, .int .i64 ck, .bool cb, .int .i64 p1, .int .i64 p2, .string p3] 27 #[.string ⟨#[]⟩, .slice none 0 0, .slice none 0 0, .slice none 0 0, .slice none 0 0]
    obtain ⟨d0, d1, d2, d3, d4⟩ := Own.five HT.out
    obtain ⟨x0, x1, x2, x3, x4, x5, x6, x7, x8⟩ := oc9 HC
    go_enter Try.func16, Try.ntmps16
    go_wp2_with fail
    with_reducible refine (HF.out _ HB.out).mono ?_
    rintro e w2 ⟨rfl, hb⟩
    replace HT := blw HT hb
    replace HC := blw HC hb
    replace HR := blw HR hb
    replace HB := btr HB hb
    clear hb d0 d1 d2 d3 d4 x0 x1 x2 x3 x4 x5 x6 x7 x8 HF
    obtain ⟨d0, d1, d2, d3, d4⟩ := Own.five HT.out
    obtain ⟨x0, x1, x2, x3, x4, x5, x6, x7, x8⟩ := oc9 HC
    have hjk : (j : Int) < cs.length := by omega
    have hj0 : (0 : Int) ≤ (j : Int) := by omega
    have HDL := Lib.hid (show Calls Try.prog 36 #[.slice (some ⟨g1, 0, none⟩) cs.length c1, .int .i64 j, .int .i64 ((j : Int) + 1)] w2 (RetRowC w2 N (.slice (some ⟨g1, 0, none⟩) cs.length c1) (cs.take j ++ cs.drop (j + 1))) from pDelC_any _ cs j w2 N (own_below2 HO.out.c HB.out) hj (by omega))
    go_wp2_with fail
    refine HDL.out.mono ?_
    rintro e w3 ⟨v5, rfl, hc5, hg5, hv5⟩
    have hT5 := own_grB HT.out hg5 (own_offO HT.out (own_below2 HO.out.c HB.out) (by decide))
    have hR5 := own_grB HR.out hg5 (own_offO HR.out (own_below2 HO.out.c HB.out) (by decide))
    have hC5 := own_grB HC.out hg5 (own_offO HC.out (own_below2 HO.out.c HB.out) (by decide))
    have ho5T := own_offO hT5 hc5 (by decide)
    have ho5R := own_offO hR5 hc5 (by decide)
    have hln : (cs.take j ++ cs.drop (j + 1)).length + 1 = cs.length := by rw [List.length_append, List.length_take, List.length_drop]; omega
    obtain ⟨A5, c5, e5⟩ := own_len hc5
    generalize hm5 : (cs.take j ++ cs.drop (j + 1)).length = m5 at *
    subst e5
    have HT4 := Lib.hid (own_store1 (.slice A5 m5 c5) hT5)
    have HR4 := Lib.hid (hR5.fr w.heap.size 1 (.slice A5 m5 c5) (by omega))
    have HG4 := Lib.hid (grownB_far (grownB_tr (grownB_of HB.out _) hg5) (p := ⟨w.heap.size, 1, none⟩) (Nat.le_refl _) (.slice A5 m5 c5))
    have HC4 := Lib.hid (own_setC hc5 (p := ⟨w.heap.size, 1, none⟩) ho5T (.slice A5 m5 c5))
    have hV5 : ∀ g, (Value.slice A5 m5 c5).ownBlock = some g → (Value.slice (some ⟨g1, 0, none⟩) cs.length c1).ownBlock = some g ∨ w.heap.size ≤ g := fun g hg => (hv5 g hg).imp id (fun h => Nat.le_trans HB.out.size h)
    have hw2 : w.heap.size + 3 ≤ w2.heap.size := HR.out.lt
    have hw4 : w.heap.size + 3 ≤ (w3.setCell ⟨w.heap.size, 1, none⟩ (.slice A5 m5 c5)).heap.size := by rw [World.size_setCell]; exact Nat.le_trans hw2 hg5.size
    have HO4 := Lib.hid ((HO.out.withX (X' := (fun b => X b ∨ (w.heap.size ≤ b ∧ b < w.heap.size + 3))) (fun b hb h => h.elim id (fun h => absurd h.1 (by omega)))).cols (v1' := .slice A5 m5 c5) (cs' := cs.take j ++ cs.drop (j + 1)) (by rw [hm5]; exact HC4.out) HG4.out hV5)
    have HF4 := Lib.hid (show Fra (Mine (.slice (some ⟨g1, 0, none⟩) cs.length c1) (.slice A2 zs.length c2) (.slice A3 qs.length c3) (.slice A4 ps.length c4) qs) w (w3.setCell ⟨w.heap.size, 1, none⟩ (.slice A5 m5 c5)) from ((Fra.of HB.out).gr hg5 (fun b hb _ => .inl hb)).far (p := ⟨w.heap.size, 1, none⟩) (Nat.le_refl _) _)
    have HV5 := Lib.hid hV5
    have HM5 := Lib.hid hm5
    have HLN := Lib.hid hln
    have t1 := hT5.cell 1
    have tm := hT5.free 1
    clear hc5 hg5 hv5 hT5 hR5 hC5 ho5T hV5 hm5 hln HDL d0 d1 d2 d3 d4 x0 x1 x2 x3 x4 x5 x6 x7 x8
    go_upto_region 7 with fail
    clear t1 tm
    generalize w3.setCell ⟨w.heap.size, 1, none⟩ (.slice A5 m5 c5) = w4 at *
    obtain ⟨t0, t1, t2, t3, t4⟩ := Own.five HT4.out
    have HGP := Lib.hid (closeGap_any (.string nm) (.slice A5 m5 c5) (.slice A2 zs.length c2) (.slice A3 qs.length c3) (.slice A4 ps.length c4) (cs.take j ++ cs.drop (j + 1)) zs qs d ps (j : Int) N (fun b => X b ∨ (w.heap.size ≤ b ∧ b < w.heap.size + 3)) w4 (by omega) (fun b h => h.elim (fun h => by have := HX.out b h; omega) (fun h => by omega)) HO4.out (by omega) (by rw [HM5.out]; have := HLN.out; omega) l2 l3 l4 HL5.out HZ.out HFZ.out)
    go_wp2_with fail
    refine HGP.out.mono ?_
    rintro e w5 ⟨rfl, ⟨rs, hrs, ho5⟩, hf5⟩
    have HT5 := Lib.hid (own_fra HT4.out hf5 (OwT.not_mine HO4.out HT4.out))
    have HR5 := Lib.hid (own_fra HR4.out hf5 (OwT.not_mine HO4.out HR4.out))
    have HF5 := Lib.hid (Fra.trans HF4.out hf5 (fun b hb hm => by
      rcases hm with h1 | h1
      · rcases HV5.out b h1 with h2 | h2
        · exact .inl h2
        · omega
      · exact .inr h1))
    have hnR5 := OwT.not_mine ho5 HR5.out
    have hXR : (fun b => X b ∨ (w.heap.size ≤ b ∧ b < w.heap.size + 3)) (w.heap.size + 1 + 1) := .inr ⟨by omega, by omega⟩
    have HOW := Lib.hid (OwT.withX (X' := X) (OwT.setX (OwT.setX (OwT.setX (OwT.setX (OwT.setX ho5 (p := ⟨(w.heap.size + 1 + 1), 0, none⟩) hXR hnR5 (.string nm)) (p := ⟨(w.heap.size + 1 + 1), 1, none⟩) hXR hnR5 (.slice A5 m5 c5)) (p := ⟨(w.heap.size + 1 + 1), 2, none⟩) hXR hnR5 (.slice A2 zs.length c2)) (p := ⟨(w.heap.size + 1 + 1), 3, none⟩) hXR hnR5 (.slice A3 qs.length c3)) (p := ⟨(w.heap.size + 1 + 1), 4, none⟩) hXR hnR5 (.slice A4 ps.length c4)) (fun b _ h => .inl h))
    have HFR := Lib.hid (Fra.far (Fra.far (Fra.far (Fra.far (Fra.far HF5.out (p := ⟨(w.heap.size + 1 + 1), 0, none⟩) (Nat.le_add_right _ 2) (.string nm)) (p := ⟨(w.heap.size + 1 + 1), 1, none⟩) (Nat.le_add_right _ 2) (.slice A5 m5 c5)) (p := ⟨(w.heap.size + 1 + 1), 2, none⟩) (Nat.le_add_right _ 2) (.slice A2 zs.length c2)) (p := ⟨(w.heap.size + 1 + 1), 3, none⟩) (Nat.le_add_right _ 2) (.slice A3 qs.length c3)) (p := ⟨(w.heap.size + 1 + 1), 4, none⟩) (Nat.le_add_right _ 2) (.slice A4 ps.length c4))
    have HXR := Lib.hid (own_store5 (.string nm) (.slice A5 m5 c5) (.slice A2 zs.length c2) (.slice A3 qs.length c3) (.slice A4 ps.length c4) HR5.out)
    have HRS := Lib.hid hrs
    clear hrs ho5 hf5 hnR5 hXR HT4 HR4 HO4 HF4 HGP t0 t1 t2 t3 t4
    obtain ⟨t0, t1, t2, t3, t4⟩ := Own.five HT5.out
    obtain ⟨r0, r1, r2, r3, r4, m0, m1, m2, m3, m4⟩ := om5 HR5
    go_wp2
    (try simp only [Exit.inBlock, Exit.then]); refine bodyPost_ret_by (results_cell_row1 (by rfl) _ _ (w.heap.size + 1 + 1) _ (by rfl) (load_tabF HXR.out)) ?_ ?_; (focus rfl)
    rw [Int.toNat_natCast]
    refine ⟨_, qs.map (mvF j), rs, rfl, ?_, ?_, ?_, HFR.out⟩
    · rw [show chFs (qs.map (·.1)) 2 j = (qs.map (·.1)).map (fun f => (f.1.map (mvI j), f.2)) from if_pos rfl, List.map_map, List.map_map]
      rfl
    · rw [HRS.out, HM5.out, HLN.out, show chEs cs.length d (ps.map (·.1)) 2 j = (ps.map (·.1)).map (sbX (mvE j cs.length) d) from if_pos rfl, List.map_map]
      rfl
    rw [show chCs cs ⟨2, s1, s2, (s3, ck, cb), (p1, p2, p3)⟩ j = cs.take j ++ cs.drop (j + 1) from rfl, show chZs zs 2 j = zs.map (mvI j) from if_pos rfl]
    exact HOW.out
  · obtain ⟨j, rfl⟩ : ∃ j : Nat, fi = (j : Int) := ⟨fi.toNat, by have := HFI.out (by decide); omega⟩
    have hj : j < cs.length := by have := HFU.out; omega
    obtain ⟨g1, hA1⟩ : ∃ g, A1 = some (⟨g, 0, none⟩ : Addr) := by
      rcases own_row HO.out.c with ⟨_, h6⟩ | ⟨g, c', h5, _⟩
      · omega
      · injection h5 with h5; exact ⟨g, h5⟩
    subst hA1
    obtain ⟨HT, HC, HR, HB⟩ := bx3 w 27 #[.string nm, .slice (some ⟨g1, 0, none⟩) cs.length c1, .slice A2 zs.length c2, .slice A3 qs.length c3, .slice A4 ps.length c4] 40 #[.int .i64 3, .string s1, .string s2, .string s3, .int .i64 ck, .bool cb, .int .i64 p1, .int .i64 p2, .string p3] 27 #[.string ⟨#[]⟩, .slice none 0 0, .slice none 0 0, .slice none 0 0, .slice none 0 0]
    obtain ⟨d0, d1, d2, d3, d4⟩ := Own.five HT.out
    obtain ⟨x0, x1, x2, x3, x4, x5, x6, x7, x8⟩ := oc9 HC
    go_enter Try.func16, Try.ntmps16
    go_wp2_with fail
    with_reducible refine (HF.out _ HB.out).mono ?_
    rintro e w2 ⟨rfl, hb⟩
    replace HT := blw HT hb
    replace HC := blw HC hb
    replace HR := blw HR hb
    replace HB := btr HB hb
    clear hb d0 d1 d2 d3 d4 x0 x1 x2 x3 x4 x5 x6 x7 x8 HF
    obtain ⟨d0, d1, d2, d3, d4⟩ := Own.five HT.out
    obtain ⟨x0, x1, x2, x3, x4, x5, x6, x7, x8⟩ := oc9 HC
    have hjk : (j : Int) < cs.length := by omega
    have hj0 : (0 : Int) ≤ (j : Int) := by omega
    have HC2 := Lib.hid (own_below2 HO.out.c HB.out)
    have hce : cs[j]? = some cs[j] := List.getElem?_eq_getElem hj
    have HNT := Lib.hid (show nthC cs j = cs[j] by unfold nthC; rw [hce]; rfl)
    have hcl := World.ownsRow.cells HC2.out (g := g1) rfl
    have n0 := hcl _ _ ((fm_get fC_len cs j _ hce 0 (by decide)).trans rfl)
    rw [addX] at n0
    rw [Nat.add_zero] at n0
    have f0 := World.ownsRow.frozenAt HC2.out (j * 3)
    have hst := World.ownsRow.stored HC2.out (j * 3) (.string s2)
    have hms := fm_set fC_len 0 (.string s2) (by decide) cs j _ (s2, cs[j].2) hce rfl
    rw [Nat.add_zero] at hms
    rw [hms] at hst
    have hgT : g1 ≠ w.heap.size := fun e => own_offO HT.out HC2.out (by decide) (by rw [e]; rfl)
    have hgR : g1 ≠ w.heap.size + 1 + 1 := fun e => own_offO HR.out HC2.out (by decide) (by rw [e]; rfl)
    have HS := Lib.hid hst.1
    have HG := Lib.hid (grownB_tr (grownB_of HB.out (some g1)) hst.2)
    have HT3 := Lib.hid (HT.out.fr g1 (j * 3) (.string s2) (fun e => hgT e.symm))
    have HR3 := Lib.hid (HR.out.fr g1 (j * 3) (.string s2) (fun e => hgR e.symm))
    have HF3 := Lib.hid (show Fra (Mine (.slice (some ⟨g1, 0, none⟩) cs.length c1) (.slice A2 zs.length c2) (.slice A3 qs.length c3) (.slice A4 ps.length c4) qs) w (w2.setCell ⟨g1, j * 3, none⟩ (.string s2)) from (Fra.of HB.out).gr (grownB_one w2 ⟨g1, j * 3, none⟩ (.string s2)) (fun b hb _ => .inl hb))
    clear hcl hst hms
    go_upto_region 12 with fail
    generalize w2.setCell ⟨g1, j * 3, none⟩ (.string s2) = w3 at *
    clear d0 d1 d2 d3 d4 x0 x1 x2 x3 x4 x5 x6 x7 x8 n0 f0 HT HR
    obtain ⟨t0, t1, t2, t3, t4⟩ := Own.five HT3.out
    obtain ⟨r0, r1, r2, r3, r4, m0, m1, m2, m3, m4⟩ := om5 HR3
    have HXR := Lib.hid (own_store5 (.string nm) (.slice (some ⟨g1, 0, none⟩) cs.length c1) (.slice A2 zs.length c2) (.slice A3 qs.length c3) (.slice A4 ps.length c4) HR3.out)
    have hoR : (Value.slice (some ⟨g1, 0, none⟩) cs.length c1).ownBlock ≠ some (w.heap.size + 1 + 1) := fun e => hgR (by simp [Value.ownBlock] at e; exact e)
    have hlen : (cs.set j (s2, cs[j].2)).length = cs.length := List.length_set
    have HOW := Lib.hid ((HO.out.up (Nat.le_succ d)).cols (v1' := .slice (some ⟨g1, 0, none⟩) cs.length c1) (cs' := cs.set j (s2, cs[j].2)) (by rw [hlen]; exact (own_setC (own_setC (own_setC (own_setC (own_setC HS.out (p := ⟨(w.heap.size + 1 + 1), 0, none⟩) (hoR) (.string nm)) (p := ⟨(w.heap.size + 1 + 1), 1, none⟩) (hoR) (.slice (some ⟨g1, 0, none⟩) cs.length c1)) (p := ⟨(w.heap.size + 1 + 1), 2, none⟩) (hoR) (.slice A2 zs.length c2)) (p := ⟨(w.heap.size + 1 + 1), 3, none⟩) (hoR) (.slice A3 qs.length c3)) (p := ⟨(w.heap.size + 1 + 1), 4, none⟩) (hoR) (.slice A4 ps.length c4))) (grownB_far (grownB_far (grownB_far (grownB_far (grownB_far HG.out (p := ⟨(w.heap.size + 1 + 1), 0, none⟩) (Nat.le_add_right _ 2) (.string nm)) (p := ⟨(w.heap.size + 1 + 1), 1, none⟩) (Nat.le_add_right _ 2) (.slice (some ⟨g1, 0, none⟩) cs.length c1)) (p := ⟨(w.heap.size + 1 + 1), 2, none⟩) (Nat.le_add_right _ 2) (.slice A2 zs.length c2)) (p := ⟨(w.heap.size + 1 + 1), 3, none⟩) (Nat.le_add_right _ 2) (.slice A3 qs.length c3)) (p := ⟨(w.heap.size + 1 + 1), 4, none⟩) (Nat.le_add_right _ 2) (.slice A4 ps.length c4)) (fun g hg => .inl hg))
    have HFR := Lib.hid (Fra.far (Fra.far (Fra.far (Fra.far (Fra.far HF3.out (p := ⟨(w.heap.size + 1 + 1), 0, none⟩) (Nat.le_add_right _ 2) (.string nm)) (p := ⟨(w.heap.size + 1 + 1), 1, none⟩) (Nat.le_add_right _ 2) (.slice (some ⟨g1, 0, none⟩) cs.length c1)) (p := ⟨(w.heap.size + 1 + 1), 2, none⟩) (Nat.le_add_right _ 2) (.slice A2 zs.length c2)) (p := ⟨(w.heap.size + 1 + 1), 3, none⟩) (Nat.le_add_right _ 2) (.slice A3 qs.length c3)) (p := ⟨(w.heap.size + 1 + 1), 4, none⟩) (Nat.le_add_right _ 2) (.slice A4 ps.length c4))
    go_wp2
    (try simp only [Exit.inBlock, Exit.then]); refine bodyPost_ret_by (results_cell_row1 (by rfl) _ _ (w.heap.size + 1 + 1) _ (by rfl) (load_tabF HXR.out)) ?_ ?_; (focus rfl)
    rw [Int.toNat_natCast]
    refine ⟨_, qs, ps, rfl, (if_neg (by decide)).symm, (if_neg (by decide)).symm, ?_, HFR.out⟩
    rw [show chCs cs ⟨3, s1, s2, (s3, ck, cb), (p1, p2, p3)⟩ j = cs.set j (s2, cs[j].2) from by unfold chCs; dsimp only; rw [HNT.out]; rfl, show chZs zs 3 j = zs from if_neg (by decide)]
    exact HOW.out
  · obtain ⟨j, rfl⟩ : ∃ j : Nat, fi = (j : Int) := ⟨fi.toNat, by have := HFI.out (by decide); omega⟩
    have hj : j < cs.length := by have := HFU.out; omega
    obtain ⟨g1, hA1⟩ : ∃ g, A1 = some (⟨g, 0, none⟩ : Addr) := by
      rcases own_row HO.out.c with ⟨_, h6⟩ | ⟨g, c', h5, _⟩
      · omega
      · injection h5 with h5; exact ⟨g, h5⟩
    subst hA1
    obtain ⟨HT, HC, HR, HB⟩ := bx3 w 27 #[.string nm, .slice (some ⟨g1, 0, none⟩) cs.length c1, .slice A2 zs.length c2, .slice A3 qs.length c3, .slice A4 ps.length c4] 40 #[.int .i64 4, .string s1, .string s2, .string s3, .int .i64 ck, .bool cb, .int .i64 p1, .int .i64 p2, .string p3] 27 #[.string ⟨#[]⟩, .slice none 0 0, .slice none 0 0, .slice none 0 0, .slice none 0 0]
    obtain ⟨d0, d1, d2, d3, d4⟩ := Own.five HT.out
    obtain ⟨x0, x1, x2, x3, x4, x5, x6, x7, x8⟩ := oc9 HC
    go_enter Try.func16, Try.ntmps16
    go_wp2_with fail
    with_reducible refine (HF.out _ HB.out).mono ?_
    rintro e w2 ⟨rfl, hb⟩
    replace HT := blw HT hb
    replace HC := blw HC hb
    replace HR := blw HR hb
    replace HB := btr HB hb
    clear hb d0 d1 d2 d3 d4 x0 x1 x2 x3 x4 x5 x6 x7 x8 HF
    obtain ⟨d0, d1, d2, d3, d4⟩ := Own.five HT.out
    obtain ⟨x0, x1, x2, x3, x4, x5, x6, x7, x8⟩ := oc9 HC
    have hjk : (j : Int) < cs.length := by omega
    have hj0 : (0 : Int) ≤ (j : Int) := by omega
    have HC2 := Lib.hid (own_below2 HO.out.c HB.out)
    have hce : cs[j]? = some cs[j] := List.getElem?_eq_getElem hj
    have HNT := Lib.hid (show nthC cs j = cs[j] by unfold nthC; rw [hce]; rfl)
    have hcl := World.ownsRow.cells HC2.out (g := g1) rfl
    have n0 := hcl _ _ ((fm_get fC_len cs j _ hce 1 (by decide)).trans rfl)
    rw [addX] at n0
    skip
    have f0 := World.ownsRow.frozenAt HC2.out (j * 3 + 1)
    have hst := World.ownsRow.stored HC2.out (j * 3 + 1) (.int .i64 2)
    have hms := fm_set fC_len 1 (.int .i64 2) (by decide) cs j _ (cs[j].1, 2, cs[j].2.2) hce rfl
    skip
    rw [hms] at hst
    have hgT : g1 ≠ w.heap.size := fun e => own_offO HT.out HC2.out (by decide) (by rw [e]; rfl)
    have hgR : g1 ≠ w.heap.size + 1 + 1 := fun e => own_offO HR.out HC2.out (by decide) (by rw [e]; rfl)
    have HS := Lib.hid hst.1
    have HG := Lib.hid (grownB_tr (grownB_of HB.out (some g1)) hst.2)
    have HT3 := Lib.hid (HT.out.fr g1 (j * 3 + 1) (.int .i64 2) (fun e => hgT e.symm))
    have HR3 := Lib.hid (HR.out.fr g1 (j * 3 + 1) (.int .i64 2) (fun e => hgR e.symm))
    have HF3 := Lib.hid (show Fra (Mine (.slice (some ⟨g1, 0, none⟩) cs.length c1) (.slice A2 zs.length c2) (.slice A3 qs.length c3) (.slice A4 ps.length c4) qs) w (w2.setCell ⟨g1, j * 3 + 1, none⟩ (.int .i64 2)) from (Fra.of HB.out).gr (grownB_one w2 ⟨g1, j * 3 + 1, none⟩ (.int .i64 2)) (fun b hb _ => .inl hb))
    clear hcl hst hms
    go_upto_region 12 with fail
    generalize w2.setCell ⟨g1, j * 3 + 1, none⟩ (.int .i64 2) = w3 at *
    clear d0 d1 d2 d3 d4 x0 x1 x2 x3 x4 x5 x6 x7 x8 n0 f0 HT HR
    obtain ⟨t0, t1, t2, t3, t4⟩ := Own.five HT3.out
    obtain ⟨r0, r1, r2, r3, r4, m0, m1, m2, m3, m4⟩ := om5 HR3
    have HXR := Lib.hid (own_store5 (.string nm) (.slice (some ⟨g1, 0, none⟩) cs.length c1) (.slice A2 zs.length c2) (.slice A3 qs.length c3) (.slice A4 ps.length c4) HR3.out)
    have hoR : (Value.slice (some ⟨g1, 0, none⟩) cs.length c1).ownBlock ≠ some (w.heap.size + 1 + 1) := fun e => hgR (by simp [Value.ownBlock] at e; exact e)
    have hlen : (cs.set j (cs[j].1, 2, cs[j].2.2)).length = cs.length := List.length_set
    have HOW := Lib.hid ((HO.out.up (Nat.le_succ d)).cols (v1' := .slice (some ⟨g1, 0, none⟩) cs.length c1) (cs' := cs.set j (cs[j].1, 2, cs[j].2.2)) (by rw [hlen]; exact (own_setC (own_setC (own_setC (own_setC (own_setC HS.out (p := ⟨(w.heap.size + 1 + 1), 0, none⟩) (hoR) (.string nm)) (p := ⟨(w.heap.size + 1 + 1), 1, none⟩) (hoR) (.slice (some ⟨g1, 0, none⟩) cs.length c1)) (p := ⟨(w.heap.size + 1 + 1), 2, none⟩) (hoR) (.slice A2 zs.length c2)) (p := ⟨(w.heap.size + 1 + 1), 3, none⟩) (hoR) (.slice A3 qs.length c3)) (p := ⟨(w.heap.size + 1 + 1), 4, none⟩) (hoR) (.slice A4 ps.length c4))) (grownB_far (grownB_far (grownB_far (grownB_far (grownB_far HG.out (p := ⟨(w.heap.size + 1 + 1), 0, none⟩) (Nat.le_add_right _ 2) (.string nm)) (p := ⟨(w.heap.size + 1 + 1), 1, none⟩) (Nat.le_add_right _ 2) (.slice (some ⟨g1, 0, none⟩) cs.length c1)) (p := ⟨(w.heap.size + 1 + 1), 2, none⟩) (Nat.le_add_right _ 2) (.slice A2 zs.length c2)) (p := ⟨(w.heap.size + 1 + 1), 3, none⟩) (Nat.le_add_right _ 2) (.slice A3 qs.length c3)) (p := ⟨(w.heap.size + 1 + 1), 4, none⟩) (Nat.le_add_right _ 2) (.slice A4 ps.length c4)) (fun g hg => .inl hg))
    have HFR := Lib.hid (Fra.far (Fra.far (Fra.far (Fra.far (Fra.far HF3.out (p := ⟨(w.heap.size + 1 + 1), 0, none⟩) (Nat.le_add_right _ 2) (.string nm)) (p := ⟨(w.heap.size + 1 + 1), 1, none⟩) (Nat.le_add_right _ 2) (.slice (some ⟨g1, 0, none⟩) cs.length c1)) (p := ⟨(w.heap.size + 1 + 1), 2, none⟩) (Nat.le_add_right _ 2) (.slice A2 zs.length c2)) (p := ⟨(w.heap.size + 1 + 1), 3, none⟩) (Nat.le_add_right _ 2) (.slice A3 qs.length c3)) (p := ⟨(w.heap.size + 1 + 1), 4, none⟩) (Nat.le_add_right _ 2) (.slice A4 ps.length c4))
    go_wp2
    (try simp only [Exit.inBlock, Exit.then]); refine bodyPost_ret_by (results_cell_row1 (by rfl) _ _ (w.heap.size + 1 + 1) _ (by rfl) (load_tabF HXR.out)) ?_ ?_; (focus rfl)
    rw [Int.toNat_natCast]
    refine ⟨_, qs, ps, rfl, (if_neg (by decide)).symm, (if_neg (by decide)).symm, ?_, HFR.out⟩
    rw [show chCs cs ⟨4, s1, s2, (s3, ck, cb), (p1, p2, p3)⟩ j = cs.set j (cs[j].1, 2, cs[j].2.2) from by unfold chCs; dsimp only; rw [HNT.out]; rfl, show chZs zs 4 j = zs from if_neg (by decide)]
    exact HOW.out
end Go.Proofs.Yteihjneeiojgaaa
