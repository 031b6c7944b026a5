import Derived.Test.YteihjneeiojgaaaSEoJ
import Derived.WalkKit
import Derived.WalkSpells
import Derived.WalkLawsBesides
import Derived.Deep.QuietTactic
import Derived.BigQuiet
import Derived.Handy
import Derived.Lib.Hide
/-
  closeGap of evolve: what refers to columns behind a removed one. Conditions: the definition's rows are the caller's own. (Written by mkEoK.py.)
-/
namespace Go.Proofs.Yteihjneeiojgaaa
set_option maxRecDepth 100000
set_option linter.unusedVariables false
set_option linter.unusedSimpArgs false
open Go.RowKit

def fR {α : Type} (f : α → α) (l : List α) (k : Nat) : List α := (l.take k).map f ++ l.drop k
theorem fR_len {α : Type} (f : α → α) (l : List α) (k : Nat) (hk : k ≤ l.length) : (fR f l k).length = l.length := by
  unfold fR; rw [List.length_append, List.length_map, List.length_take, List.length_drop]; omega
theorem fR_get {α : Type} (f : α → α) (l : List α) (k : Nat) (hk : k < l.length) : (fR f l k)[k]? = some l[k] := by
  unfold fR
  rw [List.getElem?_append_right (by rw [List.length_map, List.length_take]; omega), List.length_map, List.length_take, Nat.min_eq_left (by omega), Nat.sub_self, List.getElem?_drop, Nat.add_zero, List.getElem?_eq_getElem hk]
theorem fR_late {α : Type} (f : α → α) (l : List α) (k j : Nat) (hk : k ≤ l.length) (hj : k ≤ j) : (fR f l k)[j]? = l[j]? := by
  unfold fR
  rw [List.getElem?_append_right (by rw [List.length_map, List.length_take]; omega), List.length_map, List.length_take, Nat.min_eq_left (by omega), List.getElem?_drop, show k + (j - k) = j by omega]
theorem fR_set {α : Type} (f : α → α) (l : List α) (k : Nat) (hk : k < l.length) : (fR f l k).set k (f l[k]) = fR f l (k + 1) := by
  unfold fR
  rw [List.set_append_right _ _ (by rw [List.length_map, List.length_take]; omega), List.length_map, List.length_take, Nat.min_eq_left (by omega), Nat.sub_self, List.drop_eq_getElem_cons hk, List.set_cons_zero, List.take_add_one, List.getElem?_eq_getElem hk, List.map_append, List.append_assoc]
  rfl
theorem fR_all {α : Type} (f : α → α) (l : List α) : fR f l l.length = l.map f := by unfold fR; simp
def gR {α β : Type} (f h : α → β) (l : List α) (k : Nat) : List β := (l.take k).map f ++ (l.drop k).map h
theorem gR_set {α β : Type} (f h : α → β) (l : List α) (k : Nat) (hk : k < l.length) : (gR f h l k).set k (f l[k]) = gR f h l (k + 1) := by
  unfold gR
  rw [List.set_append_right _ _ (by rw [List.length_map, List.length_take]; omega), List.length_map, List.length_take, Nat.min_eq_left (by omega), Nat.sub_self, List.drop_eq_getElem_cons hk, List.map_cons, List.set_cons_zero, List.take_add_one, List.getElem?_eq_getElem hk, List.map_append, List.append_assoc]
  rfl
theorem gR_all {α β : Type} (f h : α → β) (l : List α) : gR f h l l.length = l.map f := by unfold gR; simp
def mvF (i : Int) (q : FkU) : FkU := ((q.1.1.map (mvI i), q.1.2), q.2)
def colM (i : Int) (k : Nat) : Ex := ⟨2, mvI i k, (0, 0, ⟨#[]⟩), ⟨#[]⟩, []⟩
def mvE (i : Int) (n : Nat) : List Ex := (List.range n).map (colM i)
def nilU (e : Ex) : ExU := (e, .slice none 0 0)
theorem mvE_len (i : Int) (n : Nat) : (mvE i n).length = n := by unfold mvE; simp
theorem mvE_take (i : Int) (n k : Nat) (h : k < n) : (mvE i n).take (k + 1) = (mvE i n).take k ++ [colM i k] := by
  unfold mvE
  rw [List.take_add_one, List.getElem?_map, List.getElem?_range h]
  rfl
theorem own_set7 {W : World} {base n cap g : Nat} {ps : List ExU} {k : Nat} {p0 : ExU} (p : ExU) (h : W.ownsRow base 65 7 (.slice (some ⟨g, 0, none⟩) n cap) n (flatE ps)) (hk : ps[k]? = some p0) :
    (((((((W.setCell ⟨g, k * 7, none⟩ (.int .i64 p.1.op)).setCell ⟨g, k * 7 + 1, none⟩ (.int .i64 p.1.n)).setCell ⟨g, k * 7 + 2, none⟩ (.int .i64 p.1.v.1)).setCell ⟨g, k * 7 + 3, none⟩ (.int .i64 p.1.v.2.1)).setCell ⟨g, k * 7 + 4, none⟩ (.string p.1.v.2.2)).setCell ⟨g, k * 7 + 5, none⟩ (.string p.1.nm)).setCell ⟨g, k * 7 + 6, none⟩ p.2).ownsRow base 65 7 (.slice (some ⟨g, 0, none⟩) n cap) n (flatE (ps.set k p)) ∧ W.grownBy (((((((W.setCell ⟨g, k * 7, none⟩ (.int .i64 p.1.op)).setCell ⟨g, k * 7 + 1, none⟩ (.int .i64 p.1.n)).setCell ⟨g, k * 7 + 2, none⟩ (.int .i64 p.1.v.1)).setCell ⟨g, k * 7 + 3, none⟩ (.int .i64 p.1.v.2.1)).setCell ⟨g, k * 7 + 4, none⟩ (.string p.1.v.2.2)).setCell ⟨g, k * 7 + 5, none⟩ (.string p.1.nm)).setCell ⟨g, k * 7 + 6, none⟩ p.2) (some g) := by
  have g0 := World.ownsRow.stored h (k * 7) (.int .i64 p.1.op)
  have g1 := World.ownsRow.stored g0.1 (k * 7 + 1) (.int .i64 p.1.n)
  have g2 := World.ownsRow.stored g1.1 (k * 7 + 2) (.int .i64 p.1.v.1)
  have g3 := World.ownsRow.stored g2.1 (k * 7 + 3) (.int .i64 p.1.v.2.1)
  have g4 := World.ownsRow.stored g3.1 (k * 7 + 4) (.string p.1.v.2.2)
  have g5 := World.ownsRow.stored g4.1 (k * 7 + 5) (.string p.1.nm)
  have g6 := World.ownsRow.stored g5.1 (k * 7 + 6) p.2
  refine ⟨?_, grownB_tr g0.2 (grownB_tr g1.2 (grownB_tr g2.2 (grownB_tr g3.2 (grownB_tr g4.2 (grownB_tr g5.2 g6.2)))))⟩
  have h7 := g6.1
  rw [set_flat ps k p0 p hk] at h7
  exact h7
theorem own_offO {w : World} {g : Nat} {t u : TypeId} {cs : Array Value} {base n s : Nat} {v : Value} {xs : List Value} (h : Own w g t cs) (k : w.ownsRow base u s v n xs) (hne : t ≠ u) : v.ownBlock ≠ some g := by
  intro e
  rcases k.2 with ⟨rfl, _⟩ | ⟨g', cap, cur, rfl, _, hh, _⟩
  · simp [Value.ownBlock] at e
  · simp [Value.ownBlock] at e
    subst e
    unfold Own at h
    rw [h] at hh
    injection hh with hh
    injection hh with _ e _
    exact hne e
theorem grownB_of {w w' : World} (h : Below w.heap.size w w') (row : Option Nat) : w.grownBy w' row := ⟨h.os, h.tape, h.output, h.size, fun k hk _ => h.block k hk⟩
theorem own_grB {w w' : World} {g : Nat} {t : TypeId} {cs : Array Value} (h : Own w g t cs) {row : Option Nat} (hg : w.grownBy w' row) (hne : row ≠ some g) : Own w' g t cs := (hg.block g h.lt (fun e => hne e.symm)).trans h
theorem own_store7 {w : World} {g : Nat} {t : TypeId} {cs : Array Value} (o : Nat) (y0 y1 y2 y3 y4 y5 y6 : Value) (h : Own w g t cs) :
    Own (((((((w.setCell ⟨g, o, none⟩ y0).setCell ⟨g, o + 1, none⟩ y1).setCell ⟨g, o + 2, none⟩ y2).setCell ⟨g, o + 3, none⟩ y3).setCell ⟨g, o + 4, none⟩ y4).setCell ⟨g, o + 5, none⟩ y5).setCell ⟨g, o + 6, none⟩ y6) g t (((((((cs.setIfInBounds o y0).setIfInBounds (o + 1) y1).setIfInBounds (o + 2) y2).setIfInBounds (o + 3) y3).setIfInBounds (o + 4) y4).setIfInBounds (o + 5) y5).setIfInBounds (o + 6) y6) :=
  ((((((h.store o y0).store (o + 1) y1).store (o + 2) y2).store (o + 3) y3).store (o + 4) y4).store (o + 5) y5).store (o + 6) y6
theorem below_store7 {w w0 : World} {B g : Nat} (o : Nat) (y0 y1 y2 y3 y4 y5 y6 : Value) (h : Below B w0 w) (hg : B ≤ g) : Below B w0 (((((((w.setCell ⟨g, o, none⟩ y0).setCell ⟨g, o + 1, none⟩ y1).setCell ⟨g, o + 2, none⟩ y2).setCell ⟨g, o + 3, none⟩ y3).setCell ⟨g, o + 4, none⟩ y4).setCell ⟨g, o + 5, none⟩ y5).setCell ⟨g, o + 6, none⟩ y6) :=
  ((((((h.sc g o y0 hg).sc g (o + 1) y1 hg).sc g (o + 2) y2 hg).sc g (o + 3) y3 hg).sc g (o + 4) y4 hg).sc g (o + 5) y5 hg).sc g (o + 6) y6 hg
def RetGap (N : Nat) (X : Nat → Prop) (w : World) (v1 v2 v3 v4 : Value) (cs : List Cl) (zs : List Int) (qs : List FkU) (d : Nat) (ps : List ExU) (i : Int) (e : Ending) (w' : World) : Prop :=
  e = .returned (.tuple #[]) ∧ (∃ ps' : List ExU, ps'.map (·.1) = ps.map (fun p => sbX (mvE i (cs.length + 1)) d p.1) ∧ OwT N X w' v1 v2 v3 v4 cs (zs.map (mvI i)) (qs.map (mvF i)) (d + 1) ps') ∧ Fra (Mine v1 v2 v3 v4 qs) w w'
set_option maxRecDepth 100000 in
set_option maxHeartbeats 25600000 in
theorem closeGap_any (nm v1 v2 v3 v4 : Value) (cs : List Cl) (zs : List Int) (qs : List FkU) (d : Nat) (ps : List ExU) (i : Int) (N : Nat) (X : Nat → Prop) (w : World) (hN : N ≤ w.heap.size) (hX : ∀ b, X b → b < w.heap.size) (ho : OwT N X w v1 v2 v3 v4 cs zs qs d ps) (hi : 0 ≤ i)
    (l1 : cs.length ≤ 1099511627775) (l2 : zs.length ≤ 1099511627776) (l3 : qs.length ≤ 1099511627776) (l4 : ps.length ≤ 1099511627776) (l5 : ∀ q ∈ qs, q.1.1.length ≤ 1099511627776) (hz : ∀ z ∈ zs, 0 ≤ z ∧ z ≤ 9223372036854775807) (hf : ∀ q ∈ qs, ∀ z ∈ q.1.1, 0 ≤ z ∧ z ≤ 9223372036854775807) :
    Calls Try.prog 37 #[.agg #[nm, v1, v2, v3, v4], .int .i64 i] w (RetGap N X w v1 v2 v3 v4 cs zs qs d ps i) := by
  obtain ⟨A1, c1, e1⟩ := own_len ho.c
  obtain ⟨A2, c2, e2⟩ := own_len ho.k
  obtain ⟨A3, c3, e3⟩ := own_len ho.f
  obtain ⟨A4, c4, e4⟩ := own_len ho.x
  subst e1 e2 e3 e4
  obtain ⟨HT, HB⟩ := bx1 w 27 #[nm, .slice A1 cs.length c1, .slice A2 zs.length c2, .slice A3 qs.length c3, .slice A4 ps.length c4]
  have HO := Lib.hid (ho.later HB.out)
  have HZ := Lib.hid hz
  have HX := Lib.hid hX
  clear hX
  have HFZ := Lib.hid hf
  have HL5 := Lib.hid l5
  obtain ⟨gT, hgT⟩ : ∃ g, g = w.heap.size := ⟨_, rfl⟩
  rw [← hgT] at HT
  have HBN := Lib.hid (Fra.of (M := (Mine (.slice A1 cs.length c1) (.slice A2 zs.length c2) (.slice A3 qs.length c3) (.slice A4 ps.length c4) qs)) HB.out)
  have HGT := Lib.hid hgT
  clear ho hz hf l5 HB
  obtain ⟨d0, d1, d2, d3, d4⟩ := Own.five HT.out
  subst hgT
  go_enter Try.func37, Try.ntmps37
  go_wp2_with fail
  have hNz : N ≤ (w.alloc (.cells #[nm, .slice A1 cs.length c1, .slice A2 zs.length c2, .slice A3 qs.length c3, .slice A4 ps.length c4] 27)).heap.size := by rw [World.size_alloc]; omega
  generalize w.alloc (.cells #[nm, .slice A1 cs.length c1, .slice A2 zs.length c2, .slice A3 qs.length c3, .slice A4 ps.length c4] 27) = V at *
  have HNZ := Lib.hid hNz
  generalize hgT : w.heap.size = gT at *
  clear hNz d0 d1 d2 d3 d4
  refine (moveAll_any _ zs i V N HO.out.k HZ.out (by omega)).mono ?_
  rintro e w1 ⟨rfl, hk1, hg1⟩
  have HO1 := Lib.hid (HO.out.keyed hk1 hg1)
  have HT1 := Lib.hid (own_grB HT.out hg1 (own_offO HT.out HO.out.k (by decide)))
  have HB1 := Lib.hid (HBN.out.gr hg1 (fun b hb _ => .inr (.inl hb)))
  have HN1 := Lib.hid (Nat.le_trans HNZ.out hg1.size)
  clear hk1 hg1 HO HT HBN HNZ
  obtain ⟨d0, d1, d2, d3, d4⟩ := Own.five HT1.out
  go_wp2_with fail
  go_loopw [17] (fun x wr => ∃ k : Nat, k ≤ qs.length ∧ x = .int .i64 k ∧ Hid (OwT N X wr (.slice A1 cs.length c1) (.slice A2 zs.length c2) (.slice A3 qs.length c3) (.slice A4 ps.length c4) cs (zs.map (mvI i)) (fR (mvF i) qs k) d ps) ∧ Hid (Own wr gT 27 #[nm, .slice A1 cs.length c1, .slice A2 zs.length c2, .slice A3 qs.length c3, .slice A4 ps.length c4]) ∧ Hid (N ≤ wr.heap.size) ∧ Fra (Mine (.slice A1 cs.length c1) (.slice A2 zs.length c2) (.slice A3 qs.length c3) (.slice A4 ps.length c4) qs) w wr) (fun x _ => qs.length - (intOf x).toNat)
  case atStart => exact ⟨0, Nat.zero_le _, rfl, Lib.hid (by unfold fR; simpa using HO1.out), HT1, HN1, HB1.out⟩
  case round =>
    clear HO1 HT1 HN1 HB1 d0 d1 d2 d3 d4
    obtain ⟨k, hk, rfl, HO, HT, HNr, hbr⟩ := hrel
    obtain ⟨d0, d1, d2, d3, d4⟩ := Own.five HT.out
    by_cases hlt : k < qs.length
    · have hki : (k : Int) < qs.length := by omega
      have hge := fR_get (mvF i) qs k hlt
      obtain ⟨g3, hA3⟩ : ∃ g, A3 = some (⟨g, 0, none⟩ : Addr) := by
        rcases own_row HO.out.f with ⟨_, h6⟩ | ⟨g, c', h5, _⟩
        · rw [fR_len _ _ _ hk] at h6; omega
        · injection h5 with h5; exact ⟨g, h5⟩
      subst hA3
      have hcl := World.ownsRow.cells HO.out.f (g := g3) rfl
      have e0 := hcl _ _ ((fm_get fF_len _ k _ hge 0 (by decide)).trans rfl)
      have e1 := hcl _ _ ((fm_get fF_len _ k _ hge 1 (by decide)).trans rfl)
      rw [addX] at e0 e1
      rw [Nat.add_zero] at e0
      have hqm := List.getElem_mem hlt
      have hlq := HL5.out _ hqm
      have hfz := HFZ.out _ hqm
      have hset := fR_set (mvF i) qs k hlt
      have hown := HO.out.i _ (List.mem_of_getElem? hge)
      generalize qs[k] = q at *
      have HQM := Lib.hid hqm
      obtain ⟨⟨ys, s⟩, u⟩ := q
      dsimp only at hlq hfz hown e0 e1
      obtain ⟨Au, cu, eu⟩ := own_len hown
      subst eu
      have b2 := bel_mk wr (.cells #[.slice Au ys.length cu, .string s] 54)
      have o2 := Own.new wr 54 #[.slice Au ys.length cu, .string s]
      have x0 := o2.cell 0
      have HO2 := Lib.hid (HO.out.later b2)
      have HT2 := Lib.hid (HT.out.below b2 HT.out.lt)
      have HB2 := Lib.hid (hbr.gr (grownB_of b2 none) (fun b hb _ => by cases hb))
      have HN2 := Lib.hid (Nat.le_trans HNr.out b2.size)
      have HOW := Lib.hid (own_below2 hown b2)
      have HMV := Lib.hid (moveAll_any _ ys i _ N (own_below2 hown b2) hfz (by omega))
      have HSET := Lib.hid hset
      have HGE := Lib.hid hge
      clear hcl hown hset hge b2 o2 hfz HO HT
      go_wp2_with fail
      refine HMV.out.mono ?_
      rintro e w3 ⟨rfl, hk3, hg3⟩
      have h3 := HO2.out.colsI (q := ((ys, s), .slice Au ys.length cu)) HGE.out hk3 hg3
      have HO3 := Lib.hid (show OwT N X w3 _ _ _ _ cs (zs.map (mvI i)) (fR (mvF i) qs (k + 1)) d ps from by rw [← HSET.out]; exact h3)
      have HT3 := Lib.hid (own_grB HT2.out hg3 (own_offO HT2.out HOW.out (by decide)))
      have HB3 := HB2.out.gr hg3 (fun b hb _ => .inr (.inr (.inr (.inr ⟨_, HQM.out, hb⟩))))
      have HN3 := Lib.hid (Nat.le_trans HN2.out hg3.size)
      clear h3 hk3 hg3 HO2 HT2 HB2 HN2 HMV HSET HGE x0 e0 e1 d0 d1 d2 d3 d4 HOW
      go_wp2
      go_roundw
      case rel => exact ⟨k + 1, by omega, by go_num, HO3, HT3, HN3, HB3⟩
      case measure => simp [intOf]; omega
    · have hki : ¬ (k : Int) < qs.length := by omega
      have hkq : k = qs.length := by omega
      have HO2 := Lib.hid (show OwT N X wr _ _ _ _ cs (zs.map (mvI i)) (qs.map (mvF i)) d ps from by have h := HO.out; rw [hkq, fR_all] at h; exact h)
      clear HO hkq hlt
      obtain ⟨Wo, hWo⟩ : ∃ x, x = wr := ⟨_, rfl⟩
      subst hWo
      obtain ⟨n, hn⟩ : ∃ n, n = cs.length + 1 := ⟨_, rfl⟩
      have hmk : (Instr.makeSlice 25 (.int .i64 ((cs.length : Int) + 1)) (.int .i64 ((cs.length : Int) + 1))).run Try.prog Wo = .ok (.slice (some ⟨Wo.heap.size, 0, none⟩) n n) (Wo.alloc (.cells (rowE [] n) 65)) := by
        have h := made_rowE Wo n (by omega)
        rw [show ((n : Nat) : Int) = (cs.length : Int) + 1 by omega] at h
        exact h
      have hn40 : n ≤ 1099511627776 := by omega
      have HNN := Lib.hid hn
      have HRA := Lib.hid (show Own (Wo.alloc (.cells (rowE [] n) 65)) Wo.heap.size 65 (rowE [] n) from Own.new Wo _ _)
      have HBA := Lib.hid (bel_mk Wo (.cells (rowE [] n) 65))
      clear hn
      go_wp2_with fail
      clear hmk
      go_loopw [33] (fun x wr => ∃ k : Nat, k ≤ n ∧ x = .int .i64 k ∧ Hid (Own wr Wo.heap.size 65 (rowE (((mvE i n).take k).map nilU) n)) ∧ Below Wo.heap.size Wo wr) (fun x _ => n - (intOf x).toNat)
      case atStart => exact ⟨0, Nat.zero_le _, rfl, HRA, HBA.out⟩
      case round =>
        clear HRA HBA d0 d1 d2 d3 d4
        obtain ⟨k2, hk2, rfl, HR, hb2⟩ := hrel
        by_cases hlt : k2 < n
        · have hki : (k2 : Int) < (n : Int) := by omega
          have hki0 : (0 : Int) ≤ (k2 : Int) := by omega
          have hlen : (((mvE i n).take k2).map nilU).length = k2 := by rw [List.length_map, List.length_take, mvE_len]; omega
          have HRX := HR.out
          have z : ∀ j, j < 7 → wr.cell? ⟨Wo.heap.size, k2 * 7 + j, none⟩ = (exL zX)[j]? := fun j hj => by
            have h := rowE_next (((mvE i n).take k2).map nilU) n (by rw [hlen]; exact hlt) j hj
            rw [hlen] at h
            exact (HRX.cell (k2 * 7 + j)).trans h
          have z0 : wr.cell? ⟨Wo.heap.size, k2 * 7, none⟩ = some (.int .i64 0) := (z 0 (by decide)).trans rfl
          have z1 : wr.cell? ⟨Wo.heap.size, k2 * 7 + 1, none⟩ = some (.int .i64 0) := (z 1 (by decide)).trans rfl
          have z2 : wr.cell? ⟨Wo.heap.size, k2 * 7 + 2, none⟩ = some (.int .i64 0) := (z 2 (by decide)).trans rfl
          have z3 : wr.cell? ⟨Wo.heap.size, k2 * 7 + 3, none⟩ = some (.int .i64 0) := (z 3 (by decide)).trans rfl
          have z4 : wr.cell? ⟨Wo.heap.size, k2 * 7 + 4, none⟩ = some (.string ⟨#[]⟩) := (z 4 (by decide)).trans rfl
          have z5 : wr.cell? ⟨Wo.heap.size, k2 * 7 + 5, none⟩ = some (.string ⟨#[]⟩) := (z 5 (by decide)).trans rfl
          have z6 : wr.cell? ⟨Wo.heap.size, k2 * 7 + 6, none⟩ = some (.slice none 0 0) := (z 6 (by decide)).trans rfl
          have j0 := HRX.free (k2 * 7)
          have j1 := HRX.free (k2 * 7 + 1)
          have j2 := HRX.free (k2 * 7 + 2)
          have j3 := HRX.free (k2 * 7 + 3)
          have j4 := HRX.free (k2 * 7 + 4)
          have j5 := HRX.free (k2 * 7 + 5)
          have j6 := HRX.free (k2 * 7 + 6)
          have hst := own_store7 (k2 * 7) (.int .i64 2) (.int .i64 (mvI i k2)) (.int .i64 0) (.int .i64 0) (.string ⟨#[]⟩) (.string ⟨#[]⟩) (.slice none 0 0) HRX
          have hre := rowE_set (((mvE i n).take k2).map nilU) n (nilU (colM i k2)) (by rw [hlen]; exact hlt)
          rw [hlen] at hre
          have HST := Lib.hid (show Own _ _ _ (rowE (((mvE i n).take (k2 + 1)).map nilU) n) from by
            rw [mvE_take i n k2 hlt, List.map_append]
            exact hre ▸ hst)
          have HBS := Lib.hid (below_store7 (k2 * 7) (.int .i64 2) (.int .i64 (mvI i k2)) (.int .i64 0) (.int .i64 0) (.string ⟨#[]⟩) (.string ⟨#[]⟩) (.slice none 0 0) hb2 (Nat.le_refl _))
          have HM := Lib.hid (fun W => move_any (k2 : Int) i W (by omega))
          clear z hst hre HRX hlen HR
          go_wp2_with fail
          with_reducible refine (HM.out _).mono ?_
          rintro e w5 ⟨rfl, rfl⟩
          go_wp2
          go_roundw
          case rel => exact ⟨k2 + 1, by omega, by go_num, HST, HBS.out⟩
          case measure => simp [intOf]; omega
        · have hki : ¬ (k2 : Int) < (n : Int) := by omega
          have hkn : k2 = n := by omega
          have HMV := Lib.hid (show RdE wr Wo.heap.size wr.heap.size 2 (.slice (some ⟨Wo.heap.size, 0, none⟩) n n) (mvE i n) from by
            have h := HR.out
            rw [hkn, List.take_of_length_le (by rw [mvE_len]; exact Nat.le_refl _)] at h
            have hl : ((mvE i n).map nilU).length = n := by rw [List.length_map, mvE_len]
            have hra := rowE_all ((mvE i n).map nilU)
            rw [hl] at hra
            rw [hra] at h
            have h2 := rdE_row (c := n) (L := Wo.heap.size) (d := 1) h (Nat.le_refl _) (by omega) (fun p hp => by
              obtain ⟨e, he, rfl⟩ := List.mem_map.1 hp
              unfold mvE at he
              obtain ⟨x, _, rfl⟩ := List.mem_map.1 he
              exact ⟨none, 0, rfl, by simp [nilU, colM], fun k e hk => by simp [nilU, colM] at hk⟩)
            rw [hl, List.map_map] at h2
            rw [show ((fun p : ExU => p.1) ∘ nilU) = id from rfl, List.map_id] at h2
            exact h2)
          have HO3 := Lib.hid (HO2.out.later hb2)
          have HT3 := Lib.hid (HT.out.below hb2 HT.out.lt)
          have HN3 := Lib.hid (Nat.le_trans HNr.out hb2.size)
          have HB3 := Lib.hid (hbr.gr (grownB_of hb2 none) (fun b hb _ => by cases hb))
          have HG4 := Lib.hid (show ∀ b, (Value.slice A4 ps.length c4).ownBlock = some b → b < Wo.heap.size from fun b hb => (World.ownsRow.lt HO2.out.x b hb).2)
          clear HR hkn hlt HO2 HT hb2 HNr hbr
          obtain ⟨d0, d1, d2, d3, d4⟩ := Own.five HT3.out
          go_wp2_with fail
          generalize Wo.heap.size = gm at *
          go_loopw [47] (fun x wr => ∃ (k : Nat) (rs : List ExU), k ≤ ps.length ∧ x = .int .i64 k ∧ Hid (rs.length = ps.length) ∧ Hid (∀ j, k ≤ j → rs[j]? = ps[j]?) ∧ Hid (rs.map (·.1) = gR (fun p : ExU => sbX (mvE i n) d p.1) (fun p => p.1) ps k) ∧ Hid (OwT N X wr (.slice A1 cs.length c1) (.slice A2 zs.length c2) (.slice A3 qs.length c3) (.slice A4 ps.length c4) cs (zs.map (mvI i)) (qs.map (mvF i)) (d + 1) rs) ∧ Hid (∀ j q, k ≤ j → ps[j]? = some q → TreeOff (fun b => Mine (.slice A1 cs.length c1) (.slice A2 zs.length c2) (.slice A3 qs.length c3) (.slice A4 ps.length c4) (qs.map (mvF i)) b ∨ X b) wr d q.2 q.1.args) ∧ Hid (Own wr gT 27 #[nm, .slice A1 cs.length c1, .slice A2 zs.length c2, .slice A3 qs.length c3, .slice A4 ps.length c4]) ∧ Hid (RdE wr gm wr.heap.size 2 (.slice (some ⟨gm, 0, none⟩) n n) (mvE i n)) ∧ Hid (N ≤ wr.heap.size) ∧ Fra (Mine (.slice A1 cs.length c1) (.slice A2 zs.length c2) (.slice A3 qs.length c3) (.slice A4 ps.length c4) qs) w wr) (fun x _ => ps.length - (intOf x).toNat)
          case atStart => exact ⟨0, ps, Nat.zero_le _, rfl, Lib.hid rfl, Lib.hid (fun _ _ => rfl), Lib.hid (by unfold gR; simp), Lib.hid (HO3.out.up (Nat.le_succ _)), Lib.hid (fun j q _ hq => HO3.out.e q (List.mem_of_getElem? hq)), HT3, HMV, HN3, HB3.out⟩
          case round =>
            clear HO3 HT3 HMV HN3 HB3 d0 d1 d2 d3 d4
            obtain ⟨k, rs, hk, rfl, HRL, HEQ, HMP, HO, HTR, HT, HMV, HNr, hbr⟩ := hrel
            have hxo := HO.out.x
            rw [HRL.out] at hxo
            by_cases hlt : k < ps.length
            · have hki : (k : Int) < ps.length := by omega
              have hki0 : (0 : Int) ≤ (k : Int) := by omega
              have hq : rs[k]? = some ps[k] := (HEQ.out k (Nat.le_refl _)).trans (List.getElem?_eq_getElem hlt)
              have hel := (HTR.out k _ (Nat.le_refl _) (List.getElem?_eq_getElem hlt)).rd
              obtain ⟨g, hA4⟩ : ∃ g, A4 = some (⟨g, 0, none⟩ : Addr) := by
                rcases own_row hxo with ⟨_, h6⟩ | ⟨g, c', h5, _⟩
                · omega
                · injection h5 with h5; exact ⟨g, h5⟩
              subst hA4
              have hgg := HG4.out g rfl
              have hgT := own_offO HT.out hxo (by decide)
              have hgT2 : g ≠ gT := fun e => hgT (by rw [e]; rfl)
              have hglt : g < wr.heap.size := (World.ownsRow.lt hxo g rfl).2
              have hTl : gT < wr.heap.size := HT.out.lt
              have hcl := World.ownsRow.cells hxo (g := g) rfl
              have hfl := flatE_get rs k _ hq
              have hset := gR_set (fun p : ExU => sbX (mvE i n) d p.1) (fun p => p.1) ps k hlt
              generalize ps[k] = q at *
              obtain ⟨⟨q0, q1, ⟨q2, q3, q4⟩, q5, q6⟩, uk⟩ := q
              dsimp only at hel hset
              obtain ⟨A8, c8, rfl, _⟩ := hel.slice
              have hcc : ∀ j u, (flatE rs)[j]? = some u → wr.cell? ⟨g, j, none⟩ = some u := fun j u hu => by have := hcl j u hu; rwa [addX] at this
              have n0 : wr.cell? ⟨g, k * 7, none⟩ = some (.int .i64 q0) := hcc _ _ (hfl 0 (by decide))
              have n1 : wr.cell? ⟨g, k * 7 + 1, none⟩ = some (.int .i64 q1) := hcc _ _ (hfl 1 (by decide))
              have n2 : wr.cell? ⟨g, k * 7 + 2, none⟩ = some (.int .i64 q2) := hcc _ _ (hfl 2 (by decide))
              have n3 : wr.cell? ⟨g, k * 7 + 3, none⟩ = some (.int .i64 q3) := hcc _ _ (hfl 3 (by decide))
              have n4 : wr.cell? ⟨g, k * 7 + 4, none⟩ = some (.string q4) := hcc _ _ (hfl 4 (by decide))
              have n5 : wr.cell? ⟨g, k * 7 + 5, none⟩ = some (.string q5) := hcc _ _ (hfl 5 (by decide))
              have n6 : wr.cell? ⟨g, k * 7 + 6, none⟩ = some (.slice A8 q6.length c8) := hcc _ _ (hfl 6 (by decide))
              have HNE := Lib.hid hq
              have HEL := Lib.hid hel
              have HSET := Lib.hid hset
              have HXO := Lib.hid hxo
              have HFR := Lib.hid (fun (j : Nat) => World.ownsRow.frozenAt hxo j)
              clear hcl hcc hfl hq hel hset hxo hgT
              have z4 := HT.out.cell 4
              have bV := bel_mk wr (.cells #[.int .i64 q0, .int .i64 q1, .int .i64 q2, .int .i64 q3, .string q4, .string q5, .slice A8 q6.length c8] 65)
              have HV := Lib.hid (Own.new wr 65 #[.int .i64 q0, .int .i64 q1, .int .i64 q2, .int .i64 q3, .string q4, .string q5, .slice A8 q6.length c8])
              have HBV := Lib.hid bV
              go_upto_region 16 with fail
              generalize hVV : wr.alloc (.cells #[.int .i64 q0, .int .i64 q1, .int .i64 q2, .int .i64 q3, .string q4, .string q5, .slice A8 q6.length c8] 65) = V at *
              clear bV hVV
              have HOV := Lib.hid (HT.out.below HBV.out HT.out.lt)
              have hgV : g < V.heap.size := by have := HBV.out.size; omega
              have hgr : ∀ j, V.drew.cell? ⟨g, j, none⟩ = wr.cell? ⟨g, j, none⟩ := fun j => show V.cell? ⟨g, j, none⟩ = wr.cell? ⟨g, j, none⟩ from HBV.out.cell (p := ⟨g, j, none⟩) hglt
              have HN := Lib.hid (And.intro ((hgr _).trans n0) (And.intro ((hgr _).trans n1) (And.intro ((hgr _).trans n2) (And.intro ((hgr _).trans n3) (And.intro ((hgr _).trans n4) (And.intro ((hgr _).trans n5) ((hgr _).trans n6)))))))
              have HGD := Lib.hid (show ∀ j : Nat, (⟨g, j, none⟩ : Addr).block < V.drew.heap.size from fun _ => hgV)
              have HFD := Lib.hid (show ∀ j, V.drew.frozen? ⟨g, j, none⟩ = false from fun j => (show V.frozen? ⟨g, j, none⟩ = wr.frozen? ⟨g, j, none⟩ from HBV.out.frozen (p := ⟨g, j, none⟩) hglt).trans (HFR.out j))
              clear n0 n1 n2 n3 n4 n5 n6 z4 hgr
              have HS := Lib.hid (show ∀ w', Below V.drew.heap.size V.drew w' → (w'.cell? ⟨gT, 4, none⟩ = some (.slice (some ⟨g, 0, none⟩) ps.length c4) ∧ w'.cell? ⟨wr.heap.size, 0, none⟩ = some (.int .i64 q0) ∧ w'.cell? ⟨wr.heap.size, 1, none⟩ = some (.int .i64 q1) ∧ w'.cell? ⟨wr.heap.size, 2, none⟩ = some (.int .i64 q2) ∧ w'.cell? ⟨wr.heap.size, 3, none⟩ = some (.int .i64 q3) ∧ w'.cell? ⟨wr.heap.size, 4, none⟩ = some (.string q4) ∧ w'.cell? ⟨wr.heap.size, 5, none⟩ = some (.string q5) ∧ w'.cell? ⟨wr.heap.size, 6, none⟩ = some (.slice A8 q6.length c8)) from fun w' hb => have o := (show Own V.drew _ _ _ from HV.out).below hb HV.out.lt; ⟨((show Own V.drew _ _ _ from HOV.out).below hb HOV.out.lt).cell 4, o.cell 0, o.cell 1, o.cell 2, o.cell 3, o.cell 4, o.cell 5, o.cell 6⟩)
              have HS7 := Lib.hid (show ∀ (w' : World) (y0 y1 y2 y3 y4 y5 y6 : Value), (w'.cell? ⟨gT, 4, none⟩ = some (.slice (some ⟨g, 0, none⟩) ps.length c4) ∧ w'.cell? ⟨wr.heap.size, 0, none⟩ = some (.int .i64 q0) ∧ w'.cell? ⟨wr.heap.size, 1, none⟩ = some (.int .i64 q1) ∧ w'.cell? ⟨wr.heap.size, 2, none⟩ = some (.int .i64 q2) ∧ w'.cell? ⟨wr.heap.size, 3, none⟩ = some (.int .i64 q3) ∧ w'.cell? ⟨wr.heap.size, 4, none⟩ = some (.string q4) ∧ w'.cell? ⟨wr.heap.size, 5, none⟩ = some (.string q5) ∧ w'.cell? ⟨wr.heap.size, 6, none⟩ = some (.slice A8 q6.length c8)) → ((((((((w'.setCell ⟨g, k * 7, none⟩ y0).setCell ⟨g, k * 7 + 1, none⟩ y1).setCell ⟨g, k * 7 + 2, none⟩ y2).setCell ⟨g, k * 7 + 3, none⟩ y3).setCell ⟨g, k * 7 + 4, none⟩ y4).setCell ⟨g, k * 7 + 5, none⟩ y5).setCell ⟨g, k * 7 + 6, none⟩ y6).cell? ⟨gT, 4, none⟩ = some (.slice (some ⟨g, 0, none⟩) ps.length c4) ∧ (((((((w'.setCell ⟨g, k * 7, none⟩ y0).setCell ⟨g, k * 7 + 1, none⟩ y1).setCell ⟨g, k * 7 + 2, none⟩ y2).setCell ⟨g, k * 7 + 3, none⟩ y3).setCell ⟨g, k * 7 + 4, none⟩ y4).setCell ⟨g, k * 7 + 5, none⟩ y5).setCell ⟨g, k * 7 + 6, none⟩ y6).cell? ⟨wr.heap.size, 0, none⟩ = some (.int .i64 q0) ∧ (((((((w'.setCell ⟨g, k * 7, none⟩ y0).setCell ⟨g, k * 7 + 1, none⟩ y1).setCell ⟨g, k * 7 + 2, none⟩ y2).setCell ⟨g, k * 7 + 3, none⟩ y3).setCell ⟨g, k * 7 + 4, none⟩ y4).setCell ⟨g, k * 7 + 5, none⟩ y5).setCell ⟨g, k * 7 + 6, none⟩ y6).cell? ⟨wr.heap.size, 1, none⟩ = some (.int .i64 q1) ∧ (((((((w'.setCell ⟨g, k * 7, none⟩ y0).setCell ⟨g, k * 7 + 1, none⟩ y1).setCell ⟨g, k * 7 + 2, none⟩ y2).setCell ⟨g, k * 7 + 3, none⟩ y3).setCell ⟨g, k * 7 + 4, none⟩ y4).setCell ⟨g, k * 7 + 5, none⟩ y5).setCell ⟨g, k * 7 + 6, none⟩ y6).cell? ⟨wr.heap.size, 2, none⟩ = some (.int .i64 q2) ∧ (((((((w'.setCell ⟨g, k * 7, none⟩ y0).setCell ⟨g, k * 7 + 1, none⟩ y1).setCell ⟨g, k * 7 + 2, none⟩ y2).setCell ⟨g, k * 7 + 3, none⟩ y3).setCell ⟨g, k * 7 + 4, none⟩ y4).setCell ⟨g, k * 7 + 5, none⟩ y5).setCell ⟨g, k * 7 + 6, none⟩ y6).cell? ⟨wr.heap.size, 3, none⟩ = some (.int .i64 q3) ∧ (((((((w'.setCell ⟨g, k * 7, none⟩ y0).setCell ⟨g, k * 7 + 1, none⟩ y1).setCell ⟨g, k * 7 + 2, none⟩ y2).setCell ⟨g, k * 7 + 3, none⟩ y3).setCell ⟨g, k * 7 + 4, none⟩ y4).setCell ⟨g, k * 7 + 5, none⟩ y5).setCell ⟨g, k * 7 + 6, none⟩ y6).cell? ⟨wr.heap.size, 4, none⟩ = some (.string q4) ∧ (((((((w'.setCell ⟨g, k * 7, none⟩ y0).setCell ⟨g, k * 7 + 1, none⟩ y1).setCell ⟨g, k * 7 + 2, none⟩ y2).setCell ⟨g, k * 7 + 3, none⟩ y3).setCell ⟨g, k * 7 + 4, none⟩ y4).setCell ⟨g, k * 7 + 5, none⟩ y5).setCell ⟨g, k * 7 + 6, none⟩ y6).cell? ⟨wr.heap.size, 5, none⟩ = some (.string q5) ∧ (((((((w'.setCell ⟨g, k * 7, none⟩ y0).setCell ⟨g, k * 7 + 1, none⟩ y1).setCell ⟨g, k * 7 + 2, none⟩ y2).setCell ⟨g, k * 7 + 3, none⟩ y3).setCell ⟨g, k * 7 + 4, none⟩ y4).setCell ⟨g, k * 7 + 5, none⟩ y5).setCell ⟨g, k * 7 + 6, none⟩ y6).cell? ⟨wr.heap.size, 6, none⟩ = some (.slice A8 q6.length c8)) from fun w' y0 y1 y2 y3 y4 y5 y6 h => by
                have f : ∀ (W : World) (j : Nat) (y : Value) (p : Addr), g ≠ p.block → (W.setCell ⟨g, j, none⟩ y).cell? p = W.cell? p := fun W j y p hp => World.cell?_setCell_far W ⟨g, j, none⟩ p y hp
                have e1 : g ≠ gT := hgT2
                have e2 : g ≠ wr.heap.size := by omega
                obtain ⟨h0, h1, h2, h3, h4, h5, h6, h7⟩ := h
                refine ⟨?_, ?_, ?_, ?_, ?_, ?_, ?_, ?_⟩
                · rw [f _ _ _ _ e1, f _ _ _ _ e1, f _ _ _ _ e1, f _ _ _ _ e1, f _ _ _ _ e1, f _ _ _ _ e1, f _ _ _ _ e1]; exact h0
                all_goals
                  rw [f _ _ _ _ e2, f _ _ _ _ e2, f _ _ _ _ e2, f _ _ _ _ e2, f _ _ _ _ e2, f _ _ _ _ e2, f _ _ _ _ e2]
                  assumption)
              have HVD := Lib.hid ((Below.refl V.heap.size V).drew)
              have HCI := Lib.hid (show Calls Try.prog 31 #[.agg #[.int .i64 q0, .int .i64 q1, .int .i64 q2, .int .i64 q3, .string q4, .string q5, .slice A8 q6.length c8], .slice (some ⟨gm, 0, none⟩) n n] V.drew (RetX V.drew (d + 1) (sbX (mvE i n) d ⟨q0, q1, (q2, q3, q4), q5, q6⟩)) from by
                have h2 := pSubst_any (.slice (some ⟨gm, 0, none⟩) n n) (mvE i n) 1 d ⟨q0, q1, (q2, q3, q4), q5, q6⟩ (.slice A8 q6.length c8) V.drew 0 gm (HEL.out.step (HBV.out.trans (HVD.out.mono HBV.out.size)) (Nat.le_refl _)) (HMV.out.step (HBV.out.trans (HVD.out.mono HBV.out.size)) (Nat.le_refl _))
                unfold exV at h2
                exact h2)
              generalize hrr : sbX (mvE i n) d ⟨q0, q1, (q2, q3, q4), q5, q6⟩ = r at *
              clear hrr
              obtain ⟨r0, r1, ⟨r2, r3, r4⟩, r5, r6⟩ := r
              refine wp_region_held_drew (S := fun w' => (w'.cell? ⟨gT, 4, none⟩ = some (.slice (some ⟨g, 0, none⟩) ps.length c4) ∧ w'.cell? ⟨wr.heap.size, 0, none⟩ = some (.int .i64 q0) ∧ w'.cell? ⟨wr.heap.size, 1, none⟩ = some (.int .i64 q1) ∧ w'.cell? ⟨wr.heap.size, 2, none⟩ = some (.int .i64 q2) ∧ w'.cell? ⟨wr.heap.size, 3, none⟩ = some (.int .i64 q3) ∧ w'.cell? ⟨wr.heap.size, 4, none⟩ = some (.string q4) ∧ w'.cell? ⟨wr.heap.size, 5, none⟩ = some (.string q5) ∧ w'.cell? ⟨wr.heap.size, 6, none⟩ = some (.slice A8 q6.length c8))) (by kernel_rfl) (HS.out _ (Below.refl _ _)) (fun hHeld => ?_)
              (refine takeD (i := 0) (d := 52) (oi := _) (v := ?_) rfl rfl (by kernel_rfl) (by kernel_rfl) (by kernel_rfl) (fun _ _ _ h => h) (Or.inl ⟨by rfl, ?_⟩) (by assumption) ?_; rotate_left; (focus ((intro w hSw; (try dsimp only at hSw); go_simp) <;> (with_reducible rfl))); (try simp only [Act.put, List.setIfInBounds_toArray, List.set_cons_zero, List.set_cons_succ]))
              (refine takeD (i := 1) (d := 53) (oi := _) (v := ?_) rfl rfl (by kernel_rfl) (by kernel_rfl) (by kernel_rfl) (fun _ _ _ h => h) (Or.inl ⟨by rfl, ?_⟩) (by assumption) ?_; rotate_left; (focus ((intro w hSw; (try dsimp only at hSw); go_simp) <;> (with_reducible rfl))); (try simp only [Act.put, List.setIfInBounds_toArray, List.set_cons_zero, List.set_cons_succ]))
              (refine takeD (i := 2) (d := 54) (oi := _) (v := ?_) rfl rfl (by kernel_rfl) (by kernel_rfl) (by kernel_rfl) (fun _ _ _ h => h) (Or.inl ⟨by rfl, ?_⟩) (by assumption) ?_; rotate_left; (focus ((intro w hSw; (try dsimp only at hSw); go_simp) <;> (with_reducible rfl))); (try simp only [Act.put, List.setIfInBounds_toArray, List.set_cons_zero, List.set_cons_succ]))
              (refine takeD (i := 3) (d := 55) (oi := _) (v := ?_) rfl rfl (by kernel_rfl) (by kernel_rfl) (by kernel_rfl) (fun _ _ _ h => h) (Or.inl ⟨by rfl, ?_⟩) (by assumption) ?_; rotate_left; (focus ((intro w hSw; (try dsimp only at hSw); go_simp) <;> (with_reducible rfl))); (try simp only [Act.put, List.setIfInBounds_toArray, List.set_cons_zero, List.set_cons_succ]))
              (refine takeD (i := 4) (d := 56) (oi := _) (v := ?_) rfl rfl (by kernel_rfl) (by kernel_rfl) (by kernel_rfl) (fun _ _ _ h => h) (Or.inl ⟨by rfl, ?_⟩) (by assumption) ?_; rotate_left; (focus ((intro w hSw; (try dsimp only at hSw); go_simp) <;> (with_reducible rfl))); (try simp only [Act.put, List.setIfInBounds_toArray, List.set_cons_zero, List.set_cons_succ]))
              refine wpAnyH_ready (rs := [5]) (by kernel_rfl) (by simp) ?_
              refine AllReadyH.cons (o := _) rfl (fun K hK => ?_) AllReadyH.nil
              go_simp
              (go_at_call 31; with_reducible refine HCI.out.mono ?_; intro e5 w5 h5; unfold RetX at h5; obtain ⟨v5, h6, k5, hb⟩ := h5; subst h6; obtain ⟨AB, cB, h7, _⟩ := k5.slice; subst h7; unfold exV; dsimp only; obtain ⟨t0, t1, t2, t3, t4, t5, t6⟩ := HN.out; have hg5 : ∀ j, w5.cell? ⟨g, j, none⟩ = V.drew.cell? ⟨g, j, none⟩ := fun j => hb.cell (HGD.out j); have o0 := (hg5 _).trans t0; have o1 := (hg5 _).trans t1; have o2 := (hg5 _).trans t2; have o3 := (hg5 _).trans t3; have o4 := (hg5 _).trans t4; have o5 := (hg5 _).trans t5; have o6 := (hg5 _).trans t6; have hf5 : ∀ j, w5.frozen? ⟨g, j, none⟩ = false := fun j => (hb.frozen (HGD.out j)).trans (HFD.out j); have j0 := hf5 (k * 7); have j1 := hf5 (k * 7 + 1); have j2 := hf5 (k * 7 + 2); have j3 := hf5 (k * 7 + 3); have j4 := hf5 (k * 7 + 4); have j5 := hf5 (k * 7 + 5); have j6 := hf5 (k * 7 + 6); clear hg5 hf5 t0 t1 t2 t3 t4 t5 t6)
              refine hK.out _ _ (by (try dsimp only); exact HS.out _ hb) (fun hHeld => ?_)
              clear hK
              (try simp only [Act.put, List.setIfInBounds_toArray, List.set_cons_zero, List.set_cons_succ])
              (refine takeD (i := 6) (d := 58) (oi := _) (v := ?_) rfl rfl (by kernel_rfl) (by kernel_rfl) (by kernel_rfl) (fun _ _ _ h => h) (Or.inl ⟨by rfl, ?_⟩) (by assumption) ?_; rotate_left; (focus ((intro w hSw; (try dsimp only at hSw); go_simp) <;> (with_reducible rfl))); (try simp only [Act.put, List.setIfInBounds_toArray, List.set_cons_zero, List.set_cons_succ]))
              refine wpAnyH_ready (rs := [7]) (by kernel_rfl) (by simp) ?_
              refine AllReadyH.cons (o := _) rfl (fun K hK => ?_) AllReadyH.nil
              go_simp
              skip
              refine hK.out _ _ (by (try dsimp only); exact HS7.out _ _ _ _ _ _ _ _ hHeld) (fun hHeld => ?_)
              clear hK
              (try simp only [Act.put, List.setIfInBounds_toArray, List.set_cons_zero, List.set_cons_succ])
              refine wpAnyH_done (by kernel_rfl) ?_ _
              clear hHeld HS HS7
              have hw5 : Below wr.heap.size wr w5 := HBV.out.trans ((HVD.out.trans (hb.mono HVD.out.size)).mono HBV.out.size)
              have hs5 := hw5.size
              have HO5 := HO.out.later hw5
              have hx5 := HO5.x
              rw [HRL.out] at hx5
              have h7 := own_set7 ((⟨r0, r1, (r2, r3, r4), r5, r6⟩, .slice AB r6.length cB) : ExU) hx5 HNE.out
              dsimp only at h7
              have hVs := HBV.out.size
              have hMl : ∀ b, Mine (.slice A1 cs.length c1) (.slice A2 zs.length c2) (.slice A3 qs.length c3) (.slice (some ⟨g, 0, none⟩) ps.length c4) (qs.map (mvF i)) b ∨ X b → b < V.drew.heap.size := fun b hm => hm.elim (fun hm => Nat.lt_of_lt_of_le (HO.out.mine_lt b hm) hVs) (fun h => Nat.lt_trans (HX.out b h) (Nat.lt_of_lt_of_le hTl hVs))
              have he5 : TreeOff (fun b => Mine (.slice A1 cs.length c1) (.slice A2 zs.length c2) (.slice A3 qs.length c3) (.slice (some ⟨g, 0, none⟩) ps.length c4) (qs.map (mvF i)) b ∨ X b) w5 (d + 1) (.slice AB r6.length cB) r6 := TreeOff.of k5 hMl
              have hM4 : ∀ b, ¬ (Mine (.slice A1 cs.length c1) (.slice A2 zs.length c2) (.slice A3 qs.length c3) (.slice (some ⟨g, 0, none⟩) ps.length c4) (qs.map (mvF i)) b ∨ X b) → some b ≠ some g := fun b hm e => hm (.inl (.inr (.inr (.inr (.inl e.symm)))))
              have HO6 := Lib.hid (HO5.exs (j := k) (p := ((⟨r0, r1, (r2, r3, r4), r5, r6⟩, .slice AB r6.length cB) : ExU)) (by rw [List.length_set, HRL.out]; exact h7.1) h7.2 (he5.move (fun b h1 hm => h7.2.block b h1 (hM4 b hm)) (fun _ _ h => h) h7.2.size))
              have hg6 := grownB_tr (grownB_of hw5 (some g)) h7.2
              have HT6 := Lib.hid (own_grB HT.out hg6 (fun e => hgT2 (Option.some.inj e)))
              have HTR6 := Lib.hid (show ∀ j q, k + 1 ≤ j → ps[j]? = some q → TreeOff (fun b => Mine (.slice A1 cs.length c1) (.slice A2 zs.length c2) (.slice A3 qs.length c3) (.slice (some ⟨g, 0, none⟩) ps.length c4) (qs.map (mvF i)) b ∨ X b) _ d q.2 q.1.args from fun j q hj hq => (HTR.out j q (by omega) hq).move (fun b h1 hm => hg6.block b h1 (hM4 b hm)) (fun _ _ h => h) hg6.size)
              have HMV6 := Lib.hid ((RdE.keep (fun b h1 h2 => h7.2.block b h2 (fun e => by injection e with e; omega)) (HMV.out.step hw5 (Nat.le_refl _))).more h7.2.size (Nat.le_refl _))
              have HN6 := Lib.hid (Nat.le_trans HNr.out hg6.size)
              have hNg : N ≤ g := (World.ownsRow.lt HXO.out g rfl).1
              have HB6 := Lib.hid (hbr.gr hg6 (fun b hb _ => .inr (.inr (.inr (.inl hb)))))
              have HL6 := Lib.hid (show (rs.set k ((⟨r0, r1, (r2, r3, r4), r5, r6⟩, .slice AB r6.length cB) : ExU)).length = ps.length by rw [List.length_set]; exact HRL.out)
              have HE6 := Lib.hid (show ∀ j, k + 1 ≤ j → (rs.set k ((⟨r0, r1, (r2, r3, r4), r5, r6⟩, .slice AB r6.length cB) : ExU))[j]? = ps[j]? from fun j hj => by rw [List.getElem?_set, if_neg (by omega)]; exact HEQ.out j (by omega))
              have HP6 := Lib.hid (show (rs.set k ((⟨r0, r1, (r2, r3, r4), r5, r6⟩, .slice AB r6.length cB) : ExU)).map (·.1) = gR (fun p : ExU => sbX (mvE i n) d p.1) (fun p => p.1) ps (k + 1) by rw [List.map_set, HMP.out]; exact HSET.out)
              generalize hWF : (((((((w5.setCell ⟨g, k * 7, none⟩ (.int .i64 r0)).setCell ⟨g, k * 7 + 1, none⟩ (.int .i64 r1)).setCell ⟨g, k * 7 + 2, none⟩ (.int .i64 r2)).setCell ⟨g, k * 7 + 3, none⟩ (.int .i64 r3)).setCell ⟨g, k * 7 + 4, none⟩ (.string r4)).setCell ⟨g, k * 7 + 5, none⟩ (.string r5)).setCell ⟨g, k * 7 + 6, none⟩ (.slice AB r6.length cB)) = WF at *
              clear hNg h7 hg6 he5 HO5 hx5 hw5 hb k5 HO HTR HT HMV HNr hbr HBV HV HOV HFD HGD HN HCI HEL HNE HFR HXO HSET hM4 hMl hWF o0 o1 o2 o3 o4 o5 o6 j0 j1 j2 j3 j4 j5 j6 HVD
              go_wp2
              go_roundw
              case rel => exact ⟨k + 1, _, by omega, by go_num, HL6, HE6, HP6, HO6, HTR6, HT6, HMV6, HN6, HB6.out⟩
              case measure => simp [intOf]; omega
            · have hki : ¬ (k : Int) < ps.length := by omega
              have hkq : k = ps.length := by omega
              have HPF := Lib.hid (show rs.map (·.1) = ps.map (fun p => sbX (mvE i (cs.length + 1)) d p.1) from by have h := HMP.out; rw [hkq, gR_all, HNN.out] at h; exact h)
              clear hkq hlt hxo
              go_wp2
              refine bodyPost_ret (results_none rfl _ _ _) rfl ?_
              exact ⟨rfl, ⟨rs, HPF.out, HO.out⟩, hbr⟩
end Go.Proofs.Yteihjneeiojgaaa
