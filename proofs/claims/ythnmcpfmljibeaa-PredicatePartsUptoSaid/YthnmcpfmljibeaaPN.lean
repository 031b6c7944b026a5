import Derived.Test.YthnmcpfmljibeaaPKb
import Derived.Test.YthnmcpfmljibeaaPIb
import Derived.Test.YthnmcpfmljibeaaQEE
import Derived.WalkKit
import Derived.WalkSpells
import Derived.WalkLawsBesides
import Derived.Deep.QuietTactic
import Derived.BigQuiet
import Derived.Handy
import Derived.Lib.Hide
import Derived.Test.YthnmcpfmljibeaaPX
/-
  The closure of Never; Never. Conditions: lengths.
-/
namespace Go.Proofs.Ythnmcpfmljibeaa
set_option maxRecDepth 100000
set_option linter.unusedVariables false
set_option linter.unusedSimpArgs false
open Go.RowKit

/-- For a constant the depth that is granted does not matter. -/
theorem ev_const1 (row : List Vl) (d : Nat) (e : Ex) (h : e.op = 1) : evE row (d + 1) e = evE row 1 e := by
  unfold evE
  cases hw : wfE e.op e.n e.v.1 e.v.2.1 e.v.2.2 e.nm e.args.length
  · rfl
  · have hz : e.args = [] := by
      unfold wfE at hw
      rw [h] at hw
      simp only [Bool.and_eq_true, decide_eq_true_eq] at hw
      have h2 := hw.1.2
      unfold opHi at h2
      simp at h2
      exact h2
    rw [hz]
    rfl
/-- The flag that the closure keeps in the box g. -/
def FlagC (w : World) (g : Nat) (b : Bool) : Prop := Own w g 4 #[.bool b]
set_option maxRecDepth 100000 in
set_option maxHeartbeats 6400000 in
theorem pNv1_any (d : Nat) (e : Ex) (u : Value) (g L : Nat) (b : Bool) (W : World) (hu : RdE W L W.heap.size d u e.args) (hR : FlagC W g b) :
    Calls Try.prog 64 #[exV e u, .pointer (some ⟨g, 0, none⟩)] W fun e' w' => e' = .returned (.tuple #[]) ∧ FlagC w' g (b || nevA e) ∧ Below g W w' := by
  obtain ⟨A, c, rfl, hel⟩ := hu.slice
  have b1 := bel_mk W (.cells (exA e (.slice A e.args.length c)) 26)
  have hd1 : ∃ d', d = d' + 1 := ⟨d - 1, by have := hu.pos; omega⟩
  obtain ⟨d', rfl⟩ := hd1
  have HT := Lib.hid (pTruthE_any (.slice none 0 0) [] (d' + 1) e A c (W.alloc (.cells (exA e (.slice A e.args.length c)) 26)) L 0 (hu.step b1 (Nat.le_refl _)) ⟨none, 0, rfl, by simp, fun k p hk => by simp at hk⟩)
  have hg := hR
  unfold FlagC at hg
  have HB1 := Lib.hid b1
  have HG0 := Lib.hid hg
  have HG1 := Lib.hid (hg.below b1 hg.lt)
  have HE1 := Lib.hid (Own.new W 26 (exA e (.slice A e.args.length c)))
  have hgl := hg.lt
  have hg0 := hg.cell 0
  have f0 := hg.free 0
  unfold FlagC nevA
  clear hu hR hg b1
  cases b
  · by_cases h1 : e.op = 1
    · rw [ev_const1 [] d' e h1] at HT
      generalize hp : truP (evE [] 1 e) = p at *
      obtain ⟨op, n, ⟨k1, k2, s⟩, nm, es⟩ := e
      dsimp only at h1
      subst h1
      unfold exV exA at *
      dsimp only at *
      clear hp
      go_enter Try.func64, Try.ntmps64
      go_wp2_with fail
      with_reducible refine HT.out.mono ?_
      rintro e' w2 ⟨rfl, hb2⟩
      have HG2 := Lib.hid (HG1.out.below hb2 HG1.out.lt)
      have HB2 := Lib.hid (HB1.out.trans (hb2.mono HB1.out.size))
      have c0 := HG2.out.cell 0
      have m0 := HG2.out.free 0
      clear hb2
      by_cases h2 : p = 2
      · subst h2
        go_wp2
        go_end0
        exact ⟨rfl, HG2.out.store 0 _, (HB2.out.mono (Nat.le_of_lt hgl)).setCell (p := ⟨g, 0, none⟩) (Nat.le_refl _) _⟩
      · have h2b : (p == 2) = false := by rw [beq_eq_false_iff_ne]; exact h2
        have h2c : (p != 2) = true := by simp [h2]
        go_wp2
        go_end0
        rw [h2c]
        exact ⟨rfl, HG2.out.store 0 _, (HB2.out.mono (Nat.le_of_lt hgl)).setCell (p := ⟨g, 0, none⟩) (Nat.le_refl _) _⟩
    · have h1b : (e.op == 1) = false := by rw [beq_eq_false_iff_ne]; exact h1
      rw [h1b]
      clear HT
      obtain ⟨op, n, ⟨k1, k2, s⟩, nm, es⟩ := e
      dsimp only at h1 h1b
      unfold exV exA at *
      dsimp only at *
      go_enter Try.func64, Try.ntmps64
      go_wp2
      go_end0
      exact ⟨rfl, (HG0.out.store 0 _).alloc _, ((Below.refl g W).setCell (p := ⟨g, 0, none⟩) (Nat.le_refl _) _).alloc (Nat.le_of_lt (by simpa using hgl)) _⟩
  · clear HT
    obtain ⟨op, n, ⟨k1, k2, s⟩, nm, es⟩ := e
    unfold exV exA at *
    dsimp only at *
    go_enter Try.func64, Try.ntmps64
    go_wp2
    go_end0
    exact ⟨rfl, (HG0.out.store 0 _).alloc _, ((Below.refl g W).setCell (p := ⟨g, 0, none⟩) (Nat.le_refl _) _).alloc (Nat.le_of_lt (by simpa using hgl)) _⟩
end Go.Proofs.Ythnmcpfmljibeaa
/-
  Never. Conditions: lengths, numbers of columns that are ints.
-/
namespace Go.Proofs.Ythnmcpfmljibeaa
set_option maxRecDepth 100000
set_option linter.unusedVariables false
set_option linter.unusedSimpArgs false
open Go.RowKit

theorem nev_take (zs : List Cnd) (k : Nat) (z : Cnd) (s : (Int → Option Itv) × Bool) (h : zs[k]? = some z) : (zs.take (k + 1)).foldl nevS s = nevS ((zs.take k).foldl nevS s) z := by
  rw [List.take_add_one, h, List.foldl_append]
  rfl
/-- What the loop keeps: the flag in the box gf, the map in the block gm, the conditions. -/
def NevI (w wr : World) (gf gm : Nat) (v : Value) (zs : List Cnd) (s : (Int → Option Itv) × Bool) : Prop :=
  Own wr gf 4 #[.bool s.2] ∧ MapI wr gm s.1 ∧ gf < gm ∧ w.heap.size ≤ gf ∧ RdQ wr (gm + 1) wr.heap.size v zs ∧ Below w.heap.size w wr
theorem NevI.below {w wr wx : World} {gf gm : Nat} {v : Value} {zs : List Cnd} {s : (Int → Option Itv) × Bool} (h : NevI w wr gf gm v zs s) (hb : Below wr.heap.size wr wx) : NevI w wx gf gm v zs s := by
  obtain ⟨h1, h2, h3, h4, h5, h6⟩ := h
  exact ⟨h1.below hb h1.lt, h2.below hb h2.lt, h3, h4, h5.step hb (Nat.le_refl _), h6.trans (hb.mono h6.size)⟩
theorem RdQ.grown {w w' : World} {L B : Nat} {row : Option Nat} (hg : w.grownBy w' row) (hB : B ≤ w.heap.size) (hne : ∀ g, row = some g → g < L ∨ B ≤ g) {v : Value} {zs : List Cnd} (h : RdQ w L B v zs) : RdQ w' L B v zs := by
  obtain ⟨A, c, h1, h2, h3⟩ := h
  refine ⟨A, c, h1, h2, fun k z hk => ?_⟩
  obtain ⟨ad, g1, g2, g3, c0, c1, c2, c3, c4⟩ := h3 k z hk
  have hq : ∀ a : Addr, a.block = ad.block → w'.cell? a = w.cell? a := fun a ha => World.grownBy.cell_far hg a (by omega) (by
    rw [ha]
    intro e2
    rcases hne _ e2.symm with h | h <;> omega)
  exact ⟨ad, g1, g2, g3, (hq _ (add_blk _ _)).trans c0, (hq ⟨ad.block, _, none⟩ rfl).trans c1, (hq ⟨ad.block, _, none⟩ rfl).trans c2, (hq ⟨ad.block, _, none⟩ rfl).trans c3, (hq ⟨ad.block, _, none⟩ rfl).trans c4⟩
/-- Behind the update of the map. -/
theorem NevI.put {w wr wx : World} {gf gm : Nat} {v : Value} {zs : List Cnd} {s : (Int → Option Itv) × Bool} {M : Int → Option Itv} (h : NevI w wr gf gm v zs s) (hm : MapI wx gm M) (hg : wr.grownBy wx (some gm)) : NevI w wx gf gm v zs (M, s.2) := by
  obtain ⟨h1, h2, h3, h4, h5, h6⟩ := h
  refine ⟨h1.grownX hg (fun b hb => by injection hb with hb; omega), hm, h3, h4, ?_, h6.grown hg h6.size (fun b hb => by injection hb with hb; omega)⟩
  exact (h5.grown hg (Nat.le_refl _) (fun g e => .inl (by injection e with e; omega))).more hg.size (Nat.le_refl _)
/-- Behind a store of the flag. -/
theorem NevI.flag {w wr : World} {gf gm : Nat} {v : Value} {zs : List Cnd} {s : (Int → Option Itv) × Bool} (b : Bool) (h : NevI w wr gf gm v zs s) : NevI w (wr.setCell ⟨gf, 0, none⟩ (.bool b)) gf gm v zs (s.1, b) := by
  obtain ⟨h1, h2, h3, h4, h5, h6⟩ := h
  refine ⟨h1.store 0 _, ?_, h3, h4, ?_, h6.setCell (p := ⟨gf, 0, none⟩) h4 _⟩
  · obtain ⟨es, c, q1, q2⟩ := h2
    exact ⟨es, c, (Below.heap_setCell wr ⟨gf, 0, none⟩ _ gm (by show gm ≠ gf; omega)).trans q1, q2⟩
  · rw [World.size_setCell]
    exact h5.far (p := ⟨gf, 0, none⟩) (by show gf < gm + 1; omega) _
set_option maxRecDepth 100000 in
set_option maxHeartbeats 12800000 in
theorem pNev_any (d : Nat) (e : Ex) (u : Value) (w : World) (L : Nat) (h : RdE w L w.heap.size d u e.args) (hl : (conjE d e).length ≤ 1099511627776) (hwf : ∀ z ∈ (conjE d e).filterMap condE, (Lit.int .i64 z.col).wf = true) :
    Calls Try.prog 33 #[exV e u] w fun e' w' => e' = .returned (.bool (nevE (conjE d e))) ∧ Below w.heap.size w w' := by
  obtain ⟨A, c, rfl, _⟩ := h.slice
  have b1 := bel_mk w (.cells (exA e (.slice A e.args.length c)) 26)
  have b2 := bel_mk (w.alloc (.cells (exA e (.slice A e.args.length c)) 26)) (.cells #[.bool false] 4)
  have HB := Lib.hid (b1.trans (b2.mono b1.size))
  have HE := Lib.hid ((Own.new w 26 (exA e (.slice A e.args.length c))).alloc (.cells #[.bool false] 4))
  have HG := Lib.hid (show Own ((w.alloc (.cells (exA e (.slice A e.args.length c)) 26)).alloc (.cells #[.bool false] 4)) (w.heap.size + 1) 4 #[.bool false] from Va.own_two _)
  have HC := Lib.hid (fun (W : World) (hb : Below w.heap.size w W) => pConds_any d e (.slice A e.args.length c) W L (h.step hb (Nat.le_refl _)) hl)
  have HV := Lib.hid (cvld (conjE d e))
  have HWF := Lib.hid hwf
  have HVI := Lib.hid (pVisP_any 64 #[.pointer (some ⟨w.heap.size + 1, 0, none⟩)]
    (fun zs W => FlagC W (w.heap.size + 1) (zs.any nevA) ∧ Below (w.heap.size + 1) ((w.alloc (.cells (exA e (.slice A e.args.length c)) 26)).alloc (.cells #[.bool false] 4)) W)
    ((w.alloc (.cells (exA e (.slice A e.args.length c)) 26)).alloc (.cells #[.bool false] 4)) (w.heap.size + 1) L d (conjE d e) (by simp) (fun _ _ => rfl) (fun zs W h => h.2)
    (fun zs W W' ⟨hr, hb⟩ hb2 => ⟨Own.below hr hb2 (Own.lt hr), hb.trans (hb2.mono (by have := hb.size; simp at this; omega))⟩)
    (fun zs c2 u2 d2 W hd ⟨hR, hb⟩ ⟨t, hT⟩ hr => by
      have hs := hb.size
      have hz2 : (w.alloc (.cells (exA e (.slice A e.args.length c)) 26)).heap.size + 1 ≤ W.heap.size := by have := hs; simp only [World.size_alloc] at this ⊢; exact this
      refine (pNv1_any d2 c2 u2 (w.heap.size + 1) L (zs.any nevA) W ((hr.below hb).more (by simp only [World.size_alloc] at hz2; omega) (Nat.le_refl _)) hR).mono ?_
      rintro e' w' ⟨h1, h2, h3⟩
      refine ⟨h1, ?_, hb.trans h3⟩
      rw [List.any_append]
      simpa using h2)
    d (Nat.le_refl _) e (.slice A e.args.length c) [] _ ⟨HG.out, Below.refl _ _⟩ (by have h3 := (h.step b1 (Nat.le_refl _)).below b2; simp only [World.size_alloc] at h3; exact h3) ⟨[], by simp⟩)
  clear b1 b2 h hl hwf
  rw [List.nil_append] at HVI
  have hnv : nevE (conjE d e) = ((((conjE d e).filterMap condE).foldl nevS ((fun _ => none), (conjE d e).any nevA)).2) := rfl
  rw [hnv]
  clear hnv
  generalize (conjE d e).filterMap condE = zs at *
  generalize (conjE d e).any nevA = b0 at *
  unfold exV exA at *
  have e0 := HE.out.cell 0
  have e1 := HE.out.cell 1
  have e2 := HE.out.cell 2
  have e3 := HE.out.cell 3
  have e4 := HE.out.cell 4
  have e5 := HE.out.cell 5
  have e6 := HE.out.cell 6
  go_enter Try.func33, Try.ntmps33
  go_wp2_with fail
  with_reducible refine HVI.out.mono ?_
  rintro e' w2 ⟨rfl, hf2, hb2⟩
  have HB2 := Lib.hid (HB.out.trans (hb2.mono (by omega)))
  have HF2 := Lib.hid hf2
  have HE2 := Lib.hid (HE.out.below hb2 (by omega))
  clear e0 e1 e2 e3 e4 e5 e6 HVI HG HB HE hb2 hf2
  have e0 := HE2.out.cell 0
  have e1 := HE2.out.cell 1
  have e2 := HE2.out.cell 2
  have e3 := HE2.out.cell 3
  have e4 := HE2.out.cell 4
  have e5 := HE2.out.cell 5
  have e6 := HE2.out.cell 6
  have le2 := HE2.out.lt
  have hmk : (Instr.makeMap 97 none).run Try.prog w2 = .ok (.map (some w2.heap.size)) (w2.alloc (.map #[] 0)) := rfl
  have HM2 := Lib.hid (MapI.new w2)
  have bm := bel_mark w2 (.map #[] 0)
  have HB3 := Lib.hid (HB2.out.trans (bm.mono HB2.out.size))
  have HF3 := Lib.hid (show FlagC (w2.alloc (.map #[] 0)) (w.heap.size + 1) b0 from Own.below HF2.out bm (Own.lt HF2.out))
  have lf2 := Own.lt HF2.out
  clear bm
  go_wp2_with fail
  with_reducible refine (HC.out _ HB3.out).mono ?_
  rintro e' w3 ⟨v, rfl, hrd, hb3⟩
  have HW := Lib.hid (show NevI w w3 (w.heap.size + 1) w2.heap.size v zs ((zs.take 0).foldl nevS ((fun _ => none), b0)) from ⟨Own.below HF3.out hb3 (Own.lt HF3.out), HM2.out.below hb3 HM2.out.lt, lf2, by omega, hrd.more (Nat.le_refl _) (by simp), HB3.out.trans (hb3.mono HB3.out.size)⟩)
  obtain ⟨Av, cv, rfl, hzl, _⟩ := hrd
  clear hb3 HF3 HM2 HB3 HB2 HF2 e0 e1 e2 e3 e4 e5 e6 HE2 hmk HC
  have hgm : w.heap.size + 1 < w2.heap.size := lf2
  generalize w2.heap.size = gm at *
  go_wp2_with fail
  go_loopw [16] (fun i wr => ∃ k : Nat, k ≤ zs.length ∧ i = .int .i64 k ∧ Hid (NevI w wr (w.heap.size + 1) gm (.slice Av zs.length cv) zs ((zs.take k).foldl nevS ((fun _ => none), b0)))) (fun i _ => zs.length - (intOf i).toNat)
  case atStart => exact ⟨0, Nat.zero_le _, rfl, HW⟩
  case round =>
    clear HW
    obtain ⟨k, hk, rfl, HW⟩ := hrel
    by_cases hlt : k < zs.length
    · have hki : (k : Int) < zs.length := by omega
      have hzk := List.getElem?_eq_getElem hlt
      have hnk := nev_take zs k _ ((fun _ => none), b0) hzk
      have hvz := HV.out _ (List.getElem_mem hlt)
      have hwz := HWF.out _ (List.getElem_mem hlt)
      obtain ⟨ad, cz, hsl, _, hab, y0, y1, y2, y3, y4⟩ := HW.out.2.2.2.2.1.at k _ hzk
      injection hsl with hs1 hs2 hs3
      subst hs1 hs3
      generalize zs[k] = z at *
      have HNK := Lib.hid hnk
      generalize (zs.take k).foldl nevS ((fun _ => none), b0) = st at *
      obtain ⟨M, fl⟩ := st
      replace HNK := Lib.hid (HNK.out.trans (show nevS (M, fl) z = (fun k => if k = z.col then some (narI ((M z.col).getD (allI z.v.1)) z) else M k, fl || empI (narI ((M z.col).getD (allI z.v.1)) z)) from rfl))
      have HN := Lib.hid (fun i W => show Calls Try.prog 39 #[.agg #[.int .i64 i.lo.1, .int .i64 i.lo.2.1, .string i.lo.2.2, .bool i.ls, .int .i64 i.hi.1, .int .i64 i.hi.2.1, .string i.hi.2.2, .bool i.hs, .bool i.im], .agg #[.int .i64 z.op, .int .i64 z.col, .int .i64 z.v.1, .int .i64 z.v.2.1, .string z.v.2.2]] W fun e w' => e = .returned (.agg #[.int .i64 (narI i z).lo.1, .int .i64 (narI i z).lo.2.1, .string (narI i z).lo.2.2, .bool (narI i z).ls, .int .i64 (narI i z).hi.1, .int .i64 (narI i z).hi.2.1, .string (narI i z).hi.2.2, .bool (narI i z).hs, .bool (narI i z).im]) ∧ Below W.heap.size W w' from pNar_any i z hvz W)
      have HAL := Lib.hid (fun W => show Calls Try.prog 65 #[.int .i64 z.v.1] W fun e w' => e = .returned (.agg #[.int .i64 (allI z.v.1).lo.1, .int .i64 (allI z.v.1).lo.2.1, .string (allI z.v.1).lo.2.2, .bool (allI z.v.1).ls, .int .i64 (allI z.v.1).hi.1, .int .i64 (allI z.v.1).hi.2.1, .string (allI z.v.1).hi.2.2, .bool (allI z.v.1).hs, .bool (allI z.v.1).im]) ∧ Below W.heap.size W w' from pAll_any z.v.1 W)
      have HEM := Lib.hid (fun i W => show Calls Try.prog 40 #[.agg #[.int .i64 i.lo.1, .int .i64 i.lo.2.1, .string i.lo.2.2, .bool i.ls, .int .i64 i.hi.1, .int .i64 i.hi.2.1, .string i.hi.2.2, .bool i.hs, .bool i.im]] W fun e w' => e = .returned (.bool (empI i)) ∧ Below W.heap.size W w' from pEmp_any i W)
      have b5 := bel_mk wr (.cells #[.int .i64 z.op, .int .i64 z.col, .int .i64 z.v.1, .int .i64 z.v.2.1, .string z.v.2.2] 62)
      have HW5 := Lib.hid (HW.out.below b5)
      have HZ := Lib.hid (Own.new wr 62 #[.int .i64 z.op, .int .i64 z.col, .int .i64 z.v.1, .int .i64 z.v.2.1, .string z.v.2.2])
      have hlk := HW5.out.2.1.look z.col hwz
      dsimp only at hlk
      clear hnk hvz hzk b5 hs2
      cases hM : M z.col with
      | none =>
        have HM := Lib.hid hM
        rw [hM] at hlk
        dsimp only [Option.getD, Option.isSome] at hlk
        unfold itvV zeroI nullP at hlk
        (try dsimp only at hlk)
        clear hM
        have HO7 := Lib.hid (show Own ((wr.alloc (.cells #[.int .i64 z.op, .int .i64 z.col, .int .i64 z.v.1, .int .i64 z.v.2.1, .string z.v.2.2] 62)).alloc (.cells #[.int .i64 0, .int .i64 0, .string ⟨#[]⟩, .bool false, .int .i64 0, .int .i64 0, .string ⟨#[]⟩, .bool false, .bool false] 70)) (wr.heap.size + 1) 70 #[.int .i64 0, .int .i64 0, .string ⟨#[]⟩, .bool false, .int .i64 0, .int .i64 0, .string ⟨#[]⟩, .bool false, .bool false] from Va.own_two _)
        have HOZ := Lib.hid (show Own ((wr.alloc (.cells #[.int .i64 z.op, .int .i64 z.col, .int .i64 z.v.1, .int .i64 z.v.2.1, .string z.v.2.2] 62)).alloc (.cells #[.int .i64 0, .int .i64 0, .string ⟨#[]⟩, .bool false, .int .i64 0, .int .i64 0, .string ⟨#[]⟩, .bool false, .bool false] 70)) wr.heap.size 62 #[.int .i64 z.op, .int .i64 z.col, .int .i64 z.v.1, .int .i64 z.v.2.1, .string z.v.2.2] from (Own.new wr _ _).alloc _)
        have HBW := Lib.hid (show Below wr.heap.size wr ((wr.alloc (.cells #[.int .i64 z.op, .int .i64 z.col, .int .i64 z.v.1, .int .i64 z.v.2.1, .string z.v.2.2] 62)).alloc (.cells #[.int .i64 0, .int .i64 0, .string ⟨#[]⟩, .bool false, .int .i64 0, .int .i64 0, .string ⟨#[]⟩, .bool false, .bool false] 70)) from (bel_mk wr _).trans ((bel_mk _ _).mono (by simp)))
        go_wp2_with fail
        with_reducible refine (HAL.out _).mono ?_
        rintro e' w7 ⟨rfl, hb⟩
        replace HO7 := Lib.hid (HO7.out.below hb HO7.out.lt)
        replace HOZ := Lib.hid (HOZ.out.below hb HOZ.out.lt)
        replace HBW := Lib.hid (HBW.out.trans (hb.mono HBW.out.size))
        clear hb
        have pc0 := HO7.out.cell 0
        have pc1 := HO7.out.cell 1
        have pc2 := HO7.out.cell 2
        have pc3 := HO7.out.cell 3
        have pc4 := HO7.out.cell 4
        have pc5 := HO7.out.cell 5
        have pc6 := HO7.out.cell 6
        have pc7 := HO7.out.cell 7
        have pc8 := HO7.out.cell 8
        have pf0 := HO7.out.free 0
        have pf1 := HO7.out.free 1
        have pf2 := HO7.out.free 2
        have pf3 := HO7.out.free 3
        have pf4 := HO7.out.free 4
        have pf5 := HO7.out.free 5
        have pf6 := HO7.out.free 6
        have pf7 := HO7.out.free 7
        have pf8 := HO7.out.free 8
        have pz0 := HOZ.out.cell 0
        have pz1 := HOZ.out.cell 1
        have pz2 := HOZ.out.cell 2
        have pz3 := HOZ.out.cell 3
        have pz4 := HOZ.out.cell 4
        have HNq := Lib.hid (HN.out (allI z.v.1))
        generalize allI z.v.1 = ia at *
        go_wp2_with fail
        clear pc0 pf0 pc1 pf1 pc2 pf2 pc3 pf3 pc4 pf4 pc5 pf5 pc6 pf6 pc7 pf7 pc8 pf8 pz0 pz1 pz2 pz3 pz4
        have hx := (((((((((HO7.out.store 0 (.int .i64 ia.lo.1)).store 1 (.int .i64 ia.lo.2.1)).store 2 (.string ia.lo.2.2)).store 3 (.bool ia.ls)).store 4 (.int .i64 ia.hi.1)).store 5 (.int .i64 ia.hi.2.1)).store 6 (.string ia.hi.2.2)).store 7 (.bool ia.hs)).store 8 (.bool ia.im))
        simp only [List.setIfInBounds_toArray, List.set_cons_zero, List.set_cons_succ] at hx
        replace HO7 := Lib.hid hx
        clear hx
        replace HOZ := Lib.hid (((((((((HOZ.out.far (p := ⟨wr.heap.size + 1, 0, none⟩) (by show wr.heap.size ≠ wr.heap.size + 1; omega) (.int .i64 ia.lo.1)).far (p := ⟨wr.heap.size + 1, 1, none⟩) (by show wr.heap.size ≠ wr.heap.size + 1; omega) (.int .i64 ia.lo.2.1)).far (p := ⟨wr.heap.size + 1, 2, none⟩) (by show wr.heap.size ≠ wr.heap.size + 1; omega) (.string ia.lo.2.2)).far (p := ⟨wr.heap.size + 1, 3, none⟩) (by show wr.heap.size ≠ wr.heap.size + 1; omega) (.bool ia.ls)).far (p := ⟨wr.heap.size + 1, 4, none⟩) (by show wr.heap.size ≠ wr.heap.size + 1; omega) (.int .i64 ia.hi.1)).far (p := ⟨wr.heap.size + 1, 5, none⟩) (by show wr.heap.size ≠ wr.heap.size + 1; omega) (.int .i64 ia.hi.2.1)).far (p := ⟨wr.heap.size + 1, 6, none⟩) (by show wr.heap.size ≠ wr.heap.size + 1; omega) (.string ia.hi.2.2)).far (p := ⟨wr.heap.size + 1, 7, none⟩) (by show wr.heap.size ≠ wr.heap.size + 1; omega) (.bool ia.hs)).far (p := ⟨wr.heap.size + 1, 8, none⟩) (by show wr.heap.size ≠ wr.heap.size + 1; omega) (.bool ia.im))
        replace HBW := Lib.hid (((((((((HBW.out.setCell (p := ⟨wr.heap.size + 1, 0, none⟩) (by show wr.heap.size ≤ wr.heap.size + 1; omega) (.int .i64 ia.lo.1)).setCell (p := ⟨wr.heap.size + 1, 1, none⟩) (by show wr.heap.size ≤ wr.heap.size + 1; omega) (.int .i64 ia.lo.2.1)).setCell (p := ⟨wr.heap.size + 1, 2, none⟩) (by show wr.heap.size ≤ wr.heap.size + 1; omega) (.string ia.lo.2.2)).setCell (p := ⟨wr.heap.size + 1, 3, none⟩) (by show wr.heap.size ≤ wr.heap.size + 1; omega) (.bool ia.ls)).setCell (p := ⟨wr.heap.size + 1, 4, none⟩) (by show wr.heap.size ≤ wr.heap.size + 1; omega) (.int .i64 ia.hi.1)).setCell (p := ⟨wr.heap.size + 1, 5, none⟩) (by show wr.heap.size ≤ wr.heap.size + 1; omega) (.int .i64 ia.hi.2.1)).setCell (p := ⟨wr.heap.size + 1, 6, none⟩) (by show wr.heap.size ≤ wr.heap.size + 1; omega) (.string ia.hi.2.2)).setCell (p := ⟨wr.heap.size + 1, 7, none⟩) (by show wr.heap.size ≤ wr.heap.size + 1; omega) (.bool ia.hs)).setCell (p := ⟨wr.heap.size + 1, 8, none⟩) (by show wr.heap.size ≤ wr.heap.size + 1; omega) (.bool ia.im))
        generalize hr : narI ia z = r at *
        with_reducible refine (HNq.out _).mono ?_
        rintro e' w8 ⟨rfl, hb⟩
        replace HO7 := Lib.hid (HO7.out.below hb HO7.out.lt)
        replace HOZ := Lib.hid (HOZ.out.below hb HOZ.out.lt)
        replace HBW := Lib.hid (HBW.out.trans (hb.mono HBW.out.size))
        clear hb
        have qc0 := HO7.out.cell 0
        have qc1 := HO7.out.cell 1
        have qc2 := HO7.out.cell 2
        have qc3 := HO7.out.cell 3
        have qc4 := HO7.out.cell 4
        have qc5 := HO7.out.cell 5
        have qc6 := HO7.out.cell 6
        have qc7 := HO7.out.cell 7
        have qc8 := HO7.out.cell 8
        have qf0 := HO7.out.free 0
        have qf1 := HO7.out.free 1
        have qf2 := HO7.out.free 2
        have qf3 := HO7.out.free 3
        have qf4 := HO7.out.free 4
        have qf5 := HO7.out.free 5
        have qf6 := HO7.out.free 6
        have qf7 := HO7.out.free 7
        have qf8 := HO7.out.free 8
        have qz0 := HOZ.out.cell 0
        have qz1 := HOZ.out.cell 1
        have qz2 := HOZ.out.cell 2
        have qz3 := HOZ.out.cell 3
        have qz4 := HOZ.out.cell 4
        have hx := (((((((((HO7.out.store 0 (.int .i64 r.lo.1)).store 1 (.int .i64 r.lo.2.1)).store 2 (.string r.lo.2.2)).store 3 (.bool r.ls)).store 4 (.int .i64 r.hi.1)).store 5 (.int .i64 r.hi.2.1)).store 6 (.string r.hi.2.2)).store 7 (.bool r.hs)).store 8 (.bool r.im))
        simp only [List.setIfInBounds_toArray, List.set_cons_zero, List.set_cons_succ] at hx
        replace HO7 := Lib.hid hx
        clear hx
        replace HOZ := Lib.hid (((((((((HOZ.out.far (p := ⟨wr.heap.size + 1, 0, none⟩) (by show wr.heap.size ≠ wr.heap.size + 1; omega) (.int .i64 r.lo.1)).far (p := ⟨wr.heap.size + 1, 1, none⟩) (by show wr.heap.size ≠ wr.heap.size + 1; omega) (.int .i64 r.lo.2.1)).far (p := ⟨wr.heap.size + 1, 2, none⟩) (by show wr.heap.size ≠ wr.heap.size + 1; omega) (.string r.lo.2.2)).far (p := ⟨wr.heap.size + 1, 3, none⟩) (by show wr.heap.size ≠ wr.heap.size + 1; omega) (.bool r.ls)).far (p := ⟨wr.heap.size + 1, 4, none⟩) (by show wr.heap.size ≠ wr.heap.size + 1; omega) (.int .i64 r.hi.1)).far (p := ⟨wr.heap.size + 1, 5, none⟩) (by show wr.heap.size ≠ wr.heap.size + 1; omega) (.int .i64 r.hi.2.1)).far (p := ⟨wr.heap.size + 1, 6, none⟩) (by show wr.heap.size ≠ wr.heap.size + 1; omega) (.string r.hi.2.2)).far (p := ⟨wr.heap.size + 1, 7, none⟩) (by show wr.heap.size ≠ wr.heap.size + 1; omega) (.bool r.hs)).far (p := ⟨wr.heap.size + 1, 8, none⟩) (by show wr.heap.size ≠ wr.heap.size + 1; omega) (.bool r.im))
        replace HBW := Lib.hid (((((((((HBW.out.setCell (p := ⟨wr.heap.size + 1, 0, none⟩) (by show wr.heap.size ≤ wr.heap.size + 1; omega) (.int .i64 r.lo.1)).setCell (p := ⟨wr.heap.size + 1, 1, none⟩) (by show wr.heap.size ≤ wr.heap.size + 1; omega) (.int .i64 r.lo.2.1)).setCell (p := ⟨wr.heap.size + 1, 2, none⟩) (by show wr.heap.size ≤ wr.heap.size + 1; omega) (.string r.lo.2.2)).setCell (p := ⟨wr.heap.size + 1, 3, none⟩) (by show wr.heap.size ≤ wr.heap.size + 1; omega) (.bool r.ls)).setCell (p := ⟨wr.heap.size + 1, 4, none⟩) (by show wr.heap.size ≤ wr.heap.size + 1; omega) (.int .i64 r.hi.1)).setCell (p := ⟨wr.heap.size + 1, 5, none⟩) (by show wr.heap.size ≤ wr.heap.size + 1; omega) (.int .i64 r.hi.2.1)).setCell (p := ⟨wr.heap.size + 1, 6, none⟩) (by show wr.heap.size ≤ wr.heap.size + 1; omega) (.string r.hi.2.2)).setCell (p := ⟨wr.heap.size + 1, 7, none⟩) (by show wr.heap.size ≤ wr.heap.size + 1; omega) (.bool r.hs)).setCell (p := ⟨wr.heap.size + 1, 8, none⟩) (by show wr.heap.size ≤ wr.heap.size + 1; omega) (.bool r.im))
        obtain ⟨w10, hrun, hm10, hg10, hz10⟩ := (HW.out.below HBW.out).2.1.put z.col hwz r
        have HNP := Lib.hid ((HW.out.below HBW.out).put hm10 hg10)
        have HO9 := Lib.hid (HO7.out.grownX hg10 (fun b hb => by injection hb with hb; have := HW.out.2.1.lt; omega))
        unfold itvV at hrun
        (try dsimp only at hrun)
        have gf0 := HNP.out.1.cell 0
        have gm0 := HNP.out.1.free 0
        have u0 := HO9.out.cell 0
        have u1 := HO9.out.cell 1
        have u2 := HO9.out.cell 2
        have u3 := HO9.out.cell 3
        have u4 := HO9.out.cell 4
        have u5 := HO9.out.cell 5
        have u6 := HO9.out.cell 6
        have u7 := HO9.out.cell 7
        have u8 := HO9.out.cell 8
        clear hm10 hg10 hz10 HO7 HOZ HBW HNq HN HAL HZ HW5 hwz
        cases fl
        · have HEq := Lib.hid (HEM.out r)
          generalize hem : empI r = em at *
          go_wp2_with fail
          with_reducible refine (HEq.out _).mono ?_
          rintro e' w11 ⟨rfl, hb⟩
          have HNR := Lib.hid (HNP.out.below hb)
          clear hb u0 u1 u2 u3 u4 u5 u6 u7 u8 gf0 gm0
          have gf1 := HNR.out.1.cell 0
          have gm1 := HNR.out.1.free 0
          have HNS := Lib.hid (HNR.out.flag em)
          go_wp2
          go_roundw
          case rel => exact ⟨k + 1, by omega, by go_num, Lib.hid (by rw [HNK.out, HM.out]; dsimp only [Option.getD]; rw [hr, hem]; exact HNS.out)⟩
          case measure => simp [intOf]; omega
        · have HNS := Lib.hid (HNP.out.flag true)
          go_wp2
          go_roundw
          case rel => exact ⟨k + 1, by omega, by go_num, Lib.hid (by rw [HNK.out, HM.out]; dsimp only [Option.getD]; rw [hr]; exact HNS.out)⟩
          case measure => simp [intOf]; omega
      | some ia =>
        have HM := Lib.hid hM
        rw [hM] at hlk
        dsimp only [Option.getD, Option.isSome] at hlk
        unfold itvV at hlk
        (try dsimp only at hlk)
        clear hM
        have HO7 := Lib.hid (show Own ((wr.alloc (.cells #[.int .i64 z.op, .int .i64 z.col, .int .i64 z.v.1, .int .i64 z.v.2.1, .string z.v.2.2] 62)).alloc (.cells #[.int .i64 ia.lo.1, .int .i64 ia.lo.2.1, .string ia.lo.2.2, .bool ia.ls, .int .i64 ia.hi.1, .int .i64 ia.hi.2.1, .string ia.hi.2.2, .bool ia.hs, .bool ia.im] 70)) (wr.heap.size + 1) 70 #[.int .i64 ia.lo.1, .int .i64 ia.lo.2.1, .string ia.lo.2.2, .bool ia.ls, .int .i64 ia.hi.1, .int .i64 ia.hi.2.1, .string ia.hi.2.2, .bool ia.hs, .bool ia.im] from Va.own_two _)
        have HOZ := Lib.hid (show Own ((wr.alloc (.cells #[.int .i64 z.op, .int .i64 z.col, .int .i64 z.v.1, .int .i64 z.v.2.1, .string z.v.2.2] 62)).alloc (.cells #[.int .i64 ia.lo.1, .int .i64 ia.lo.2.1, .string ia.lo.2.2, .bool ia.ls, .int .i64 ia.hi.1, .int .i64 ia.hi.2.1, .string ia.hi.2.2, .bool ia.hs, .bool ia.im] 70)) wr.heap.size 62 #[.int .i64 z.op, .int .i64 z.col, .int .i64 z.v.1, .int .i64 z.v.2.1, .string z.v.2.2] from (Own.new wr _ _).alloc _)
        have HBW := Lib.hid (show Below wr.heap.size wr ((wr.alloc (.cells #[.int .i64 z.op, .int .i64 z.col, .int .i64 z.v.1, .int .i64 z.v.2.1, .string z.v.2.2] 62)).alloc (.cells #[.int .i64 ia.lo.1, .int .i64 ia.lo.2.1, .string ia.lo.2.2, .bool ia.ls, .int .i64 ia.hi.1, .int .i64 ia.hi.2.1, .string ia.hi.2.2, .bool ia.hs, .bool ia.im] 70)) from (bel_mk wr _).trans ((bel_mk _ _).mono (by simp)))
        have HNq := Lib.hid (HN.out ia)
        generalize hr : narI ia z = r at *
        go_wp2_with fail
        with_reducible refine (HNq.out _).mono ?_
        rintro e' w8 ⟨rfl, hb⟩
        replace HO7 := Lib.hid (HO7.out.below hb HO7.out.lt)
        replace HOZ := Lib.hid (HOZ.out.below hb HOZ.out.lt)
        replace HBW := Lib.hid (HBW.out.trans (hb.mono HBW.out.size))
        clear hb
        have qc0 := HO7.out.cell 0
        have qc1 := HO7.out.cell 1
        have qc2 := HO7.out.cell 2
        have qc3 := HO7.out.cell 3
        have qc4 := HO7.out.cell 4
        have qc5 := HO7.out.cell 5
        have qc6 := HO7.out.cell 6
        have qc7 := HO7.out.cell 7
        have qc8 := HO7.out.cell 8
        have qf0 := HO7.out.free 0
        have qf1 := HO7.out.free 1
        have qf2 := HO7.out.free 2
        have qf3 := HO7.out.free 3
        have qf4 := HO7.out.free 4
        have qf5 := HO7.out.free 5
        have qf6 := HO7.out.free 6
        have qf7 := HO7.out.free 7
        have qf8 := HO7.out.free 8
        have qz0 := HOZ.out.cell 0
        have qz1 := HOZ.out.cell 1
        have qz2 := HOZ.out.cell 2
        have qz3 := HOZ.out.cell 3
        have qz4 := HOZ.out.cell 4
        have hx := (((((((((HO7.out.store 0 (.int .i64 r.lo.1)).store 1 (.int .i64 r.lo.2.1)).store 2 (.string r.lo.2.2)).store 3 (.bool r.ls)).store 4 (.int .i64 r.hi.1)).store 5 (.int .i64 r.hi.2.1)).store 6 (.string r.hi.2.2)).store 7 (.bool r.hs)).store 8 (.bool r.im))
        simp only [List.setIfInBounds_toArray, List.set_cons_zero, List.set_cons_succ] at hx
        replace HO7 := Lib.hid hx
        clear hx
        replace HOZ := Lib.hid (((((((((HOZ.out.far (p := ⟨wr.heap.size + 1, 0, none⟩) (by show wr.heap.size ≠ wr.heap.size + 1; omega) (.int .i64 r.lo.1)).far (p := ⟨wr.heap.size + 1, 1, none⟩) (by show wr.heap.size ≠ wr.heap.size + 1; omega) (.int .i64 r.lo.2.1)).far (p := ⟨wr.heap.size + 1, 2, none⟩) (by show wr.heap.size ≠ wr.heap.size + 1; omega) (.string r.lo.2.2)).far (p := ⟨wr.heap.size + 1, 3, none⟩) (by show wr.heap.size ≠ wr.heap.size + 1; omega) (.bool r.ls)).far (p := ⟨wr.heap.size + 1, 4, none⟩) (by show wr.heap.size ≠ wr.heap.size + 1; omega) (.int .i64 r.hi.1)).far (p := ⟨wr.heap.size + 1, 5, none⟩) (by show wr.heap.size ≠ wr.heap.size + 1; omega) (.int .i64 r.hi.2.1)).far (p := ⟨wr.heap.size + 1, 6, none⟩) (by show wr.heap.size ≠ wr.heap.size + 1; omega) (.string r.hi.2.2)).far (p := ⟨wr.heap.size + 1, 7, none⟩) (by show wr.heap.size ≠ wr.heap.size + 1; omega) (.bool r.hs)).far (p := ⟨wr.heap.size + 1, 8, none⟩) (by show wr.heap.size ≠ wr.heap.size + 1; omega) (.bool r.im))
        replace HBW := Lib.hid (((((((((HBW.out.setCell (p := ⟨wr.heap.size + 1, 0, none⟩) (by show wr.heap.size ≤ wr.heap.size + 1; omega) (.int .i64 r.lo.1)).setCell (p := ⟨wr.heap.size + 1, 1, none⟩) (by show wr.heap.size ≤ wr.heap.size + 1; omega) (.int .i64 r.lo.2.1)).setCell (p := ⟨wr.heap.size + 1, 2, none⟩) (by show wr.heap.size ≤ wr.heap.size + 1; omega) (.string r.lo.2.2)).setCell (p := ⟨wr.heap.size + 1, 3, none⟩) (by show wr.heap.size ≤ wr.heap.size + 1; omega) (.bool r.ls)).setCell (p := ⟨wr.heap.size + 1, 4, none⟩) (by show wr.heap.size ≤ wr.heap.size + 1; omega) (.int .i64 r.hi.1)).setCell (p := ⟨wr.heap.size + 1, 5, none⟩) (by show wr.heap.size ≤ wr.heap.size + 1; omega) (.int .i64 r.hi.2.1)).setCell (p := ⟨wr.heap.size + 1, 6, none⟩) (by show wr.heap.size ≤ wr.heap.size + 1; omega) (.string r.hi.2.2)).setCell (p := ⟨wr.heap.size + 1, 7, none⟩) (by show wr.heap.size ≤ wr.heap.size + 1; omega) (.bool r.hs)).setCell (p := ⟨wr.heap.size + 1, 8, none⟩) (by show wr.heap.size ≤ wr.heap.size + 1; omega) (.bool r.im))
        obtain ⟨w10, hrun, hm10, hg10, hz10⟩ := (HW.out.below HBW.out).2.1.put z.col hwz r
        have HNP := Lib.hid ((HW.out.below HBW.out).put hm10 hg10)
        have HO9 := Lib.hid (HO7.out.grownX hg10 (fun b hb => by injection hb with hb; have := HW.out.2.1.lt; omega))
        unfold itvV at hrun
        (try dsimp only at hrun)
        have gf0 := HNP.out.1.cell 0
        have gm0 := HNP.out.1.free 0
        have u0 := HO9.out.cell 0
        have u1 := HO9.out.cell 1
        have u2 := HO9.out.cell 2
        have u3 := HO9.out.cell 3
        have u4 := HO9.out.cell 4
        have u5 := HO9.out.cell 5
        have u6 := HO9.out.cell 6
        have u7 := HO9.out.cell 7
        have u8 := HO9.out.cell 8
        clear hm10 hg10 hz10 HO7 HOZ HBW HNq HN HAL HZ HW5 hwz
        cases fl
        · have HEq := Lib.hid (HEM.out r)
          generalize hem : empI r = em at *
          go_wp2_with fail
          with_reducible refine (HEq.out _).mono ?_
          rintro e' w11 ⟨rfl, hb⟩
          have HNR := Lib.hid (HNP.out.below hb)
          clear hb u0 u1 u2 u3 u4 u5 u6 u7 u8 gf0 gm0
          have gf1 := HNR.out.1.cell 0
          have gm1 := HNR.out.1.free 0
          have HNS := Lib.hid (HNR.out.flag em)
          go_wp2
          go_roundw
          case rel => exact ⟨k + 1, by omega, by go_num, Lib.hid (by rw [HNK.out, HM.out]; dsimp only [Option.getD]; rw [hr, hem]; exact HNS.out)⟩
          case measure => simp [intOf]; omega
        · have HNS := Lib.hid (HNP.out.flag true)
          go_wp2
          go_roundw
          case rel => exact ⟨k + 1, by omega, by go_num, Lib.hid (by rw [HNK.out, HM.out]; dsimp only [Option.getD]; rw [hr]; exact HNS.out)⟩
          case measure => simp [intOf]; omega
    · have hki : ¬ (k : Int) < zs.length := by omega
      have HWE := Lib.hid (show NevI w wr (w.heap.size + 1) gm (.slice Av zs.length cv) zs (zs.foldl nevS ((fun _ => none), b0)) from by have h := HW.out; rwa [List.take_of_length_le (by omega)] at h)
      clear HW
      have c0 := HWE.out.1.cell 0
      go_wp2
      go_ret
      exact ⟨rfl, HWE.out.2.2.2.2.2⟩
end Go.Proofs.Ythnmcpfmljibeaa
