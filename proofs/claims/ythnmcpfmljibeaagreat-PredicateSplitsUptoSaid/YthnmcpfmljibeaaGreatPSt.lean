import Derived.Test.YthnmcpfmljibeaaGreatRR
import Derived.Test.YthnmcpfmljibeaaGreatPS
import Derived.Test.YthnmcpfmljibeaaGreatPSa
import Derived.Test.YthnmcpfmljibeaaGreatPSb
import Derived.Test.YthnmcpfmljibeaaGreatPSc
import Derived.Test.YthnmcpfmljibeaaGreatPSd
import Derived.WalkKit
import Derived.WalkSpells
import Derived.WalkLawsBesides
import Derived.Deep.QuietTactic
import Derived.BigQuiet
import Derived.Handy
import Derived.Lib.Hide
/-
  Three lists of trees that grow beside each other. Conditions: lengths.
-/
namespace Go.Proofs.YthnmcpfmljibeaaGreat
set_option maxRecDepth 100000
set_option linter.unusedVariables false
set_option linter.unusedSimpArgs false
open Go.RowKit

theorem RdE.keep {w w' : World} {L B : Nat} (hk : ∀ b, L ≤ b → b < B → w'.heap[b]? = w.heap[b]?) : ∀ {d : Nat} {u : Value} {es : List Ex}, RdE w L B d u es → RdE w' L B d u es
  | 0, _, _, h => h
  | d + 1, u, es, ⟨A, c, hv, hl, hc⟩ => ⟨A, c, hv, hl, fun k e hk2 => by
      obtain ⟨ad, x, h1, h2, h3, h4, h5⟩ := hc k e hk2
      have hq : ∀ a : Addr, a.block = ad.block → w'.cell? a = w.cell? a := fun a ha => World.cell?_of_block (by rw [ha]; exact hk _ h2 h3)
      have hk7 : ∀ i, (⟨(ad.add (k * 7)).block, (ad.add (k * 7)).off + i, none⟩ : Addr).block = ad.block := fun i => add_blk ad (k * 7)
      obtain ⟨q0, q1, q2, q3, q4, q5, q6⟩ := h4
      exact ⟨ad, x, h1, h2, h3, ⟨(hq _ (add_blk ad (k * 7))).trans q0, (hq _ (hk7 1)).trans q1, (hq _ (hk7 2)).trans q2, (hq _ (hk7 3)).trans q3, (hq _ (hk7 4)).trans q4, (hq _ (hk7 5)).trans q5, (hq _ (hk7 6)).trans q6⟩, RdE.keep hk h5⟩⟩
theorem own_keep {w w' : World} {base n sz : Nat} {t : TypeId} {v : Value} {xs : List Value} (h : w.ownsRow base t sz v n xs) (hk : ∀ b, v.ownBlock = some b → w'.heap[b]? = w.heap[b]?) : w'.ownsRow base t sz v n xs := by
  refine ⟨h.1, ?_⟩
  rcases h.2 with h0 | ⟨g, cap, cur, rfl, hb, hh, hr⟩
  · exact .inl h0
  · exact .inr ⟨g, cap, cur, rfl, hb, (hk g rfl).trans hh, hr⟩
/-- Trees above base, beside the blocks X. -/
def K3 (w : World) (base : Nat) (X : Nat → Prop) (d : Nat) (ps : List ExU) : Prop := ∀ p ∈ ps, ∃ Lp Bp, RdE w Lp Bp d p.2 p.1.args ∧ Bp ≤ w.heap.size ∧ base ≤ Lp ∧ ∀ b, X b → b < Lp ∨ Bp ≤ b
/-- The three lists, their rows and their trees. -/
structure R3v (w : World) (g base d : Nat) (v : Nat → Value) (ps : Nat → List ExU) : Prop where
  box : ∀ i, i < 3 → Own w (g + i) 24 #[v i]
  row : ∀ i, i < 3 → w.ownsRow base 26 7 (v i) (ps i).length (flatE (ps i))
  kid : ∀ i, i < 3 → K3 w base (fun b => ∃ j, j < 3 ∧ (v j).ownBlock = some b) d (ps i)
  apart : ∀ i j, i < 3 → j < 3 → i ≠ j → ∀ b, (v i).ownBlock = some b → (v j).ownBlock ≠ some b
theorem R3v.below {w w' : World} {g base d : Nat} {v : Nat → Value} {ps : Nat → List ExU} (h : R3v w g base d v ps) (hb : Below w.heap.size w w') : R3v w' g base d v ps :=
  ⟨fun i hi => (h.box i hi).below hb (h.box i hi).lt, fun i hi => own_below (h.row i hi) hb, fun i hi p hp => by
    obtain ⟨Lp, Bp, h1, h2, h3, h4⟩ := h.kid i hi p hp
    exact ⟨Lp, Bp, h1.below (hb.mono h2), Nat.le_trans h2 hb.size, h3, h4⟩, h.apart⟩
theorem R3v.upd {W w' : World} {g base d i : Nat} {v : Nat → Value} {ps : Nat → List ExU} {e : Ex} (h : R3v W g base d v ps) (hi : i < 3) (hu : UpdX W w' (g + i) base d (v i) (ps i) e) (hgb : g + 3 ≤ base) (hbz : base ≤ W.heap.size) :
    ∃ (v' : Nat → Value) (ps' : Nat → List ExU), R3v w' g base d v' ps' ∧ (∀ j, j ≠ i → ps' j = ps j) ∧ (ps' i).map (·.1) = (ps i).map (·.1) ++ [e] := by
  obtain ⟨vn, p, hpe, hown, hrow, hkid, hfresh, hkeep, hbel⟩ := hu
  have hlt := fun j (hj : j < 3) b (hb : (v j).ownBlock = some b) => (h.row j hj).lt b hb
  refine ⟨fun j => if j = i then vn else v j, fun j => if j = i then ps i ++ [p] else ps j, ⟨fun j hj => ?_, fun j hj => ?_, fun j hj => ?_, fun j k hj hk hjk b hb => ?_⟩, fun j hj => if_neg hj, by dsimp only; rw [if_pos rfl, List.map_append, ← hpe]; rfl⟩
  · by_cases e1 : j = i
    · subst e1; rw [if_pos rfl]; exact hown
    · rw [if_neg e1]
      have h1 := h.box j hj
      exact (hkeep (g + j) h1.lt (by omega) (fun hb => by have := hlt i hi _ hb; omega)).trans h1
  · by_cases e1 : j = i
    · subst e1; rw [if_pos rfl, if_pos rfl]; exact hrow
    · rw [if_neg e1, if_neg e1]
      exact own_keep (h.row j hj) fun b hb => hkeep b (hlt j hj b hb).2 (by have := hlt j hj b hb; omega) (h.apart j i hj hi e1 b hb)
  · have old : ∀ q ∈ ps j, ∃ Lp Bp, RdE w' Lp Bp d q.2 q.1.args ∧ Bp ≤ w'.heap.size ∧ base ≤ Lp ∧ ∀ b, (∃ k, k < 3 ∧ (if k = i then vn else v k).ownBlock = some b) → b < Lp ∨ Bp ≤ b := fun q hq => by
      obtain ⟨Lp, Bp, h1, h2, h3, h4⟩ := h.kid j hj q hq
      refine ⟨Lp, Bp, h1.keep fun b hb1 hb2 => hkeep b (by omega) (by omega) (fun hb => by have := h4 b ⟨i, hi, hb⟩; omega), Nat.le_trans h2 hbel.size, h3, fun b ⟨k, hk, hb⟩ => ?_⟩
      by_cases e2 : k = i
      · rw [if_pos e2] at hb
        rcases hfresh b hb with h5 | h5
        · exact h4 b ⟨i, hi, h5⟩
        · exact .inr (by omega)
      · rw [if_neg e2] at hb
        exact h4 b ⟨k, hk, hb⟩
    by_cases e1 : j = i
    · subst e1
      rw [if_pos rfl]
      intro q hq
      rcases List.mem_append.1 hq with hq | hq
      · exact old q hq
      · obtain ⟨Lp, Bp, h1, h2, h3, h4⟩ := hkid q hq
        refine ⟨Lp, Bp, h1, h2, by omega, fun b ⟨k, hk, hb⟩ => ?_⟩
        by_cases e2 : k = j
        · rw [if_pos e2] at hb
          exact h4 b hb
        · rw [if_neg e2] at hb
          have := hlt k hk b hb
          exact .inl (by omega)
    · rw [if_neg e1]
      exact old
  · by_cases e1 : j = i
    · rw [if_pos e1] at hb
      have e2 : k ≠ i := fun e2 => hjk (e1.trans e2.symm)
      rw [if_neg e2]
      intro hb2
      rcases hfresh b hb with h5 | h5
      · exact h.apart i k hi hk (Ne.symm e2) b h5 hb2
      · have := hlt k hk b hb2; omega
    · rw [if_neg e1] at hb
      by_cases e2 : k = i
      · rw [if_pos e2]
        intro hb2
        rcases hfresh b hb2 with h5 | h5
        · exact h.apart j i hj hi e1 b hb h5
        · have := hlt j hj b hb; omega
      · rw [if_neg e2]
        exact h.apart j k hj hk hjk b hb
/-- One of the lists, as it is returned. -/
theorem R3v.list {w : World} {g base d i : Nat} {v : Nat → Value} {ps : Nat → List ExU} (h : R3v w g base d v ps) (hi : i < 3) (hl : (ps i).length ≤ 1099511627776) : RdE w base w.heap.size (d + 1) (v i) ((ps i).map (·.1)) :=
  rdE_own (h.row i hi) hl fun p hp => by
    obtain ⟨Lp, Bp, h1, h2, h3, h4⟩ := h.kid i hi p hp
    exact ⟨Lp, Bp, h1, h2, h3, fun b hb => h4 b ⟨i, hi, hb⟩⟩
/-- The three lists, by their trees. -/
def R3 (w : World) (g base d : Nat) (Z : Nat → List Ex) : Prop := ∃ v ps, R3v w g base d v ps ∧ ∀ i, i < 3 → (ps i).map (·.1) = Z i
theorem R3.below {w w' : World} {g base d : Nat} {Z : Nat → List Ex} (h : R3 w g base d Z) (hb : Below w.heap.size w w') : R3 w' g base d Z := by
  obtain ⟨v, ps, h1, h2⟩ := h
  exact ⟨v, ps, h1.below hb, h2⟩
theorem R3.start {w : World} {g base d : Nat} (h : ∀ i, i < 3 → Own w (g + i) 24 #[.slice none 0 0]) : R3 w g base d (fun _ => []) :=
  ⟨fun _ => .slice none 0 0, fun _ => [], ⟨h, fun _ _ => World.ownsRow_nil _ _ _ 7, fun _ _ p hp => (by cases hp), fun _ _ _ _ _ b hb => (by cases hb)⟩, fun _ _ => rfl⟩
/-- The closure of Split. -/
theorem pSpl_any (d : Nat) (e : Ex) (u : Value) (n0 : Int) (gn ga base L : Nat) (Z : Nat → List Ex) (W : World) (hu : RdE W L W.heap.size d u e.args) (hn : Own W gn 3 #[.int .i64 n0]) (hR : R3 W ga base (d + 1) Z) (hgb : ga + 3 ≤ base) (hbz : base ≤ W.heap.size) (hl : ∀ i, i < 3 → (Z i).length ≤ 1099511627776) (hcol : (colE d e).length ≤ 1099511627776) :
    Calls Tryz.prog 75 #[exV e u, .pointer (some ⟨gn, 0, none⟩), .pointer (some ⟨ga, 0, none⟩), .pointer (some ⟨ga + 1, 0, none⟩), .pointer (some ⟨ga + 1 + 1, 0, none⟩)] W fun e' w' => e' = .returned (.tuple #[]) ∧ R3 w' ga base (d + 1) (fun i => Z i ++ (if sidL n0 (colS (colE d e)) = i then [e] else [])) ∧ Below ga W w' := by
  obtain ⟨v, ps, hR, hZ⟩ := hR
  have hps : ∀ i, i < 3 → (ps i).length ≤ 1099511627776 := fun i hi => by have := hl i hi; rw [← hZ i hi, List.length_map] at this; exact this
  have fin : ∀ i, i < 3 → sidL n0 (colS (colE d e)) = i → ∀ w', UpdX W w' (ga + i) base (d + 1) (v i) (ps i) e → R3 w' ga base (d + 1) (fun j => Z j ++ (if sidL n0 (colS (colE d e)) = j then [e] else [])) ∧ Below ga W w' := fun i hi hs w' hu => by
    obtain ⟨v', ps', h1, h2, h3⟩ := hR.upd hi hu hgb hbz
    refine ⟨⟨v', ps', h1, fun j hj => ?_⟩, ?_⟩
    · dsimp only
      rw [hs]
      by_cases e1 : j = i
      · subst e1; rw [if_pos rfl, h3, hZ j hj]
      · rw [if_neg (fun e2 => e1 e2.symm), List.append_nil, h2 j e1, hZ j hj]
    · obtain ⟨_, _, _, _, _, _, _, _, hb⟩ := hu
      exact hb.mono (by omega)
  have hlt : ∀ i, i < 3 → ga + i < base := fun i hi => by omega
  generalize hs : colS (colE d e) = l at *
  by_cases h0 : l = []
  · refine (pSp0_any d e u n0 gn ga (ga + 1) (ga + 1 + 1) base L (v 0) (ps 0) l W hu hn (hR.box 0 (by decide)) (hR.row 0 (by decide)) (hlt 0 (by decide)) hbz (hps 0 (by decide)) hcol hs h0).mono fun e' w' ⟨h1, h2⟩ => ⟨h1, fin 0 (by decide) (by unfold sidL; rw [if_pos h0]) w' h2⟩
  · by_cases h1 : l.getLastD 0 < n0
    · refine (pSp1_any d e u n0 gn ga (ga + 1) (ga + 1 + 1) base L (v 0) (ps 0) l W hu hn (hR.box 0 (by decide)) (hR.row 0 (by decide)) (hlt 0 (by decide)) hbz (hps 0 (by decide)) hcol hs h1 h0).mono fun e' w' ⟨h2, h3⟩ => ⟨h2, fin 0 (by decide) (by unfold sidL; rw [if_neg h0, if_pos h1]) w' h3⟩
    · by_cases h2 : n0 ≤ l.headD 0
      · refine (pSp2_any d e u n0 gn ga (ga + 1) (ga + 1 + 1) base L (v 1) (ps 1) l W hu hn (hR.box 1 (by decide)) (hR.row 1 (by decide)) (hlt 1 (by decide)) hbz (hps 1 (by decide)) hcol hs h1 h0 h2).mono fun e' w' ⟨h3, h4⟩ => ⟨h3, fin 1 (by decide) (by unfold sidL; rw [if_neg h0, if_neg h1, if_pos h2]) w' h4⟩
      · refine (pSp3_any d e u n0 gn ga (ga + 1) (ga + 1 + 1) base L (v 2) (ps 2) l W hu hn (hR.box 2 (by decide)) (hR.row 2 (by decide)) (hlt 2 (by decide)) hbz (hps 2 (by decide)) hcol hs h1 h0 h2).mono fun e' w' ⟨h3, h4⟩ => ⟨h3, fin 2 (by decide) (by unfold sidL; rw [if_neg h0, if_neg h1, if_neg h2]) w' h4⟩
end Go.Proofs.YthnmcpfmljibeaaGreat
/-
  Split, of the program. Conditions: lengths, a bounded depth.
-/
namespace Go.Proofs.YthnmcpfmljibeaaGreat
set_option maxRecDepth 100000
set_option linter.unusedVariables false
set_option linter.unusedSimpArgs false
open Go.RowKit

def sidE (n0 : Int) (d : Nat) (x : Ex) : Nat := sidL n0 (colS (colE d x))
/-- The conjuncts on one side. -/
def onS (n0 : Int) (d : Nat) (zs : List Ex) (i : Nat) : List Ex := zs.filter fun x => sidE n0 d x == i
theorem onS_snoc (n0 : Int) (d : Nat) (zs : List Ex) (c : Ex) (i : Nat) : onS n0 d (zs ++ [c]) i = onS n0 d zs i ++ (if sidL n0 (colS (colE d c)) = i then [c] else []) := by
  unfold onS
  rw [List.filter_append]
  refine congrArg (List.filter (fun x => sidE n0 d x == i) zs ++ ·) ?_
  by_cases h : sidL n0 (colS (colE d c)) = i
  · rw [if_pos h]
    simp [sidE, h]
  · rw [if_neg h]
    simp [sidE, h]
theorem onS_le (n0 : Int) (d : Nat) (zs : List Ex) (i : Nat) : (onS n0 d zs i).length ≤ zs.length := List.length_filter_le _ _
set_option maxRecDepth 100000 in
set_option maxHeartbeats 6400000 in
theorem pSplit_any (d : Nat) (n0 : Int) (e : Ex) (u : Value) (w : World) (L : Nat) (h : RdE w L w.heap.size d u e.args) (hl : (conjE d e).length ≤ 1099511627776) (hcols : ∀ x ∈ conjE d e, (colE d x).length ≤ 1099511627776) :
    Calls Tryz.prog 24 #[exV e u, .int .i64 n0] w fun e' w' => ∃ A0 c0 A1 c1 A2 c2, e' = .returned (.tuple #[.slice A0 (onS n0 d (conjE d e) 0).length c0, .slice A1 (onS n0 d (conjE d e) 1).length c1, .slice A2 (onS n0 d (conjE d e) 2).length c2]) ∧ RdE w' w.heap.size w'.heap.size (d + 2) (.slice A0 (onS n0 d (conjE d e) 0).length c0) (onS n0 d (conjE d e) 0) ∧ RdE w' w.heap.size w'.heap.size (d + 2) (.slice A1 (onS n0 d (conjE d e) 1).length c1) (onS n0 d (conjE d e) 1) ∧ RdE w' w.heap.size w'.heap.size (d + 2) (.slice A2 (onS n0 d (conjE d e) 2).length c2) (onS n0 d (conjE d e) 2) ∧ Below w.heap.size w w' := by
  obtain ⟨A, c, rfl, _⟩ := h.slice
  have b1 := bel_mk w (.cells (exA e (.slice A e.args.length c)) 26)
  have b2 := bel_mk (w.alloc (.cells (exA e (.slice A e.args.length c)) 26)) (.cells #[.int .i64 n0] 3)
  generalize hW2 : (w.alloc (.cells (exA e (.slice A e.args.length c)) 26)).alloc (.cells #[.int .i64 n0] 3) = W2 at *
  have hz2 : W2.heap.size = w.heap.size + 1 + 1 := by rw [← hW2]; simp only [World.size_alloc]
  have b3 := bel_mk W2 (.cells #[.slice none 0 0] 24)
  have b4 := bel_mk (W2.alloc (.cells #[.slice none 0 0] 24)) (.cells #[.slice none 0 0] 24)
  have b5 := bel_mk ((W2.alloc (.cells #[.slice none 0 0] 24)).alloc (.cells #[.slice none 0 0] 24)) (.cells #[.slice none 0 0] 24)
  have o3 := ((Own.new W2 24 #[.slice none 0 0]).alloc (.cells #[.slice none 0 0] 24)).alloc (.cells #[.slice none 0 0] 24)
  have o4 := (Own.new (W2.alloc (.cells #[.slice none 0 0] 24)) 24 #[.slice none 0 0]).alloc (.cells #[.slice none 0 0] 24)
  have o5 := Own.new ((W2.alloc (.cells #[.slice none 0 0] 24)).alloc (.cells #[.slice none 0 0] 24)) 24 #[.slice none 0 0]
  have B12 : Below w.heap.size w W2 := b1.trans (b2.mono b1.size)
  have hn : Own W2 (w.heap.size + 1) 3 #[.int .i64 n0] := by rw [← hW2]; exact Va.own_two _
  have he : Own W2 w.heap.size 26 (exA e (.slice A e.args.length c)) := by rw [← hW2]; exact (Own.new w _ _).alloc _
  have hr2 : RdE W2 L (w.heap.size + 1 + 1) d (.slice A e.args.length c) e.args := by rw [← hz2]; exact h.step B12 (Nat.le_refl _)
  simp only [World.size_alloc] at o3 o4 o5 b4 b5
  generalize hW5 : ((W2.alloc (.cells #[.slice none 0 0] 24)).alloc (.cells #[.slice none 0 0] 24)).alloc (.cells #[.slice none 0 0] 24) = W5 at *
  have B25 : Below W2.heap.size W2 W5 := b3.trans ((b4.mono (by omega)).trans (b5.mono (by omega)))
  have hz5 : W5.heap.size = w.heap.size + 5 := by rw [← hW5]; simp only [World.size_alloc, hz2]
  rw [hz2] at o3 o4 o5 B25
  have hr5 := hr2.below B25
  have HV := Lib.hid (pVisP_any 75 #[.pointer (some ⟨w.heap.size + 1, 0, none⟩), .pointer (some ⟨w.heap.size + 1 + 1, 0, none⟩), .pointer (some ⟨w.heap.size + 1 + 1 + 1, 0, none⟩), .pointer (some ⟨w.heap.size + 1 + 1 + 1 + 1, 0, none⟩)]
    (fun zs W => R3 W (w.heap.size + 1 + 1) (w.heap.size + 5) (d + 1) (onS n0 d zs) ∧ Below (w.heap.size + 1 + 1) W5 W)
    W5 (w.heap.size + 1 + 1) L d (conjE d e) (by omega) (fun _ _ => rfl) (fun zs W h => h.2)
    (fun zs W W' ⟨hr, hb⟩ hb2 => ⟨hr.below hb2, hb.trans (hb2.mono (by have := hb.size; omega))⟩)
    (fun zs c2 u2 d2 W hd ⟨hR, hb⟩ ⟨t, hT⟩ hr => by
      have hs := hb.size
      have hm : c2 ∈ conjE d e := by rw [hT]; simp
      have hlz : zs.length ≤ 1099511627776 := by have := congrArg List.length hT; simp only [List.length_append] at this; omega
      refine (pSpl_any d c2 u2 n0 (w.heap.size + 1) (w.heap.size + 1 + 1) (w.heap.size + 5) L (onS n0 d zs) W (((hr.below hb).more (by omega) (Nat.le_refl _)).up hd) ((hn.below B25 (by omega)).below hb (by omega)) hR (by omega) (by omega) (fun i _ => Nat.le_trans (onS_le n0 d zs i) hlz) (hcols c2 hm)).mono ?_
      rintro e' w' ⟨h1, h2, h3⟩
      refine ⟨h1, ?_, hb.trans h3⟩
      have hf : onS n0 d (zs ++ [c2]) = fun i => onS n0 d zs i ++ (if sidL n0 (colS (colE d c2)) = i then [c2] else []) := funext fun i => onS_snoc n0 d zs c2 i
      rw [hf]
      exact h2)
    d (Nat.le_refl _) e (.slice A e.args.length c) [] W5 ⟨R3.start (fun i hi => by
      match i, hi with
      | 0, _ => exact o3
      | 1, _ => exact o4
      | 2, _ => exact o5), Below.refl _ _⟩ hr5 ⟨[], by simp⟩)
  have HL := Lib.hid hl
  have HB := Lib.hid (B12.trans (B25.mono (by omega)))
  have HE := Lib.hid (he.below B25 (by omega))
  clear b1 b2 b3 b4 b5 o3 o4 o5 B12 B25 hn he hr2 hr5 h hl hcols hz5 hz2
  rw [List.nil_append] at HV
  generalize hzs : conjE d e = zs at *
  clear hzs
  subst hW5 hW2
  unfold exV exA at *
  have e0 := HE.out.cell 0
  have e1 := HE.out.cell 1
  have e2 := HE.out.cell 2
  have e3 := HE.out.cell 3
  have e4 := HE.out.cell 4
  have e5 := HE.out.cell 5
  have e6 := HE.out.cell 6
  go_enter Tryz.func24, Tryz.ntmps24
  go_wp2_with fail
  with_reducible refine HV.out.mono ?_
  rintro e' w2 ⟨rfl, ⟨v, ps, hR, hZ⟩, hb2⟩
  have HB2 := Lib.hid (HB.out.trans (hb2.mono (by omega)))
  have g0 : Own w2 (w.heap.size + 1 + 1) 24 #[v 0] := hR.box 0 (by decide)
  have g1 : Own w2 (w.heap.size + 1 + 1 + 1) 24 #[v 1] := hR.box 1 (by decide)
  have g2 : Own w2 (w.heap.size + 1 + 1 + 1 + 1) 24 #[v 2] := hR.box 2 (by decide)
  have hlen : ∀ i, i < 3 → (ps i).length ≤ 1099511627776 := fun i hi => by
    have h1 := onS_le n0 d zs i
    have h2 := congrArg List.length (hZ i hi)
    rw [List.length_map] at h2
    have h3 := HL.out
    omega
  have r0 := hR.list (i := 0) (by decide) (hlen 0 (by decide))
  have r1 := hR.list (i := 1) (by decide) (hlen 1 (by decide))
  have r2 := hR.list (i := 2) (by decide) (hlen 2 (by decide))
  rw [hZ 0 (by decide)] at r0
  rw [hZ 1 (by decide)] at r1
  rw [hZ 2 (by decide)] at r2
  have f0 := after_cell (W := w2) (a := ⟨w.heap.size + 1 + 1, 0, none⟩) g0.lt (g0.cell 0)
  have f1 := after_cell (W := w2) (a := ⟨w.heap.size + 1 + 1 + 1, 0, none⟩) g1.lt (g1.cell 0)
  have f2 := after_cell (W := w2) (a := ⟨w.heap.size + 1 + 1 + 1 + 1, 0, none⟩) g2.lt (g2.cell 0)
  generalize v 0 = v0 at *
  generalize v 1 = v1 at *
  generalize v 2 = v2 at *
  clear hR hZ hlen g0 g1 g2 e0 e1 e2 e3 e4 e5 e6 HV HE HB hb2 HL
  have R0 := Lib.hid r0
  have R1 := Lib.hid r1
  have R2 := Lib.hid r2
  obtain ⟨A0, c0, rfl, _⟩ := r0.slice
  obtain ⟨A1, c1, rfl, _⟩ := r1.slice
  obtain ⟨A2, c2, rfl, _⟩ := r2.slice
  clear r0 r1 r2
  go_wp2_with fail
  (refine wp_region_after (by kernel_rfl) (by kernel_rfl) ?_; (repeat (go_big_quiet_step (fail))); refine wpQuiet_nil ?_; intro wq hw0; obtain ⟨⟨wq0, hbq⟩, hw1⟩ := hw0; subst hw1; (try dsimp only))
  have HBQ := Lib.hid (HB2.out.trans (hbq.mono HB2.out.size))
  have Q0 := Lib.hid (R0.out.step hbq (Nat.le_refl _))
  have Q1 := Lib.hid (R1.out.step hbq (Nat.le_refl _))
  have Q2 := Lib.hid (R2.out.step hbq (Nat.le_refl _))
  clear hbq f0 f1 f2 HB2 R0 R1 R2
  go_wp2
  (try simp only [Exit.inBlock, Exit.then]); refine bodyPost_ret (results_tmp3 rfl _ _ _) rfl ?_
  exact ⟨_, _, _, _, _, _, rfl, Q0.out.more (Nat.le_refl _) (show w.heap.size ≤ w.heap.size + 5 by omega), Q1.out.more (Nat.le_refl _) (show w.heap.size ≤ w.heap.size + 5 by omega), Q2.out.more (Nat.le_refl _) (show w.heap.size ≤ w.heap.size + 5 by omega), HBQ.out⟩
end Go.Proofs.YthnmcpfmljibeaaGreat
