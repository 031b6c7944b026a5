import Derived.Test.YtnbeopkpkagjmaaGreatRV
import Derived.Test.YtnbeopkpkagjmaaGreatRCh
import Derived.Test.YtnbeopkpkagjmaaGreatRSo
import Derived.Test.YtnbeopkpkagjmaaGreatRC
import Derived.WalkKit
import Derived.WalkSpells
import Derived.WalkLawsBesides
import Derived.Deep.QuietTactic
import Derived.BigQuiet
import Derived.Handy
import Derived.Lib.Hide
/-
  What strips keeps between two bounds: the open valid times of both lists, in rows of its own; the visitor's state beside them. Conditions: none.
-/
namespace Go.Proofs.YtnbeopkpkagjmaaGreat
set_option maxRecDepth 100000
set_option linter.unusedVariables false
set_option linter.unusedSimpArgs false
open Go.RowKit

def Apart2 (u v : Value) : Prop := ∀ g, u.ownBlock = some g → v.ownBlock ≠ some g
theorem add_more (a : Addr) (i n : Nat) (h : 0 < n) : a.add (i + n) = ⟨(a.add i).block, (a.add i).off + n, none⟩ := by
  unfold Addr.add
  by_cases h0 : i = 0
  · subst h0; simp; omega
  · simp [h0, Nat.add_assoc]
theorem bndR_in {j : Int} {l : List Rc} {d : Bo} (h : d ∈ bndR j l) : d.2.1 = j := by
  unfold bndR at h
  obtain ⟨r, _, hr⟩ := List.mem_flatMap.1 h
  split at hr
  · simp at hr
    rcases hr with rfl | rfl <;> rfl
  · simp at hr
theorem Swp.list {a b : List Rc} {D : List Bo} (h : Swp a b D) {k : Nat} {d : Bo} (hk : D[k]? = some d) : d.2.1 = 0 ∨ d.2.1 = 1 := by
  have hm := h.prm.mem_iff.1 (List.mem_of_getElem? hk)
  rcases List.mem_append.1 hm with hm | hm
  · exact .inl (bndR_in hm)
  · exact .inr (bndR_in hm)
theorem Swp.len {a b : List Rc} {D : List Bo} (h : Swp a b D) : D.length ≤ 2 * (a.length + b.length) := by
  have h1 := bndR_len 0 a
  have h2 := bndR_len 1 b
  rw [h.prm.length_eq, List.length_append]; omega
theorem opn_step (j : Int) {D : List Bo} {k : Nat} {d : Bo} (h : D[k]? = some d) : opn j (D.take (k + 1)) = ostep j (opn j (D.take k)) d := by
  obtain ⟨hlt, rfl⟩ := List.getElem?_eq_some_iff.1 h
  rw [List.take_succ_eq_append_getElem hlt, opn_snoc]
theorem own_apart {w : World} {base e size n : Nat} {v : Value} {xs : List Value} (h : w.ownsRow base e size v n xs) {g : Nat} {t : TypeId} {cs : Array Value} (ho : Own w g t cs) (hne : e ≠ t) : v.ownBlock = none ∨ v.ownBlock ≠ some g := by
  rcases h.2 with ⟨rfl, _⟩ | ⟨g', cap, cur, rfl, _, hh, _⟩
  · exact .inl rfl
  · right
    intro e2
    have e3 : g' = g := by simpa [Value.ownBlock] using e2
    subst e3
    unfold Own at ho
    rw [ho] at hh
    injection hh with hh
    injection hh with _ hh
    exact hne hh.symm
theorem Own.grown {w w' : World} {g : Nat} {t : TypeId} {cs : Array Value} (h : Own w g t cs) {row : Option Nat} (hg : w.grownBy w' row) (hne : row = none ∨ row ≠ some g) : Own w' g t cs := by
  have hlt := h.lt
  unfold Own at h ⊢
  rw [hg.block g hlt (by rintro rfl; rcases hne with e | e <;> first | (cases e; done) | exact e rfl)]
  exact h
/-- Behind k bounds, with zs visited. -/
structure StI (N F h9 U0 : Nat) (cs : Array Value) (R : List St2 → (Nat → Prop) → World → Prop) (D : List Bo) (vD : Value) (k : Nat) (zs : List St2) (P : Nat → Prop) (o0 o1 : Value) (W : World) : Prop where
  bx : Own W h9 82 #[o0, o1]
  r0 : W.ownsRow U0 33 2 o0 (opn 0 (D.take k)).length (flatP (opn 0 (D.take k)))
  r1 : W.ownsRow U0 33 2 o1 (opn 1 (D.take k)).length (flatP (opn 1 (D.take k)))
  ap : Apart2 o0 o1
  rel : R zs P W
  pu : ∀ g, P g → U0 ≤ g
  p0 : ∀ g, o0.ownBlock = some g → ¬ P g
  p1 : ∀ g, o1.ownBlock = some g → ¬ P g
  rd : RdO W N h9 vD D
  size : U0 ≤ W.heap.size
  lo : N ≤ h9
  hi : h9 < U0
section
variable {N F h9 U0 : Nat} {cs : Array Value} {R : List St2 → (Nat → Prop) → World → Prop} {D : List Bo} {vD : Value} {k : Nat} {zs : List St2} {P : Nat → Prop} {o0 o1 : Value} {W W' : World}
theorem RdO.grown {w w' : World} {L B : Nat} {v : Value} {l : List Bo} {row : Option Nat} (h : RdO w L B v l) (hB : B ≤ w.heap.size) (hg : w.grownBy w' row) (hr : ∀ g, row = some g → B ≤ g) : RdO w' L B v l := by
  obtain ⟨A, c, hv, hl, hc⟩ := h
  refine ⟨A, c, hv, hl, fun k n hk => ?_⟩
  obtain ⟨ad, h1, h0, h2, h3, h4, h5, h6, h7⟩ := hc k n hk
  have g := fun j => World.grownBy.cell_far hg (ad.add j) (by rw [add_block]; omega) (by rw [add_block]; intro e; have := hr _ e.symm; omega)
  exact ⟨ad, h1, h0, h2, (g _).trans h3, (g _).trans h4, (g _).trans h5, (g _).trans h6, (g _).trans h7⟩
theorem RdO.setCell {w : World} {L B : Nat} {v : Value} {l : List Bo} (h : RdO w L B v l) {p : Addr} (hp : B ≤ p.block) (u : Value) : RdO (w.setCell p u) L B v l := by
  obtain ⟨A, c, hv, hl, hc⟩ := h
  refine ⟨A, c, hv, hl, fun k n hk => ?_⟩
  obtain ⟨ad, h1, h0, h2, h3, h4, h5, h6, h7⟩ := hc k n hk
  have g : ∀ j, (w.setCell p u).cell? (ad.add j) = w.cell? (ad.add j) := fun j => World.cell?_of_block (Below.heap_setCell w p u _ (by rw [add_block]; omega))
  exact ⟨ad, h1, h0, h2, (g _).trans h3, (g _).trans h4, (g _).trans h5, (g _).trans h6, (g _).trans h7⟩
theorem StI.below (h : StI N F h9 U0 cs R D vD k zs P o0 o1 W) (hV : VisC N F cs R) (hb : Below W.heap.size W W') : StI N F h9 U0 cs R D vD k zs P o0 o1 W' :=
  ⟨h.bx.below hb h.bx.lt, own_below h.r0 hb, own_below h.r1 hb, h.ap, hV.keeps _ _ _ _ h.rel (KeepS.of_below hb), h.pu, h.p0, h.p1, h.rd.below (hb.mono (by have := h.hi; have := h.size; omega)), Nat.le_trans h.size hb.size, h.lo, h.hi⟩
/-- A visit. -/
theorem StI.visit (h : StI N F h9 U0 cs R D vD k zs P o0 o1 W) (hb : Below W.heap.size W W') {zs' : List St2} {P' : Nat → Prop} {W2 : World} (hR : R zs' P' W2) (hP : ∀ g, P' g → P g ∨ W.heap.size ≤ g) (hK : KeepV N P W' W2) :
    StI N F h9 U0 cs R D vD k zs' P' o0 o1 W2 := by
  have hs := h.size
  have hz := hb.size
  have hl := h.lo
  have hh := h.hi
  have n9 : ¬ P h9 := fun hp => by have := h.pu _ hp; omega
  refine ⟨hK.own (h.bx.below hb h.bx.lt) h.lo n9, hK.row (own_below h.r0 hb) (by omega) h.p0, hK.row (own_below h.r1 hb) (by omega) h.p1, h.ap, hR, fun g hg => ?_, fun g hg hp => ?_, fun g hg hp => ?_, hK.rdO (h.rd.below (hb.mono (by have := h.hi; have := h.size; omega))) (Nat.le_refl _) (by omega) (fun g h1 h2 hp => by have := h.pu _ hp; omega), by have := hK.size; omega, h.lo, h.hi⟩
  · rcases hP g hg with h1 | h1
    · exact h.pu g h1
    · omega
  · rcases hP g hp with h1 | h1
    · exact h.p0 g hg h1
    · have := World.ownsRow.lt h.r0 g hg; omega
  · rcases hP g hp with h1 | h1
    · exact h.p1 g hg h1
    · have := World.ownsRow.lt h.r1 g hg; omega
theorem StI.lay0 (h : StI N F h9 U0 cs R D vD k zs P o0 o1 W) {w' : World} {v' : Value} (hb : Below W.heap.size W W') (hg : W'.grownBy w' o0.ownBlock) (hv : ∀ g, v'.ownBlock = some g → o0.ownBlock = some g ∨ W'.heap.size ≤ g) :
    Own w' h9 82 #[o0, o1] ∧ w'.ownsRow U0 33 2 o1 (opn 1 (D.take k)).length (flatP (opn 1 (D.take k))) ∧ Apart2 v' o1 := by
  refine ⟨(h.bx.below hb h.bx.lt).grown hg (own_apart (own_below h.r0 hb) (h.bx.below hb h.bx.lt) (by decide)), (own_below h.r1 hb).kept hg ?_, fun g hgv ho => ?_⟩
  · cases ho : o1.ownBlock with
    | none => exact .inl rfl
    | some g => right; intro e; exact h.ap g e.symm ho
  · rcases hv g hgv with h1 | h1
    · exact h.ap g h1 ho
    · have := World.ownsRow.lt h.r1 g ho
      have := hb.size
      omega
theorem StI.lay1 (h : StI N F h9 U0 cs R D vD k zs P o0 o1 W) {w' : World} {v' : Value} (hb : Below W.heap.size W W') (hg : W'.grownBy w' o1.ownBlock) (hv : ∀ g, v'.ownBlock = some g → o1.ownBlock = some g ∨ W'.heap.size ≤ g) :
    Own w' h9 82 #[o0, o1] ∧ w'.ownsRow U0 33 2 o0 (opn 0 (D.take k)).length (flatP (opn 0 (D.take k))) ∧ Apart2 o0 v' := by
  refine ⟨(h.bx.below hb h.bx.lt).grown hg (own_apart (own_below h.r1 hb) (h.bx.below hb h.bx.lt) (by decide)), (own_below h.r0 hb).kept hg ?_, fun g hgo hv' => ?_⟩
  · cases ho : o0.ownBlock with
    | none => exact .inl rfl
    | some g => right; intro e; exact h.ap g ho e.symm
  · rcases hv g hv' with h1 | h1
    · exact h.ap g hgo h1
    · have := World.ownsRow.lt h.r0 g hgo
      have := hb.size
      omega
theorem StI.store0 (h : StI N F h9 U0 cs R D vD k zs P o0 o1 W) (hV : VisC N F cs R) {w' : World} {v' : Value} {l' : List (Int × Int)} (hb : Below W.heap.size W W') (hl : w'.ownsRow U0 33 2 v' l'.length (flatP l')) (hg : W'.grownBy w' o0.ownBlock) (hv : ∀ g, v'.ownBlock = some g → o0.ownBlock = some g ∨ W'.heap.size ≤ g)
    (e0 : opn 0 (D.take (k + 1)) = l') (e1 : opn 1 (D.take (k + 1)) = opn 1 (D.take k)) : StI N F h9 U0 cs R D vD (k + 1) zs P v' o1 (w'.setCell ⟨h9, 0, none⟩ v') := by
  obtain ⟨oX, rX, ap⟩ := h.lay0 hb hg hv
  have hs := h.size
  have hlo := h.lo
  have hhi := h.hi
  have hz := hb.size
  have hz2 := hg.size
  have n9 : ¬ P h9 := fun hp => by have := h.pu _ hp; omega
  have hrow : ∀ g, o0.ownBlock = some g → U0 ≤ g ∧ ¬ P g := fun g hgr => ⟨(World.ownsRow.lt h.r0 g hgr).1, h.p0 g hgr⟩
  have K : KeepS N P W (w'.setCell ⟨h9, 0, none⟩ v') := (KeepS.trans (KeepS.of_below hb) (KeepS.of_grown hg fun g hgr => ⟨by have := (hrow g hgr).1; omega, (hrow g hgr).2⟩)).setCell (p := ⟨h9, 0, none⟩) h.lo n9 v'
  have pn : ∀ g, v'.ownBlock = some g → ¬ P g := fun g hgv hp => by
    rcases hv g hgv with h1 | h1
    · exact h.p0 g h1 hp
    · have := hV.lt _ _ _ h.rel g hp; omega
  have rd := (RdO.grown (h.rd.below (hb.mono (by omega))) (by omega) hg (fun g hgr => by have := (hrow g hgr).1; omega)).setCell (p := ⟨h9, 0, none⟩) (Nat.le_refl _) v'
  have sz : U0 ≤ (w'.setCell ⟨h9, 0, none⟩ v').heap.size := by rw [World.size_setCell]; omega
  have r0 : (w'.setCell ⟨h9, 0, none⟩ v').ownsRow U0 33 2 v' (opn 0 (D.take (k + 1))).length (flatP (opn 0 (D.take (k + 1)))) := by rw [e0]; exact own_setCell hl (p := ⟨h9, 0, none⟩) hhi v'
  have r1 : (w'.setCell ⟨h9, 0, none⟩ v').ownsRow U0 33 2 o1 (opn 1 (D.take (k + 1))).length (flatP (opn 1 (D.take (k + 1)))) := by rw [e1]; exact own_setCell rX (p := ⟨h9, 0, none⟩) hhi v'
  exact ⟨oX.store 0 v', r0, r1, ap, hV.keeps _ _ _ _ h.rel K, h.pu, pn, h.p1, rd, sz, h.lo, h.hi⟩
theorem StI.store1 (h : StI N F h9 U0 cs R D vD k zs P o0 o1 W) (hV : VisC N F cs R) {w' : World} {v' : Value} {l' : List (Int × Int)} (hb : Below W.heap.size W W') (hl : w'.ownsRow U0 33 2 v' l'.length (flatP l')) (hg : W'.grownBy w' o1.ownBlock) (hv : ∀ g, v'.ownBlock = some g → o1.ownBlock = some g ∨ W'.heap.size ≤ g)
    (e1 : opn 1 (D.take (k + 1)) = l') (e0 : opn 0 (D.take (k + 1)) = opn 0 (D.take k)) : StI N F h9 U0 cs R D vD (k + 1) zs P o0 v' (w'.setCell ⟨h9, 1, none⟩ v') := by
  obtain ⟨oX, rX, ap⟩ := h.lay1 hb hg hv
  have hs := h.size
  have hlo := h.lo
  have hhi := h.hi
  have hz := hb.size
  have hz2 := hg.size
  have n9 : ¬ P h9 := fun hp => by have := h.pu _ hp; omega
  have hrow : ∀ g, o1.ownBlock = some g → U0 ≤ g ∧ ¬ P g := fun g hgr => ⟨(World.ownsRow.lt h.r1 g hgr).1, h.p1 g hgr⟩
  have K : KeepS N P W (w'.setCell ⟨h9, 1, none⟩ v') := (KeepS.trans (KeepS.of_below hb) (KeepS.of_grown hg fun g hgr => ⟨by have := (hrow g hgr).1; omega, (hrow g hgr).2⟩)).setCell (p := ⟨h9, 1, none⟩) h.lo n9 v'
  have pn : ∀ g, v'.ownBlock = some g → ¬ P g := fun g hgv hp => by
    rcases hv g hgv with h1 | h1
    · exact h.p1 g h1 hp
    · have := hV.lt _ _ _ h.rel g hp; omega
  have rd := (RdO.grown (h.rd.below (hb.mono (by omega))) (by omega) hg (fun g hgr => by have := (hrow g hgr).1; omega)).setCell (p := ⟨h9, 1, none⟩) (Nat.le_refl _) v'
  have sz : U0 ≤ (w'.setCell ⟨h9, 1, none⟩ v').heap.size := by rw [World.size_setCell]; omega
  have r1 : (w'.setCell ⟨h9, 1, none⟩ v').ownsRow U0 33 2 v' (opn 1 (D.take (k + 1))).length (flatP (opn 1 (D.take (k + 1)))) := by rw [e1]; exact own_setCell hl (p := ⟨h9, 1, none⟩) hhi v'
  have r0 : (w'.setCell ⟨h9, 1, none⟩ v').ownsRow U0 33 2 o0 (opn 0 (D.take (k + 1))).length (flatP (opn 0 (D.take (k + 1)))) := by rw [e0]; exact own_setCell rX (p := ⟨h9, 1, none⟩) hhi v'
  exact ⟨oX.store 1 v', r0, r1, ap, hV.keeps _ _ _ _ h.rel K, h.pu, h.p0, pn, rd, sz, h.lo, h.hi⟩
end
end Go.Proofs.YtnbeopkpkagjmaaGreat
