import Derived.Test.YteihjneeiojgaaaSEoH
import Derived.WalkKit
import Derived.WalkSpells
import Derived.WalkLawsBesides
import Derived.Deep.QuietTactic
import Derived.BigQuiet
import Derived.Handy
import Derived.Lib.Hide
/-
  Definitions whose rows are a call's own; schema.Clone gives such a one. Conditions: lengths. (Written by mkEoI.py.)
-/
namespace Go.Proofs.Yteihjneeiojgaaa
set_option maxRecDepth 100000
set_option linter.unusedVariables false
set_option linter.unusedSimpArgs false
open Go.RowKit

/-- No block is both rows'. -/
def Off (u v : Value) : Prop := ∀ b, u.ownBlock = some b → v.ownBlock = some b → False
theorem Off.sym {u v : Value} (h : Off u v) : Off v u := fun b h1 h2 => h b h2 h1
theorem Off.row {u v : Value} (h : Off u v) : u.ownBlock = none ∨ u.ownBlock ≠ v.ownBlock := by
  cases hu : u.ownBlock with
  | none => exact .inl rfl
  | some b => exact .inr fun e => h b hu e.symm
theorem own_low {w : World} {base base' n s : Nat} {t : TypeId} {v : Value} {xs : List Value} (h : w.ownsRow base t s v n xs) (hb : base' ≤ base) : w.ownsRow base' t s v n xs := by
  refine ⟨h.1, ?_⟩
  rcases h.2 with h0 | ⟨g, cap, cur, hv, h1, h2, hr⟩
  · exact .inl h0
  · exact .inr ⟨g, cap, cur, hv, Nat.le_trans hb h1, h2, hr⟩
theorem own_keepR {W W' : World} {lo hi n s : Nat} {t : TypeId} {v : Value} {xs : List Value} (h : W.ownsRow lo t s v n xs) (hb : ∀ b, v.ownBlock = some b → b < hi) (k : Keep lo hi W W') : W'.ownsRow lo t s v n xs := by
  refine ⟨h.1, ?_⟩
  rcases h.2 with h0 | ⟨g, cap, cur, hv, h1, h2, hr⟩
  · exact .inl h0
  · exact .inr ⟨g, cap, cur, hv, h1, (k g h1 (hb g (by rw [hv]; rfl))).trans h2, hr⟩
/-- Rows of two types share no block. -/
theorem own_offT {w : World} {b1 b2 n s m r : Nat} {t u : TypeId} {v x : Value} {xs ys : List Value} (h : w.ownsRow b1 t s v n xs) (k : w.ownsRow b2 u r x m ys) (hne : t ≠ u) : Off v x := by
  intro b h1 h2
  rcases h.2 with ⟨rfl, _⟩ | ⟨g, cap, cur, rfl, _, hh, _⟩
  · simp [Value.ownBlock] at h1
  · rcases k.2 with ⟨rfl, _⟩ | ⟨g', cap', cur', rfl, _, hh', _⟩
    · simp [Value.ownBlock] at h2
    · simp [Value.ownBlock] at h1 h2
      subst h1 h2
      rw [hh] at hh'
      injection hh' with hh'
      injection hh' with _ e _
      exact hne e
theorem Keep.sub {lo hi lo' hi' : Nat} {W W' : World} (k : Keep lo hi W W') (h1 : lo ≤ lo') (h2 : hi' ≤ hi) : Keep lo' hi' W W' := fun b h3 h4 => k b (by omega) (by omega)
def RoC (W : World) (lo hi : Nat) (v : Value) (cs : List Cl) : Prop := W.ownsRow lo 36 3 v cs.length (cs.flatMap fC) ∧ ∀ b, v.ownBlock = some b → b < hi
def RoI (W : World) (lo hi : Nat) (v : Value) (zs : List Int) : Prop := W.ownsRow lo 3 1 v zs.length (zs.flatMap fI) ∧ ∀ b, v.ownBlock = some b → b < hi
def RoF (W : World) (lo mid hi : Nat) (v : Value) (qs : List FkU) : Prop := W.ownsRow lo 54 2 v qs.length (qs.flatMap fF) ∧ (∀ b, v.ownBlock = some b → b < hi) ∧ (∀ q ∈ qs, RoI W mid hi q.2 q.1.1) ∧ qs.Pairwise fun a b => Off a.2 b.2
theorem RoC.of {W : World} {lo : Nat} {v : Value} {cs : List Cl} (h : W.ownsRow lo 36 3 v cs.length (cs.flatMap fC)) : RoC W lo W.heap.size v cs := ⟨h, fun b hb => (World.ownsRow.lt h b hb).2⟩
theorem RoI.of {W : World} {lo : Nat} {v : Value} {zs : List Int} (h : W.ownsRow lo 3 1 v zs.length (zs.flatMap fI)) : RoI W lo W.heap.size v zs := ⟨h, fun b hb => (World.ownsRow.lt h b hb).2⟩
theorem RoC.low {W : World} {lo lo' hi : Nat} {v : Value} {cs : List Cl} (h : RoC W lo hi v cs) (hl : lo' ≤ lo) : RoC W lo' hi v cs := ⟨own_low h.1 hl, h.2⟩
theorem RoI.low {W : World} {lo lo' hi : Nat} {v : Value} {zs : List Int} (h : RoI W lo hi v zs) (hl : lo' ≤ lo) : RoI W lo' hi v zs := ⟨own_low h.1 hl, h.2⟩
theorem RoC.more {W : World} {lo hi hi' : Nat} {v : Value} {cs : List Cl} (h : RoC W lo hi v cs) (hl : hi ≤ hi') : RoC W lo hi' v cs := ⟨h.1, fun b hb => Nat.lt_of_lt_of_le (h.2 b hb) hl⟩
theorem RoI.more {W : World} {lo hi hi' : Nat} {v : Value} {zs : List Int} (h : RoI W lo hi v zs) (hl : hi ≤ hi') : RoI W lo hi' v zs := ⟨h.1, fun b hb => Nat.lt_of_lt_of_le (h.2 b hb) hl⟩
theorem RoC.keep {W W' : World} {lo hi : Nat} {v : Value} {cs : List Cl} (h : RoC W lo hi v cs) (k : Keep lo hi W W') : RoC W' lo hi v cs := ⟨own_keepR h.1 h.2 k, h.2⟩
theorem RoI.keep {W W' : World} {lo hi : Nat} {v : Value} {zs : List Int} (h : RoI W lo hi v zs) (k : Keep lo hi W W') : RoI W' lo hi v zs := ⟨own_keepR h.1 h.2 k, h.2⟩
theorem RoI.step {W W' : World} {lo hi : Nat} {v : Value} {zs : List Int} (h : RoI W lo hi v zs) (hb : Below W.heap.size W W') (hB : hi ≤ W.heap.size) : RoI W' lo W'.heap.size v zs := (h.keep (Keep.of hb hB)).more (Nat.le_trans hB hb.size)
theorem RoI.far {W : World} {lo hi : Nat} {v : Value} {zs : List Int} (h : RoI W lo hi v zs) {p : Addr} (hp : p.block < lo) (u : Value) : RoI (W.setCell p u) lo hi v zs := h.keep (Keep.set W (.inl hp) u)
theorem RoF.keep {W W' : World} {lo mid hi : Nat} {v : Value} {qs : List FkU} (h : RoF W lo mid hi v qs) (k : Keep lo hi W W') (hm : lo ≤ mid) : RoF W' lo mid hi v qs := ⟨own_keepR h.1 h.2.1 k, h.2.1, fun q hq => (h.2.2.1 q hq).keep (k.sub hm (Nat.le_refl _)), h.2.2.2⟩
theorem pClC_own (v : Value) (cs : List Cl) (w : World) (L : Nat) (h : RdK w L w.heap.size v cs) (hl : cs.length ≤ 1099511627776) :
    Calls Try.prog 27 #[v] w fun e w' => ∃ v', e = .returned v' ∧ w'.ownsRow w.heap.size 36 3 v' cs.length (cs.flatMap fC) ∧ Below w.heap.size w w' := by
  have h0 := h
  obtain ⟨A, c, rfl, _, _⟩ := h
  cases A with
  | none =>
    have hz : cs = [] := by
      cases cs with
      | nil => rfl
      | cons z zs => obtain ⟨_, _, hv, _, hc⟩ := h0; injection hv with hA; obtain ⟨ad, h1, _⟩ := hc 0 z rfl; rw [← hA] at h1; cases h1
    subst hz
    exact (pClC_nil _ c w).mono fun e w' ⟨h1, h2⟩ => ⟨_, h1, World.ownsRow_nil w' w.heap.size 36 3, h2⟩
  | some ad =>
    exact (pClC_raw ad cs.length c (cs.flatMap fC) w (fm_len fC_len cs) hl (rdK_flat h0) (fun u hu => by obtain ⟨z, _, hz⟩ := List.mem_flatMap.1 hu; simp [fC] at hz; rcases hz with rfl | rfl | rfl <;> rfl))
/-- The blocks of a definition's own rows. -/
def Mine (v1 v2 v3 v4 : Value) (qs : List FkU) (b : Nat) : Prop := v1.ownBlock = some b ∨ v2.ownBlock = some b ∨ v3.ownBlock = some b ∨ v4.ownBlock = some b ∨ ∃ q ∈ qs, q.2.ownBlock = some b
/-- A tree that reads none of the blocks M. -/
def TreeOff (M : Nat → Prop) (W : World) (d : Nat) (v : Value) (es : List Ex) : Prop := ∃ B, B ≤ W.heap.size ∧ ∀ W' : World, (∀ b, b < B → ¬ M b → W'.heap[b]? = W.heap[b]?) → RdE W' 0 B d v es
theorem TreeOff.rd {M : Nat → Prop} {W : World} {d : Nat} {v : Value} {es : List Ex} (h : TreeOff M W d v es) : RdE W 0 W.heap.size d v es := by
  obtain ⟨B, hB, hr⟩ := h
  exact (hr W fun _ _ _ => rfl).more hB (Nat.le_refl _)
theorem TreeOff.move {M M' : Nat → Prop} {W W' : World} {d : Nat} {v : Value} {es : List Ex} (h : TreeOff M W d v es) (hs : ∀ b, b < W.heap.size → ¬ M b → W'.heap[b]? = W.heap[b]?) (hM : ∀ b, b < W.heap.size → M' b → M b) (hz : W.heap.size ≤ W'.heap.size) : TreeOff M' W' d v es := by
  obtain ⟨B, hB, hr⟩ := h
  refine ⟨B, Nat.le_trans hB hz, fun W2 h2 => hr W2 fun b hb hn => ?_⟩
  exact (h2 b hb fun hm => hn (hM b (by omega) hm)).trans (hs b (by omega) hn)
theorem TreeOff.of {M : Nat → Prop} {W : World} {L d : Nat} {v : Value} {es : List Ex} (h : RdE W L W.heap.size d v es) (hM : ∀ b, M b → b < L) : TreeOff M W d v es :=
  ⟨W.heap.size, Nat.le_refl _, fun W' h' => (RdE.keep (fun b h1 h2 => h' b h2 fun hm => by have := hM b hm; omega) h).more (Nat.le_refl _) (Nat.zero_le _)⟩
/-- A definition all of whose rows are a call's own, apart from each other; its checks' trees lie elsewhere. -/
structure OwT (N : Nat) (X : Nat → Prop) (W : World) (v1 v2 v3 v4 : Value) (cs : List Cl) (zs : List Int) (qs : List FkU) (d : Nat) (ps : List ExU) : Prop where
  c : W.ownsRow N 36 3 v1 cs.length (cs.flatMap fC)
  k : W.ownsRow N 3 1 v2 zs.length (zs.flatMap fI)
  f : W.ownsRow N 54 2 v3 qs.length (qs.flatMap fF)
  x : W.ownsRow N 65 7 v4 ps.length (flatE ps)
  i : ∀ q ∈ qs, W.ownsRow N 3 1 q.2 q.1.1.length (q.1.1.flatMap fI)
  ki : ∀ q ∈ qs, Off v2 q.2
  ii : qs.Pairwise fun a b => Off a.2 b.2
  e : ∀ p ∈ ps, TreeOff (fun b => Mine v1 v2 v3 v4 qs b ∨ X b) W d p.2 p.1.args
def RetClo (w : World) (nm : ByteArray) (cs : List Cl) (zs : List Int) (fs : List Fk) (d : Nat) (es : List Ex) (e : Ending) (w' : World) : Prop :=
  ∃ v1 v2 v3 v4 qs ps, e = .returned (.agg #[.string nm, v1, v2, v3, v4]) ∧ qs.map (·.1) = fs ∧ ps.map (·.1) = es ∧ (∀ X : Nat → Prop, (∀ b, X b → b < w.heap.size + 2) → OwT w.heap.size X w' v1 v2 v3 v4 cs zs qs (d + 1) ps) ∧ Below w.heap.size w w'
theorem clo_end {w wr W' : World} {nm : ByteArray} {v1 v2 v3 v4 : Value} {cs : List Cl} {zs : List Int} {fs : List Fk} {es : List Ex} {d hj y3 hx y4 : Nat} {qs : List FkU} {ps : List ExU} {e : Ending}
    (he : e = .returned (.agg #[.string nm, v1, v2, v3, v4])) (hlo : w.heap.size + 1 < hj) (h3 : hj ≤ y3) (h4 : y3 ≤ hx) (h5 : hx ≤ y4) (h6 : y4 ≤ wr.heap.size)
    (K1 : RoC wr (w.heap.size + 2) hj v1 cs) (K2 : RoI wr (w.heap.size + 2) hj v2 zs) (K3 : RoF wr hj y3 hx v3 qs) (K4 : wr.ownsRow hx 65 7 v4 ps.length (flatE ps)) (K5 : ∀ q ∈ ps, RdE wr y4 wr.heap.size (d + 1) q.2 q.1.args)
    (K6 : ∀ b, v4.ownBlock = some b → hx ≤ b ∧ b < y4) (kk : Keep (w.heap.size + 2) wr.heap.size wr W') (hz : W'.heap.size = wr.heap.size) (hq : qs.map (·.1) = fs) (hp : ps.map (·.1) = es) (hb : Below w.heap.size w W') : RetClo w nm cs zs fs d es e W' := by
  have k1 := K1.keep (kk.sub (Nat.le_refl _) (by omega))
  have k2 := K2.keep (kk.sub (Nat.le_refl _) (by omega))
  have k3 := K3.keep (kk.sub (by omega) (by omega)) h3
  have k4 := own_keepR K4 (fun b hb => (World.ownsRow.lt K4 b hb).2) (kk.sub (by omega) (Nat.le_refl _))
  refine ⟨v1, v2, v3, v4, qs, ps, he, hq, hp, fun X hX => ⟨own_low k1.1 (by omega), own_low k2.1 (by omega), own_low k3.1 (by omega), own_low k4 (by omega), fun q hq => own_low (k3.2.2.1 q hq).1 (by omega), fun q hq b h1 h2 => ?_, k3.2.2.2, fun p hp => ?_⟩, hb⟩
  · have e1 := k2.2 b h1
    have e2 := (World.ownsRow.lt (k3.2.2.1 q hq).1 b h2).1
    omega
  · have hr := RdE.keep (kk.sub (show w.heap.size + 2 ≤ y4 by omega) (Nat.le_refl _)) (K5 p hp)
    rw [← hz] at hr
    refine TreeOff.of hr fun b hm => ?_
    rcases hm with (h | h | h | h | ⟨q, hq, h⟩) | h
    · have := K1.2 b h; omega
    · have := K2.2 b h; omega
    · have := K3.2.1 b h; omega
    · exact (K6 b h).2
    · have := (K3.2.2.1 q hq).2 b h; omega
    · have := hX b h; omega
set_option maxRecDepth 100000 in
set_option maxHeartbeats 25600000 in
theorem pCloO_any (nm : ByteArray) (u1 u2 u3 u4 : Value) (cs : List Cl) (zs : List Int) (fs : List Fk) (es : List Ex) (d : Nat) (w : World)
    (h1 : RdK w 0 w.heap.size u1 cs) (h2 : RdI w 0 w.heap.size u2 zs) (h3 : RdF w 0 w.heap.size u3 fs) (h4 : RdE w 0 w.heap.size (d + 1) u4 es) (l1 : cs.length ≤ 1099511627776) (l2 : zs.length ≤ 1099511627776) (l3 : fs.length ≤ 1099511627776) (l5 : ∀ f ∈ fs, f.1.length ≤ 1099511627776) :
    Calls Try.prog 14 #[.agg #[.string nm, u1, u2, u3, u4]] w (RetClo w nm cs zs fs d es) := by
  have T1 := Lib.hid (fun (W : World) (hb : Below w.heap.size w W) => pClC_own u1 cs W 0 (h1.step hb (Nat.le_refl _)) l1)
  have T2 := Lib.hid (fun (W : World) (hb : Below w.heap.size w W) => pClI_own u2 zs W 0 (h2.step hb (Nat.le_refl _)) l2)
  have T3 := Lib.hid (fun (W : World) (hb : Below w.heap.size w W) => pClF_any u3 fs W 0 w.heap.size (h3.below hb) l3)
  have T4 := Lib.hid (fun (W : World) (hb : Below w.heap.size w W) => pClE_any d u4 es W 0 w.heap.size (h4.below hb))
  have HL5 := Lib.hid l5
  obtain ⟨A1, c1, e1⟩ := shK h1
  obtain ⟨A2, c2, e2⟩ := shI h2
  obtain ⟨A3, c3, e3⟩ := shF h3
  obtain ⟨A4, c4, e4, l4⟩ := h4.slice
  subst e1 e2 e3 e4
  have HO := Lib.hid (show Own ((w.alloc (.cells #[.string nm, .slice A1 cs.length c1, .slice A2 zs.length c2, .slice A3 fs.length c3, .slice A4 es.length c4] 27)).alloc (.cells #[.string ⟨#[]⟩, .slice none 0 0, .slice none 0 0, .slice none 0 0, .slice none 0 0] 27)) w.heap.size 27 #[.string nm, .slice A1 cs.length c1, .slice A2 zs.length c2, .slice A3 fs.length c3, .slice A4 es.length c4] from (Own.new w _ _).alloc _)
  have HZ := Lib.hid (show Own ((w.alloc (.cells #[.string nm, .slice A1 cs.length c1, .slice A2 zs.length c2, .slice A3 fs.length c3, .slice A4 es.length c4] 27)).alloc (.cells #[.string ⟨#[]⟩, .slice none 0 0, .slice none 0 0, .slice none 0 0, .slice none 0 0] 27)) (w.heap.size + 1) 27 #[.string ⟨#[]⟩, .slice none 0 0, .slice none 0 0, .slice none 0 0, .slice none 0 0] from own_two2 _)
  have HB := Lib.hid (show Below w.heap.size w ((w.alloc (.cells #[.string nm, .slice A1 cs.length c1, .slice A2 zs.length c2, .slice A3 fs.length c3, .slice A4 es.length c4] 27)).alloc (.cells #[.string ⟨#[]⟩, .slice none 0 0, .slice none 0 0, .slice none 0 0, .slice none 0 0] 27)) from (bel_mk w _).trans ((bel_mk _ _).mono (by simp)))
  clear h1 h2 h3 h4 l5
  have HZS := Lib.hid (show w.heap.size + 1 < ((w.alloc (.cells #[.string nm, .slice A1 cs.length c1, .slice A2 zs.length c2, .slice A3 fs.length c3, .slice A4 es.length c4] 27)).alloc (.cells #[.string ⟨#[]⟩, .slice none 0 0, .slice none 0 0, .slice none 0 0, .slice none 0 0] 27)).heap.size from by simp)
  have b0 := HO.out.cell 0
  have b1 := HO.out.cell 1
  have b2 := HO.out.cell 2
  have b3 := HO.out.cell 3
  have b4 := HO.out.cell 4
  go_enter Try.func14, Try.ntmps14
  go_wp2_with fail
  generalize hW0 : (w.alloc (.cells #[.string nm, .slice A1 cs.length c1, .slice A2 zs.length c2, .slice A3 fs.length c3, .slice A4 es.length c4] 27)).alloc (.cells #[.string ⟨#[]⟩, .slice none 0 0, .slice none 0 0, .slice none 0 0, .slice none 0 0] 27) = W0 at *
  clear hW0
  with_reducible refine (T1.out _ HB.out).mono ?_
  rintro e1 x1 ⟨v1, rfl, k1, hb⟩
  obtain ⟨A5, c5, rfl⟩ := own_len k1
  replace HO := Lib.hid (HO.out.below hb HO.out.lt)
  replace HZ := Lib.hid (HZ.out.below hb HZ.out.lt)
  replace HB := Lib.hid (HB.out.trans (hb.mono HB.out.size))
  have HZ1 := Lib.hid (show w.heap.size + 1 < x1.heap.size from HZ.out.lt)
  have hs0 : w.heap.size + 1 < W0.heap.size := HZS.out
  have HK1 := Lib.hid (RoC.low (RoC.of k1) (show w.heap.size + 2 ≤ W0.heap.size from by omega))
  clear k1 hs0
  clear hb T1 b0 b1 b2 b3 b4
  have b0 := HO.out.cell 0
  have b1 := HO.out.cell 1
  have b2 := HO.out.cell 2
  have b3 := HO.out.cell 3
  have b4 := HO.out.cell 4
  have m1 := HO.out.free 1
  have HO9 := Lib.hid (show Own (x1.setCell ⟨w.heap.size, 1, none⟩ (.slice A5 cs.length c5)) w.heap.size 27 #[.string nm, .slice A5 cs.length c5, .slice A2 zs.length c2, .slice A3 fs.length c3, .slice A4 es.length c4] from by have h := HO.out.store 1 (.slice A5 cs.length c5); simp only [List.setIfInBounds_toArray, List.set_cons_zero, List.set_cons_succ] at h; exact h)
  have HZ9 := Lib.hid (HZ.out.far (p := ⟨w.heap.size, 1, none⟩) (by show w.heap.size + 1 ≠ w.heap.size; omega) (.slice A5 cs.length c5))
  have HB9 := Lib.hid (HB.out.setCell (p := ⟨w.heap.size, 1, none⟩) (Nat.le_refl _) (.slice A5 cs.length c5))
  have HK9 := Lib.hid (HK1.out.keep (Keep.set x1 (p := ⟨w.heap.size, 1, none⟩) (.inl (by show w.heap.size < _; omega)) (.slice A5 cs.length c5)))
  clear HK1 HO HZ HB
  go_wp2_with fail
  generalize hi1 : x1.heap.size = hi at *
  have hsz : (x1.setCell ⟨w.heap.size, 1, none⟩ (.slice A5 cs.length c5)).heap.size = hi := by rw [World.size_setCell]; exact hi1
  generalize x1.setCell ⟨w.heap.size, 1, none⟩ (.slice A5 cs.length c5) = X at *
  have HO := HO9
  have HZ := HZ9
  have HB := HB9
  have HSZ := Lib.hid hsz
  clear HO9 HZ9 HB9 hsz m1 hi1 x1 b0 b1 b2 b3 b4
  have b0 := HO.out.cell 0
  have b1 := HO.out.cell 1
  have b2 := HO.out.cell 2
  have b3 := HO.out.cell 3
  have b4 := HO.out.cell 4
  with_reducible refine (T2.out _ HB.out).mono ?_
  rintro e2 x2 ⟨v2, rfl, k2, hb⟩
  obtain ⟨A6, c6, rfl⟩ := own_len k2
  replace HO := Lib.hid (HO.out.below hb HO.out.lt)
  replace HZ := Lib.hid (HZ.out.below hb HZ.out.lt)
  replace HB := Lib.hid (HB.out.trans (hb.mono HB.out.size))
  have HZ2 := Lib.hid (show w.heap.size + 1 < x2.heap.size from HZ.out.lt)
  have HK1 := Lib.hid ((HK9.out.keep (Keep.of hb (Nat.le_of_eq HSZ.out.symm))).more (show hi ≤ x2.heap.size from by have := hb.size; have := HSZ.out; omega))
  have HI1 := Lib.hid (RoI.low (RoI.of k2) (show w.heap.size + 2 ≤ X.heap.size from by have := HZ1.out; have := HSZ.out; omega))
  clear k2 HK9
  clear hb T2 b0 b1 b2 b3 b4
  have b0 := HO.out.cell 0
  have b1 := HO.out.cell 1
  have b2 := HO.out.cell 2
  have b3 := HO.out.cell 3
  have b4 := HO.out.cell 4
  have m2 := HO.out.free 2
  have HO9 := Lib.hid (show Own (x2.setCell ⟨w.heap.size, 2, none⟩ (.slice A6 zs.length c6)) w.heap.size 27 #[.string nm, .slice A5 cs.length c5, .slice A6 zs.length c6, .slice A3 fs.length c3, .slice A4 es.length c4] from by have h := HO.out.store 2 (.slice A6 zs.length c6); simp only [List.setIfInBounds_toArray, List.set_cons_zero, List.set_cons_succ] at h; exact h)
  have HZ9 := Lib.hid (HZ.out.far (p := ⟨w.heap.size, 2, none⟩) (by show w.heap.size + 1 ≠ w.heap.size; omega) (.slice A6 zs.length c6))
  have HB9 := Lib.hid (HB.out.setCell (p := ⟨w.heap.size, 2, none⟩) (Nat.le_refl _) (.slice A6 zs.length c6))
  have HK9 := Lib.hid (HK1.out.keep (Keep.set x2 (p := ⟨w.heap.size, 2, none⟩) (.inl (by show w.heap.size < _; omega)) (.slice A6 zs.length c6)))
  have HI9 := Lib.hid (HI1.out.keep (Keep.set x2 (p := ⟨w.heap.size, 2, none⟩) (.inl (by show w.heap.size < _; omega)) (.slice A6 zs.length c6)))
  clear HK1 HI1 HO HZ HB HSZ HZ1
  go_wp2_with fail
  generalize hi2 : x2.heap.size = hj at *
  have hsz : (x2.setCell ⟨w.heap.size, 2, none⟩ (.slice A6 zs.length c6)).heap.size = hj := by rw [World.size_setCell]; exact hi2
  generalize x2.setCell ⟨w.heap.size, 2, none⟩ (.slice A6 zs.length c6) = Y at *
  have HO := HO9
  have HZ := HZ9
  have HB := HB9
  have HSZ := Lib.hid hsz
  clear HO9 HZ9 HB9 hsz m2 hi2 x2 X hi b0 b1 b2 b3 b4
  have b0 := HO.out.cell 0
  have b1 := HO.out.cell 1
  have b2 := HO.out.cell 2
  have b3 := HO.out.cell 3
  have b4 := HO.out.cell 4
  have HBY := HB
  with_reducible refine (T3.out _ HB.out).mono ?_
  rintro e3 x3 ⟨v3, qs, rfl, hq1, hq2, hq3, hb⟩
  obtain ⟨A7, c7, rfl⟩ : ∃ A c, v3 = .slice A qs.length c := by rcases own_row hq3 with ⟨h5, h6⟩ | ⟨g, c, h5, _⟩ <;> exact ⟨_, _, by first | exact h5 | (rw [h6]; exact h5)⟩
  replace HO := Lib.hid (HO.out.below hb HO.out.lt)
  replace HZ := Lib.hid (HZ.out.below hb HZ.out.lt)
  replace HB := Lib.hid (HB.out.trans (hb.mono HB.out.size))
  have HZ3 := Lib.hid (show w.heap.size + 1 < x3.heap.size from HZ.out.lt)
  have HK1 := Lib.hid (HK9.out.keep (Keep.of hb (Nat.le_of_eq HSZ.out.symm)))
  have HI1 := Lib.hid (HI9.out.keep (Keep.of hb (Nat.le_of_eq HSZ.out.symm)))
  have hj3 : hj ≤ x3.heap.size := by have := hb.size; have := HSZ.out; omega
  rw [HSZ.out] at hq3
  have HQ1 := Lib.hid hq1
  have HQ2 := Lib.hid (show ∀ q ∈ qs, RdI w 0 w.heap.size q.2 q.1.1 from fun q hq => (hq2 q hq).keep (fun b _ h => (HBY.out.block b h).symm))
  have HQ3 := Lib.hid hq3
  clear HK9 HI9 hq1 hq2 hq3
  clear hb T3 b0 b1 b2 b3 b4
  have b0 := HO.out.cell 0
  have b1 := HO.out.cell 1
  have b2 := HO.out.cell 2
  have b3 := HO.out.cell 3
  have b4 := HO.out.cell 4
  have m3 := HO.out.free 3
  have HO9 := Lib.hid (show Own (x3.setCell ⟨w.heap.size, 3, none⟩ (.slice A7 qs.length c7)) w.heap.size 27 #[.string nm, .slice A5 cs.length c5, .slice A6 zs.length c6, .slice A7 qs.length c7, .slice A4 es.length c4] from by have h := HO.out.store 3 (.slice A7 qs.length c7); simp only [List.setIfInBounds_toArray, List.set_cons_zero, List.set_cons_succ] at h; exact h)
  have HZ9 := Lib.hid (HZ.out.far (p := ⟨w.heap.size, 3, none⟩) (by show w.heap.size + 1 ≠ w.heap.size; omega) (.slice A7 qs.length c7))
  have HB9 := Lib.hid (HB.out.setCell (p := ⟨w.heap.size, 3, none⟩) (Nat.le_refl _) (.slice A7 qs.length c7))
  have HK9 := Lib.hid (HK1.out.keep (Keep.set x3 (p := ⟨w.heap.size, 3, none⟩) (.inl (by show w.heap.size < _; omega)) (.slice A7 qs.length c7)))
  have HI9 := Lib.hid (HI1.out.keep (Keep.set x3 (p := ⟨w.heap.size, 3, none⟩) (.inl (by show w.heap.size < _; omega)) (.slice A7 qs.length c7)))
  have HQ9 := Lib.hid (own_setK HQ3.out (p := ⟨w.heap.size, 3, none⟩) (by show w.heap.size < hj; have := HZ2.out; omega) (.slice A7 qs.length c7))
  clear HK1 HI1 HQ3 HO HZ HB HSZ
  have hlo : w.heap.size + 1 < hj := HZ2.out
  have hlo2 := Lib.hid hlo
  go_upto_region 5 with fail
  have hm3 : (x3.setCell ⟨w.heap.size, 3, none⟩ (.slice A7 qs.length c7)).heap.size = x3.heap.size := World.size_setCell ..
  generalize x3.setCell ⟨w.heap.size, 3, none⟩ (.slice A7 qs.length c7) = Y3 at *
  rw [← hm3] at hj3
  have hj3b := Lib.hid hj3
  clear HZ2 HZ3 b0 b1 b2 b3 b4 m3 hm3 x3
  have HO := HO9
  have HZ := HZ9
  have HB := HB9
  have HG := Lib.hid (show ∀ g, A7 = some (⟨g, 0, none⟩ : Addr) → hj ≤ g ∧ g < Y3.heap.size from fun g hg => by
    rcases own_row HQ9.out with ⟨h5, _⟩ | ⟨g', c', h5, h6, h7, _⟩
    · injection h5 with h5; rw [hg] at h5; cases h5
    · injection h5 with h5; rw [hg] at h5; injection h5 with h5; injection h5 with h5; subst h5; exact ⟨h6, h7⟩)
  have hql : qs.length ≤ 1099511627776 := by have := congrArg List.length HQ1.out; rw [List.length_map] at this; omega
  clear HO9 HZ9 HB9
  go_loopw [22] (fun i wr => ∃ (k : Nat) (ps : List FkU), k ≤ qs.length ∧ i = .int .i64 k ∧ Hid (ps.length = qs.length) ∧ Hid (ps.map (·.1) = fs) ∧ Hid (wr.ownsRow hj 54 2 (.slice A7 qs.length c7) qs.length (ps.flatMap fF)) ∧ Hid (∀ j q, ps[j]? = some q → (j < k → RoI wr Y3.heap.size wr.heap.size q.2 q.1.1) ∧ (k ≤ j → RdI w 0 w.heap.size q.2 q.1.1)) ∧ Hid (∀ i j qi qj, i < j → j < k → ps[i]? = some qi → ps[j]? = some qj → Off qi.2 qj.2) ∧ Hid (Own wr w.heap.size 27 #[.string nm, .slice A5 cs.length c5, .slice A6 zs.length c6, .slice A7 qs.length c7, .slice A4 es.length c4]) ∧ Hid (Own wr (w.heap.size + 1) 27 #[.string ⟨#[]⟩, .slice none 0 0, .slice none 0 0, .slice none 0 0, .slice none 0 0]) ∧ Hid (Keep (w.heap.size + 2) hj Y3 wr) ∧ Below w.heap.size w wr ∧ Y3.heap.size ≤ wr.heap.size) (fun i _ => qs.length - (intOf i).toNat)
  case atStart => exact ⟨0, qs, Nat.zero_le _, rfl, Lib.hid rfl, HQ1, HQ9, Lib.hid (fun j q hq => ⟨fun h => absurd h (Nat.not_lt_zero _), fun _ => HQ2.out q (List.mem_of_getElem? hq)⟩), Lib.hid (fun i j _ _ _ h => absurd h (Nat.not_lt_zero _)), HO, HZ, Lib.hid (Keep.refl _ _ _), HB.out, Nat.le_refl _⟩
  case round =>
    clear HO HZ HB HQ9
    obtain ⟨k, ps, hk, rfl, HPL, HP1, HQ, HPE, HPO, HO, HZ, HKE, hbr, hmr⟩ := hrel
    have hbz := hbr.size
    by_cases hlt : k < qs.length
    · have hki : (k : Int) < qs.length := by omega
      have hki0 : (0 : Int) ≤ (k : Int) := by omega
      have hlp : k < ps.length := by have := HPL.out; omega
      have hq := List.getElem?_eq_getElem hlp
      have hel := (HPE.out k _ hq).2 (Nat.le_refl _)
      have hmem : ps[k].1 ∈ fs := by rw [← HP1.out]; exact List.mem_map_of_mem (List.getElem_mem hlp)
      have hz8 := HL5.out _ hmem
      obtain ⟨g, c', hA7, hg1, hg2, hcc⟩ : ∃ (g _ : Nat), A7 = some (⟨g, 0, none⟩ : Addr) ∧ hj ≤ g ∧ g < Y3.heap.size ∧ ∀ j u, (ps.flatMap fF)[j]? = some u → wr.cell? ⟨g, j, none⟩ = some u ∧ True := by
        rcases own_row HQ.out with ⟨h5, h6⟩ | ⟨g', c', h5, h6, h7, h8⟩
        · omega
        · injection h5 with h5 _ _
          obtain ⟨h9, h10⟩ := HG.out g' h5
          exact ⟨g', 0, h5, h9, h10, fun j u hu => ⟨by have := h8 j u hu; rwa [addX] at this, trivial⟩⟩
      have hf0 := fm_get fF_len ps k _ hq 0 (by decide)
      have hf1 := fm_get fF_len ps k _ hq 1 (by decide)
      generalize ps[k] = q at *
      obtain ⟨⟨zk, sk⟩, uk⟩ := q
      dsimp only at hel hz8
      have n0 := (hcc _ _ hf0).1
      have n1 := (hcc _ _ hf1).1
      subst hA7
      have HNE := Lib.hid hq
      obtain ⟨A8, n8, c8, rfl⟩ : ∃ A n c, uk = .slice A n c := by obtain ⟨A, c, h, _⟩ := hel; exact ⟨_, _, _, h⟩
      have HEL := Lib.hid hel
      clear hcc hf0 hf1 hq hmem hel hlp
      have z3 := HO.out.cell 3
      rw [Nat.add_zero] at n0
      have hfx := fun (W : World) (h : W.ownsRow hj 54 2 (.slice (some ⟨g, 0, none⟩) qs.length c7) qs.length (ps.flatMap fF)) => World.ownsRow.frozenAt h (k * 2)
      have HFX := Lib.hid hfx
      have bV := bel_mk wr (.cells #[.slice A8 n8 c8, .string sk] 54)
      have HV := Lib.hid (Own.new wr 54 #[.slice A8 n8 c8, .string sk])
      have HBV := Lib.hid bV
      go_upto_region 7 with fail
      generalize hVV : wr.alloc (.cells #[.slice A8 n8 c8, .string sk] 54) = V at *
      clear bV n1 hVV hfx
      have HQV := Lib.hid (own_below2 HQ.out HBV.out)
      have HOV := Lib.hid (HO.out.below HBV.out HO.out.lt)
      have n0V := (HBV.out.cell (p := ⟨g, k * 2, none⟩) (by show g < wr.heap.size; omega)).trans n0
      have HN0 := Lib.hid n0V
      have hgV : g < V.heap.size := by have := HBV.out.size; omega
      have HS := Lib.hid (show ∀ w', Below V.drew.heap.size V.drew w' → (w'.cell? ⟨w.heap.size, 3, none⟩ = some (.slice (some ⟨g, 0, none⟩) qs.length c7) ∧ w'.cell? ⟨wr.heap.size, 0, none⟩ = some (.slice A8 n8 c8)) from fun w' hb => ⟨((show Own V.drew _ _ _ from HOV.out).below hb HOV.out.lt).cell 3, ((show Own V.drew _ _ _ from HV.out).below hb HV.out.lt).cell 0⟩)
      have HCI := Lib.hid (pClI_own (.slice A8 n8 c8) zk V.drew 0 (HEL.out.step (hbr.trans ((HBV.out.drew).mono hbz)) (Nat.le_refl _)) hz8)
      clear n0 n0V z3
      go_region_held3 (fun w' => w'.cell? ⟨w.heap.size, 3, none⟩ = some (.slice (some ⟨g, 0, none⟩) qs.length c7) ∧ w'.cell? ⟨wr.heap.size, 0, none⟩ = some (.slice A8 n8 c8))
        (first | (exact HS.out _ (Below.refl _ _)) | (exact HS.out _ hb) | (exact ⟨(World.cell?_setCell_far _ ⟨g, k * 2, none⟩ _ _ (by show g ≠ w.heap.size; omega)).trans (HS.out _ hb).1, (World.cell?_setCell_far _ ⟨g, k * 2, none⟩ _ _ (by show g ≠ wr.heap.size; omega)).trans (HS.out _ hb).2⟩))
        ((go_at_call 28; refine HCI.out.mono ?_; rintro e5 w5 ⟨v5, rfl, k5, hb⟩; obtain ⟨A9, c9, rfl⟩ := own_len k5; have m0 := (hb.cell (p := ⟨g, k * 2, none⟩) hgV).trans HN0.out; have m1 := (hb.frozen (p := ⟨g, k * 2, none⟩) hgV).trans (show V.frozen? ⟨g, k * 2, none⟩ = false from HFX.out V HQV.out)))
      have hbV5 : Below V.heap.size V w5 := ((Below.refl V.heap.size V).drew).trans hb
      have hw5 : Below wr.heap.size wr w5 := HBV.out.trans (hbV5.mono HBV.out.size)
      have hs5 := hw5.size
      have hVr := HBV.out.size
      have HQ5 := (World.ownsRow.stored (own_below2 HQV.out hbV5) (k * 2) (.slice A9 zk.length c9)).1
      have hset := fm_set fF_len 0 (.slice A9 zk.length c9) (by decide) ps k _ ((zk, sk), .slice A9 zk.length c9) HNE.out rfl
      rw [Nat.add_zero] at hset
      rw [hset] at HQ5
      have HQ6 := Lib.hid HQ5
      have HP6 := Lib.hid (show (ps.set k ((zk, sk), .slice A9 zk.length c9)).map (·.1) = fs from by
        rw [List.map_set, ← HP1.out]
        exact set_same _ _ _ (by rw [List.getElem?_map, HNE.out]; rfl))
      have HE6 := Lib.hid (show ∀ j q, (ps.set k ((zk, sk), .slice A9 zk.length c9))[j]? = some q → (j < k + 1 → RoI (w5.setCell ⟨g, k * 2, none⟩ (.slice A9 zk.length c9)) Y3.heap.size (w5.setCell ⟨g, k * 2, none⟩ (.slice A9 zk.length c9)).heap.size q.2 q.1.1) ∧ (k + 1 ≤ j → RdI w 0 w.heap.size q.2 q.1.1) from fun j q hq => by
        rw [World.size_setCell]
        rw [List.getElem?_set] at hq
        by_cases hjk : k = j
        · subst hjk
          rw [if_pos rfl] at hq
          split at hq
          · injection hq with hq
            subst hq
            exact ⟨fun _ => ((RoI.of k5).low (show Y3.heap.size ≤ V.heap.size by omega)).far (by show g < _; omega) _, fun h => by omega⟩
          · cases hq
        · rw [if_neg hjk] at hq
          obtain ⟨h1, h2⟩ := HPE.out j q hq
          exact ⟨fun h => ((h1 (by omega)).step hw5 (Nat.le_refl _)).far (by show g < _; omega) _, fun h => h2 (by omega)⟩)
      have HPO6 := Lib.hid (show ∀ i j qi qj, i < j → j < k + 1 → (ps.set k ((zk, sk), .slice A9 zk.length c9))[i]? = some qi → (ps.set k ((zk, sk), .slice A9 zk.length c9))[j]? = some qj → Off qi.2 qj.2 from fun i j qi qj hij hjk hqi hqj => by
        rw [List.getElem?_set, if_neg (by omega)] at hqi
        rw [List.getElem?_set] at hqj
        by_cases hkj : k = j
        · subst hkj
          rw [if_pos rfl] at hqj
          split at hqj
          · injection hqj with hqj
            subst hqj
            have h1 := (HPE.out i qi hqi).1 hij
            intro b hb1 hb2
            have h3 := h1.2 b hb1
            have h4 := (World.ownsRow.lt k5 b hb2).1
            have h5 : V.drew.heap.size = V.heap.size := rfl
            omega
          · cases hqj
        · rw [if_neg hkj] at hqj
          exact HPO.out i j qi qj hij (by omega) hqi hqj)
      have HO6 := Lib.hid ((HO.out.below hw5 HO.out.lt).far (p := ⟨g, k * 2, none⟩) (by show w.heap.size ≠ g; omega) (.slice A9 zk.length c9))
      have HZ6 := Lib.hid ((HZ.out.below hw5 HZ.out.lt).far (p := ⟨g, k * 2, none⟩) (by show w.heap.size + 1 ≠ g; omega) (.slice A9 zk.length c9))
      have HK6 := Lib.hid ((HKE.out.trans (Keep.of hw5 (show hj ≤ wr.heap.size by omega))).trans (Keep.set w5 (p := ⟨g, k * 2, none⟩) (.inr hg1) (.slice A9 zk.length c9)))
      have HB6 := Lib.hid ((hbr.trans (hw5.mono hbz)).setCell (p := ⟨g, k * 2, none⟩) (by show w.heap.size ≤ g; omega) (.slice A9 zk.length c9))
      have HM6 := Lib.hid (show Y3.heap.size ≤ (w5.setCell ⟨g, k * 2, none⟩ (.slice A9 zk.length c9)).heap.size by rw [World.size_setCell]; omega)
      have HL6 := Lib.hid (show (ps.set k ((zk, sk), .slice A9 zk.length c9)).length = qs.length by rw [List.length_set]; exact HPL.out)
      clear hbV5 hw5 hs5 hVr HQ5 hset hb k5 m0 m1 HQV HOV HV HBV HN0 HS HCI HFX HEL HNE HPE HPO HQ HO HZ HKE HP1 hg2
      go_wp2
      go_roundw
      case rel => exact ⟨k + 1, _, by omega, by go_num, HL6, HP6, HQ6, HE6, HPO6, HO6, HZ6, HK6, HB6.out, HM6.out⟩
      case measure => simp [intOf]; omega
    · have hki : ¬ (k : Int) < qs.length := by omega
      have hkq : k = qs.length := by omega
      have hkqs := HP1.out
      have hql2 := Lib.hid HPL.out
      have HKX := Lib.hid (HK9.out.keep HKE.out)
      have HIX := Lib.hid (HI9.out.keep HKE.out)
      have HFX := Lib.hid (show RoF wr hj Y3.heap.size wr.heap.size (.slice A7 qs.length c7) ps from ⟨by rw [HPL.out]; exact HQ.out, fun b hb => (World.ownsRow.lt HQ.out b hb).2, fun q hq => by
        obtain ⟨j, hj1, rfl⟩ := List.getElem_of_mem hq
        exact (HPE.out j _ (List.getElem?_eq_getElem hj1)).1 (by have := HPL.out; omega), List.pairwise_iff_getElem.2 fun i j h1 h2 hij => HPO.out i j _ _ hij (by have := HPL.out; omega) (List.getElem?_eq_getElem h1) (List.getElem?_eq_getElem h2)⟩)
      have HQM := Lib.hid hkqs
      have HBX := Lib.hid hbr
      clear HK9 HI9 HPE HPO HQ HPL HP1 HKE hkq hkqs HG HQ1 HQ2 HBY
      have b0 := HO.out.cell 0
      have b1 := HO.out.cell 1
      have b2 := HO.out.cell 2
      have b3 := HO.out.cell 3
      have b4 := HO.out.cell 4
      go_wp2_with fail
      have HB := HBX
      have hx5 : Y3.heap.size ≤ wr.heap.size := hmr
      with_reducible refine (T4.out _ HB.out).mono ?_
      rintro e4 x4 ⟨v4, rs, rfl, hp1, hp2, hp3, hb⟩
      obtain ⟨A9, c9, rfl⟩ : ∃ A c, v4 = .slice A rs.length c := by rcases own_row hp3 with ⟨h5, h6⟩ | ⟨g, c, h5, _⟩ <;> exact ⟨_, _, by first | exact h5 | (rw [h6]; exact h5)⟩
      have HP2 := Lib.hid (show ∀ p ∈ rs, RdE w 0 w.heap.size d p.2 p.1.args from fun p hp => (hp2 p hp).keep (fun b _ h => (hbr.block b h).symm))
      have HP1 := Lib.hid hp1
      replace HO := Lib.hid (HO.out.below hb HO.out.lt)
      replace HZ := Lib.hid (HZ.out.below hb HZ.out.lt)
      replace HB := Lib.hid (HB.out.trans (hb.mono HB.out.size))
      have hx4 := hb.size
      have hmid : hj ≤ Y3.heap.size := hj3b.out
      have ks := Keep.set x4 (lo := w.heap.size + 2) (hi := wr.heap.size) (p := ⟨w.heap.size, 4, none⟩) (.inl (by show w.heap.size < _; omega)) (.slice A9 rs.length c9)
      have kk := (Keep.of hb (lo := w.heap.size + 2) (hi := wr.heap.size) (Nat.le_refl _)).trans ks
      replace HKX := Lib.hid (HKX.out.keep (kk.sub (Nat.le_refl _) (by omega)))
      replace HIX := Lib.hid (HIX.out.keep (kk.sub (Nat.le_refl _) (by omega)))
      replace HFX := Lib.hid (HFX.out.keep (kk.sub (by omega) (Nat.le_refl _)) hmid)
      have HXX0 := Lib.hid (show hj ≤ Y3.heap.size ∧ Y3.heap.size ≤ wr.heap.size from ⟨hmid, hx5⟩)
      have HR9 := Lib.hid (own_setK hp3 (p := ⟨w.heap.size, 4, none⟩) (by show w.heap.size < wr.heap.size; omega) (.slice A9 rs.length c9))
      clear hb T4 b0 b1 b2 b3 b4 hp1 hp2 hp3 ks kk HBX
      have b0 := HO.out.cell 0
      have b1 := HO.out.cell 1
      have b2 := HO.out.cell 2
      have b3 := HO.out.cell 3
      have b4 := HO.out.cell 4
      have m4 := HO.out.free 4
      have HO9 := Lib.hid (show Own (x4.setCell ⟨w.heap.size, 4, none⟩ (.slice A9 rs.length c9)) w.heap.size 27 #[.string nm, .slice A5 cs.length c5, .slice A6 zs.length c6, .slice A7 qs.length c7, .slice A9 rs.length c9] from by have h := HO.out.store 4 (.slice A9 rs.length c9); simp only [List.setIfInBounds_toArray, List.set_cons_zero, List.set_cons_succ] at h; exact h)
      have HZ9 := Lib.hid (HZ.out.far (p := ⟨w.heap.size, 4, none⟩) (by show w.heap.size + 1 ≠ w.heap.size; omega) (.slice A9 rs.length c9))
      have HB9 := Lib.hid (HB.out.setCell (p := ⟨w.heap.size, 4, none⟩) (Nat.le_refl _) (.slice A9 rs.length c9))
      clear HO HZ HB
      go_upto_region 11 with fail
      have hm3 : (x4.setCell ⟨w.heap.size, 4, none⟩ (.slice A9 rs.length c9)).heap.size = x4.heap.size := World.size_setCell ..
      generalize x4.setCell ⟨w.heap.size, 4, none⟩ (.slice A9 rs.length c9) = Y4 at *
      rw [← hm3] at hx4
      clear b0 b1 b2 b3 b4 m4 hm3 x4
      have hxw : w.heap.size + 2 ≤ wr.heap.size := by omega
      clear hbr hbz hmr hk hlt hki hj3 hx5
      have hxy := Lib.hid (show wr.heap.size ≤ Y4.heap.size from hx4)
      generalize hxx : wr.heap.size = hx at *
      clear hxx
      have HG := Lib.hid (show ∀ g, A9 = some (⟨g, 0, none⟩ : Addr) → hx ≤ g ∧ g < Y4.heap.size from fun g hg => by
        rcases own_row HR9.out with ⟨h5, _⟩ | ⟨g', c', h5, h6, h7, _⟩
        · injection h5 with h5; rw [hg] at h5; cases h5
        · injection h5 with h5; rw [hg] at h5; injection h5 with h5; injection h5 with h5; subst h5; exact ⟨h6, h7⟩)
      have hrl : rs.length ≤ 1099511627776 := by have := congrArg List.length HP1.out; rw [List.length_map] at this; omega
      go_loopw [43] (fun i wr => ∃ (m : Nat) (ps : List ExU), m ≤ rs.length ∧ i = .int .i64 m ∧ Hid (ps.length = rs.length) ∧ Hid (ps.map (·.1) = es) ∧ Hid (wr.ownsRow hx 65 7 (.slice A9 rs.length c9) rs.length (flatE ps)) ∧ Hid (∀ j q, ps[j]? = some q → (j < m → RdE wr Y4.heap.size wr.heap.size (d + 1) q.2 q.1.args) ∧ (m ≤ j → RdE w 0 w.heap.size d q.2 q.1.args)) ∧ Hid (Own wr w.heap.size 27 #[.string nm, .slice A5 cs.length c5, .slice A6 zs.length c6, .slice A7 qs.length c7, .slice A9 rs.length c9]) ∧ Hid (Own wr (w.heap.size + 1) 27 #[.string ⟨#[]⟩, .slice none 0 0, .slice none 0 0, .slice none 0 0, .slice none 0 0]) ∧ Hid (Keep (w.heap.size + 2) hx Y4 wr) ∧ Below w.heap.size w wr ∧ Y4.heap.size ≤ wr.heap.size) (fun i _ => rs.length - (intOf i).toNat)
      case atStart => exact ⟨0, rs, Nat.zero_le _, rfl, Lib.hid rfl, HP1, HR9, Lib.hid (fun j q hq => ⟨fun h => absurd h (Nat.not_lt_zero _), fun _ => HP2.out q (List.mem_of_getElem? hq)⟩), HO9, HZ9, Lib.hid (Keep.refl _ _ _), HB9.out, Nat.le_refl _⟩
      case round =>
        clear HO9 HZ9 HB9 HR9
        obtain ⟨m, ps, hm, rfl, HPL, HP1, HQ, HPE, HO, HZ, HKE, hbr, hmr⟩ := hrel
        have hbz := hbr.size
        by_cases hlt : m < rs.length
        · have hki : (m : Int) < rs.length := by omega
          have hki0 : (0 : Int) ≤ (m : Int) := by omega
          have hlp : m < ps.length := by have := HPL.out; omega
          have hq := List.getElem?_eq_getElem hlp
          have hel := (HPE.out m _ hq).2 (Nat.le_refl _)
          obtain ⟨g, hA9, hg1, hg2, hcc⟩ : ∃ (g : Nat), A9 = some (⟨g, 0, none⟩ : Addr) ∧ hx ≤ g ∧ g < Y4.heap.size ∧ ∀ j u, (flatE ps)[j]? = some u → wr.cell? ⟨g, j, none⟩ = some u := by
            rcases own_row HQ.out with ⟨h5, h6⟩ | ⟨g', c', h5, h6, h7, h8⟩
            · omega
            · injection h5 with h5 _ _
              obtain ⟨h9, h10⟩ := HG.out g' h5
              exact ⟨g', h5, h9, h10, fun j u hu => by have := h8 j u hu; rwa [addX] at this⟩
          have hfl := flatE_get ps m _ hq
          generalize ps[m] = q at *
          obtain ⟨⟨q0, q1, ⟨q2, q3, q4⟩, q5, q6⟩, uk⟩ := q
          dsimp only at hel
          obtain ⟨A8, c8, rfl, _⟩ := hel.slice
          have n0 := hcc _ _ (hfl 0 (by decide))
          have n1 := hcc _ _ (hfl 1 (by decide))
          have n2 := hcc _ _ (hfl 2 (by decide))
          have n3 := hcc _ _ (hfl 3 (by decide))
          have n4 := hcc _ _ (hfl 4 (by decide))
          have n5 := hcc _ _ (hfl 5 (by decide))
          have n6 := hcc _ _ (hfl 6 (by decide))
          rw [Nat.add_zero] at n0
          dsimp only at n0 n1 n2 n3 n4 n5 n6
          subst hA9
          have HNE := Lib.hid hq
          have HEL := Lib.hid hel
          have HFR := Lib.hid (fun (W : World) (h : W.ownsRow hx 65 7 (.slice (some ⟨g, 0, none⟩) rs.length c9) rs.length (flatE ps)) (j : Nat) => World.ownsRow.frozenAt h j)
          clear hcc hfl hq hel hlp
          have z4 := HO.out.cell 4
          have bV := bel_mk wr (.cells #[.int .i64 q0, .int .i64 q1, .int .i64 q2, .int .i64 q3, .string q4, .string q5, .slice A8 q6.length c8] 65)
          have HV := Lib.hid (Own.new wr 65 #[.int .i64 q0, .int .i64 q1, .int .i64 q2, .int .i64 q3, .string q4, .string q5, .slice A8 q6.length c8])
          have HBV := Lib.hid bV
          go_upto_region 13 with fail
          generalize hVV : wr.alloc (.cells #[.int .i64 q0, .int .i64 q1, .int .i64 q2, .int .i64 q3, .string q4, .string q5, .slice A8 q6.length c8] 65) = V at *
          clear bV hVV
          have HQV := Lib.hid (own_below2 HQ.out HBV.out)
          have HOV := Lib.hid (HO.out.below HBV.out HO.out.lt)
          have hgV : g < V.heap.size := by have := HBV.out.size; omega
          have HN := Lib.hid (show (V.drew.cell? ⟨g, m * 7, none⟩ = some (.int .i64 q0) ∧ V.drew.cell? ⟨g, m * 7 + 1, none⟩ = some (.int .i64 q1) ∧ V.drew.cell? ⟨g, m * 7 + 2, none⟩ = some (.int .i64 q2) ∧ V.drew.cell? ⟨g, m * 7 + 3, none⟩ = some (.int .i64 q3) ∧ V.drew.cell? ⟨g, m * 7 + 4, none⟩ = some (.string q4) ∧ V.drew.cell? ⟨g, m * 7 + 5, none⟩ = some (.string q5) ∧ V.drew.cell? ⟨g, m * 7 + 6, none⟩ = some (.slice A8 q6.length c8)) from
            have hgr : ∀ j, V.drew.cell? ⟨g, j, none⟩ = wr.cell? ⟨g, j, none⟩ := fun j => show V.cell? ⟨g, j, none⟩ = wr.cell? ⟨g, j, none⟩ from HBV.out.cell (p := ⟨g, j, none⟩) (by show g < wr.heap.size; omega)
            ⟨(hgr _).trans n0, (hgr _).trans n1, (hgr _).trans n2, (hgr _).trans n3, (hgr _).trans n4, (hgr _).trans n5, (hgr _).trans n6⟩)
          have hgD : ∀ j : Nat, (⟨g, j, none⟩ : Addr).block < V.drew.heap.size := fun _ => hgV
          have HFD := Lib.hid (show ∀ j, V.drew.frozen? ⟨g, j, none⟩ = false from fun j => HFR.out V HQV.out j)
          clear n0 n1 n2 n3 n4 n5 n6 z4
          have HS := Lib.hid (show ∀ w', Below V.drew.heap.size V.drew w' → (w'.cell? ⟨w.heap.size, 4, none⟩ = some (.slice (some ⟨g, 0, none⟩) rs.length c9) ∧ w'.cell? ⟨wr.heap.size, 0, none⟩ = some (.int .i64 q0) ∧ w'.cell? ⟨wr.heap.size, 1, none⟩ = some (.int .i64 q1) ∧ w'.cell? ⟨wr.heap.size, 2, none⟩ = some (.int .i64 q2) ∧ w'.cell? ⟨wr.heap.size, 3, none⟩ = some (.int .i64 q3) ∧ w'.cell? ⟨wr.heap.size, 4, none⟩ = some (.string q4) ∧ w'.cell? ⟨wr.heap.size, 5, none⟩ = some (.string q5) ∧ w'.cell? ⟨wr.heap.size, 6, none⟩ = some (.slice A8 q6.length c8)) from fun w' hb => have o := (show Own V.drew _ _ _ from HV.out).below hb HV.out.lt; ⟨((show Own V.drew _ _ _ from HOV.out).below hb HOV.out.lt).cell 4, o.cell 0, o.cell 1, o.cell 2, o.cell 3, o.cell 4, o.cell 5, o.cell 6⟩)
          have HS7 := Lib.hid (show ∀ (w' : World) (y0 y1 y2 y3 y4 y5 y6 : Value), (w'.cell? ⟨w.heap.size, 4, none⟩ = some (.slice (some ⟨g, 0, none⟩) rs.length c9) ∧ w'.cell? ⟨wr.heap.size, 0, none⟩ = some (.int .i64 q0) ∧ w'.cell? ⟨wr.heap.size, 1, none⟩ = some (.int .i64 q1) ∧ w'.cell? ⟨wr.heap.size, 2, none⟩ = some (.int .i64 q2) ∧ w'.cell? ⟨wr.heap.size, 3, none⟩ = some (.int .i64 q3) ∧ w'.cell? ⟨wr.heap.size, 4, none⟩ = some (.string q4) ∧ w'.cell? ⟨wr.heap.size, 5, none⟩ = some (.string q5) ∧ w'.cell? ⟨wr.heap.size, 6, none⟩ = some (.slice A8 q6.length c8)) → ((((((((w'.setCell ⟨g, m * 7, none⟩ y0).setCell ⟨g, m * 7 + 1, none⟩ y1).setCell ⟨g, m * 7 + 2, none⟩ y2).setCell ⟨g, m * 7 + 3, none⟩ y3).setCell ⟨g, m * 7 + 4, none⟩ y4).setCell ⟨g, m * 7 + 5, none⟩ y5).setCell ⟨g, m * 7 + 6, none⟩ y6).cell? ⟨w.heap.size, 4, none⟩ = some (.slice (some ⟨g, 0, none⟩) rs.length c9) ∧ (((((((w'.setCell ⟨g, m * 7, none⟩ y0).setCell ⟨g, m * 7 + 1, none⟩ y1).setCell ⟨g, m * 7 + 2, none⟩ y2).setCell ⟨g, m * 7 + 3, none⟩ y3).setCell ⟨g, m * 7 + 4, none⟩ y4).setCell ⟨g, m * 7 + 5, none⟩ y5).setCell ⟨g, m * 7 + 6, none⟩ y6).cell? ⟨wr.heap.size, 0, none⟩ = some (.int .i64 q0) ∧ (((((((w'.setCell ⟨g, m * 7, none⟩ y0).setCell ⟨g, m * 7 + 1, none⟩ y1).setCell ⟨g, m * 7 + 2, none⟩ y2).setCell ⟨g, m * 7 + 3, none⟩ y3).setCell ⟨g, m * 7 + 4, none⟩ y4).setCell ⟨g, m * 7 + 5, none⟩ y5).setCell ⟨g, m * 7 + 6, none⟩ y6).cell? ⟨wr.heap.size, 1, none⟩ = some (.int .i64 q1) ∧ (((((((w'.setCell ⟨g, m * 7, none⟩ y0).setCell ⟨g, m * 7 + 1, none⟩ y1).setCell ⟨g, m * 7 + 2, none⟩ y2).setCell ⟨g, m * 7 + 3, none⟩ y3).setCell ⟨g, m * 7 + 4, none⟩ y4).setCell ⟨g, m * 7 + 5, none⟩ y5).setCell ⟨g, m * 7 + 6, none⟩ y6).cell? ⟨wr.heap.size, 2, none⟩ = some (.int .i64 q2) ∧ (((((((w'.setCell ⟨g, m * 7, none⟩ y0).setCell ⟨g, m * 7 + 1, none⟩ y1).setCell ⟨g, m * 7 + 2, none⟩ y2).setCell ⟨g, m * 7 + 3, none⟩ y3).setCell ⟨g, m * 7 + 4, none⟩ y4).setCell ⟨g, m * 7 + 5, none⟩ y5).setCell ⟨g, m * 7 + 6, none⟩ y6).cell? ⟨wr.heap.size, 3, none⟩ = some (.int .i64 q3) ∧ (((((((w'.setCell ⟨g, m * 7, none⟩ y0).setCell ⟨g, m * 7 + 1, none⟩ y1).setCell ⟨g, m * 7 + 2, none⟩ y2).setCell ⟨g, m * 7 + 3, none⟩ y3).setCell ⟨g, m * 7 + 4, none⟩ y4).setCell ⟨g, m * 7 + 5, none⟩ y5).setCell ⟨g, m * 7 + 6, none⟩ y6).cell? ⟨wr.heap.size, 4, none⟩ = some (.string q4) ∧ (((((((w'.setCell ⟨g, m * 7, none⟩ y0).setCell ⟨g, m * 7 + 1, none⟩ y1).setCell ⟨g, m * 7 + 2, none⟩ y2).setCell ⟨g, m * 7 + 3, none⟩ y3).setCell ⟨g, m * 7 + 4, none⟩ y4).setCell ⟨g, m * 7 + 5, none⟩ y5).setCell ⟨g, m * 7 + 6, none⟩ y6).cell? ⟨wr.heap.size, 5, none⟩ = some (.string q5) ∧ (((((((w'.setCell ⟨g, m * 7, none⟩ y0).setCell ⟨g, m * 7 + 1, none⟩ y1).setCell ⟨g, m * 7 + 2, none⟩ y2).setCell ⟨g, m * 7 + 3, none⟩ y3).setCell ⟨g, m * 7 + 4, none⟩ y4).setCell ⟨g, m * 7 + 5, none⟩ y5).setCell ⟨g, m * 7 + 6, none⟩ y6).cell? ⟨wr.heap.size, 6, none⟩ = some (.slice A8 q6.length c8)) from fun w' y0 y1 y2 y3 y4 y5 y6 h => by
            have f : ∀ (W : World) (j : Nat) (y : Value) (p : Addr), g ≠ p.block → (W.setCell ⟨g, j, none⟩ y).cell? p = W.cell? p := fun W j y p hp => World.cell?_setCell_far W ⟨g, j, none⟩ p y hp
            have e1 : g ≠ w.heap.size := by omega
            have e2 : g ≠ wr.heap.size := by omega
            obtain ⟨h0, h1, h2, h3, h4, h5, h6, h7⟩ := h
            refine ⟨?_, ?_, ?_, ?_, ?_, ?_, ?_, ?_⟩
            · rw [f _ _ _ _ e1, f _ _ _ _ e1, f _ _ _ _ e1, f _ _ _ _ e1, f _ _ _ _ e1, f _ _ _ _ e1, f _ _ _ _ e1]; exact h0
            all_goals
              rw [f _ _ _ _ e2, f _ _ _ _ e2, f _ _ _ _ e2, f _ _ _ _ e2, f _ _ _ _ e2, f _ _ _ _ e2, f _ _ _ _ e2]
              assumption)
          have HCI := Lib.hid (show Calls Try.prog 31 #[.agg #[.int .i64 q0, .int .i64 q1, .int .i64 q2, .int .i64 q3, .string q4, .string q5, .slice A8 q6.length c8], .slice none 0 0] V.drew (RetX V.drew (d + 1) ⟨q0, q1, (q2, q3, q4), q5, q6⟩) from by
            have h2 := pSubst_any (.slice none 0 0) [] 1 d ⟨q0, q1, (q2, q3, q4), q5, q6⟩ (.slice A8 q6.length c8) V.drew 0 0 (HEL.out.step (hbr.trans ((HBV.out.drew).mono hbz)) (Nat.le_refl _)) ⟨none, 0, rfl, by simp, by simp⟩
            rw [sbX_nil0] at h2
            unfold exV at h2
            exact h2)
          generalize hrr : (⟨q0, q1, (q2, q3, q4), q5, q6⟩ : Ex) = r at *
          have HRR := Lib.hid hrr
          clear hrr
          obtain ⟨r0, r1, ⟨r2, r3, r4⟩, r5, r6⟩ := r
          have HVD := Lib.hid ((Below.refl V.heap.size V).drew)
          have c4 := HOV.out.cell 4
          have y0 := HV.out.cell 0
          have y1 := HV.out.cell 1
          have y2 := HV.out.cell 2
          have y3 := HV.out.cell 3
          have y4 := HV.out.cell 4
          have y5 := HV.out.cell 5
          have y6 := HV.out.cell 6
          have HGD := Lib.hid hgD
          clear hgD
          clear c4 y0 y1 y2 y3 y4 y5 y6
          refine wp_region_held_drew (S := fun w' => (w'.cell? ⟨w.heap.size, 4, none⟩ = some (.slice (some ⟨g, 0, none⟩) rs.length c9) ∧ w'.cell? ⟨wr.heap.size, 0, none⟩ = some (.int .i64 q0) ∧ w'.cell? ⟨wr.heap.size, 1, none⟩ = some (.int .i64 q1) ∧ w'.cell? ⟨wr.heap.size, 2, none⟩ = some (.int .i64 q2) ∧ w'.cell? ⟨wr.heap.size, 3, none⟩ = some (.int .i64 q3) ∧ w'.cell? ⟨wr.heap.size, 4, none⟩ = some (.string q4) ∧ w'.cell? ⟨wr.heap.size, 5, none⟩ = some (.string q5) ∧ w'.cell? ⟨wr.heap.size, 6, none⟩ = some (.slice A8 q6.length c8))) (by kernel_rfl) (HS.out _ (Below.refl _ _)) (fun hHeld => ?_)
          (refine takeD (i := 0) (d := 48) (oi := _) (v := ?_) rfl rfl (by kernel_rfl) (by kernel_rfl) (by kernel_rfl) (fun _ _ _ h => h) (Or.inl ⟨by rfl, ?_⟩) (by assumption) ?_; rotate_left; (focus ((intro w hSw; (try dsimp only at hSw); go_simp) <;> (with_reducible rfl))); (try simp only [Act.put, List.setIfInBounds_toArray, List.set_cons_zero, List.set_cons_succ]))
          (refine takeD (i := 1) (d := 49) (oi := _) (v := ?_) rfl rfl (by kernel_rfl) (by kernel_rfl) (by kernel_rfl) (fun _ _ _ h => h) (Or.inl ⟨by rfl, ?_⟩) (by assumption) ?_; rotate_left; (focus ((intro w hSw; (try dsimp only at hSw); go_simp) <;> (with_reducible rfl))); (try simp only [Act.put, List.setIfInBounds_toArray, List.set_cons_zero, List.set_cons_succ]))
          (refine takeD (i := 2) (d := 50) (oi := _) (v := ?_) rfl rfl (by kernel_rfl) (by kernel_rfl) (by kernel_rfl) (fun _ _ _ h => h) (Or.inl ⟨by rfl, ?_⟩) (by assumption) ?_; rotate_left; (focus ((intro w hSw; (try dsimp only at hSw); go_simp) <;> (with_reducible rfl))); (try simp only [Act.put, List.setIfInBounds_toArray, List.set_cons_zero, List.set_cons_succ]))
          (refine takeD (i := 3) (d := 51) (oi := _) (v := ?_) rfl rfl (by kernel_rfl) (by kernel_rfl) (by kernel_rfl) (fun _ _ _ h => h) (Or.inl ⟨by rfl, ?_⟩) (by assumption) ?_; rotate_left; (focus ((intro w hSw; (try dsimp only at hSw); go_simp) <;> (with_reducible rfl))); (try simp only [Act.put, List.setIfInBounds_toArray, List.set_cons_zero, List.set_cons_succ]))
          refine wpAnyH_ready (rs := [4]) (by kernel_rfl) (by simp) ?_
          refine AllReadyH.cons (o := _) rfl (fun K hK => ?_) AllReadyH.nil
          go_simp
          (go_at_call 31; with_reducible refine HCI.out.mono ?_; intro e5 w5 h5; unfold RetX at h5; obtain ⟨v5, h6, k5, hb⟩ := h5; subst h6; obtain ⟨AB, cB, h7, _⟩ := k5.slice; subst h7; unfold exV; dsimp only; obtain ⟨t0, t1, t2, t3, t4, t5, t6⟩ := HN.out; have hg5 : ∀ j, w5.cell? ⟨g, j, none⟩ = V.drew.cell? ⟨g, j, none⟩ := fun j => hb.cell (HGD.out j); have o0 := (hg5 _).trans t0; have o1 := (hg5 _).trans t1; have o2 := (hg5 _).trans t2; have o3 := (hg5 _).trans t3; have o4 := (hg5 _).trans t4; have o5 := (hg5 _).trans t5; have o6 := (hg5 _).trans t6; have hf5 : ∀ j, w5.frozen? ⟨g, j, none⟩ = false := fun j => (hb.frozen (HGD.out j)).trans (HFD.out j); have j0 := hf5 (m * 7); have j1 := hf5 (m * 7 + 1); have j2 := hf5 (m * 7 + 2); have j3 := hf5 (m * 7 + 3); have j4 := hf5 (m * 7 + 4); have j5 := hf5 (m * 7 + 5); have j6 := hf5 (m * 7 + 6); clear hg5 hf5 t0 t1 t2 t3 t4 t5 t6)
          refine hK.out _ _ (by (try dsimp only); exact HS.out _ hb) (fun hHeld => ?_)
          clear hK
          (try simp only [Act.put, List.setIfInBounds_toArray, List.set_cons_zero, List.set_cons_succ])
          (refine takeD (i := 5) (d := 53) (oi := _) (v := ?_) rfl rfl (by kernel_rfl) (by kernel_rfl) (by kernel_rfl) (fun _ _ _ h => h) (Or.inl ⟨by rfl, ?_⟩) (by assumption) ?_; rotate_left; (focus ((intro w hSw; (try dsimp only at hSw); go_simp) <;> (with_reducible rfl))); (try simp only [Act.put, List.setIfInBounds_toArray, List.set_cons_zero, List.set_cons_succ]))
          refine wpAnyH_ready (rs := [6]) (by kernel_rfl) (by simp) ?_
          refine AllReadyH.cons (o := _) rfl (fun K hK => ?_) AllReadyH.nil
          go_simp
          skip
          refine hK.out _ _ (by (try dsimp only); exact HS7.out _ _ _ _ _ _ _ _ hHeld) (fun hHeld => ?_)
          clear hK
          (try simp only [Act.put, List.setIfInBounds_toArray, List.set_cons_zero, List.set_cons_succ])
          refine wpAnyH_done (by kernel_rfl) ?_ _
          clear hHeld HS HS7
          have hbV5 : Below V.heap.size V w5 := HVD.out.trans (hb.mono HVD.out.size)
          have hVd := HVD.out.size
          have hw5 : Below wr.heap.size wr w5 := HBV.out.trans (hbV5.mono HBV.out.size)
          have hs5 := hw5.size
          have hVr := HBV.out.size
          obtain ⟨WF, hWF⟩ : ∃ WF, WF = (((((((w5.setCell ⟨g, m * 7, none⟩ (.int .i64 r0)).setCell ⟨g, m * 7 + 1, none⟩ (.int .i64 r1)).setCell ⟨g, m * 7 + 2, none⟩ (.int .i64 r2)).setCell ⟨g, m * 7 + 3, none⟩ (.int .i64 r3)).setCell ⟨g, m * 7 + 4, none⟩ (.string r4)).setCell ⟨g, m * 7 + 5, none⟩ (.string r5)).setCell ⟨g, m * 7 + 6, none⟩ (.slice AB r6.length cB)) := ⟨_, rfl⟩
          have hsz : WF.heap.size = w5.heap.size := by rw [hWF]; simp only [World.size_setCell]
          have HQ6 := Lib.hid (show WF.ownsRow hx 65 7 (.slice (some ⟨g, 0, none⟩) rs.length c9) rs.length (flatE (ps.set m ((⟨r0, r1, (r2, r3, r4), r5, r6⟩ : Ex), Value.slice AB r6.length cB))) from by
            have HQ5 := (World.ownsRow.stored (World.ownsRow.stored (World.ownsRow.stored (World.ownsRow.stored (World.ownsRow.stored (World.ownsRow.stored (World.ownsRow.stored (own_below2 HQV.out hbV5) (m * 7) (.int .i64 r0)).1 (m * 7 + 1) (.int .i64 r1)).1 (m * 7 + 2) (.int .i64 r2)).1 (m * 7 + 3) (.int .i64 r3)).1 (m * 7 + 4) (.string r4)).1 (m * 7 + 5) (.string r5)).1 (m * 7 + 6) (.slice AB r6.length cB)).1
            rw [← hWF] at HQ5
            rw [set_flat ps m _ ((⟨r0, r1, (r2, r3, r4), r5, r6⟩ : Ex), Value.slice AB r6.length cB) HNE.out] at HQ5
            exact HQ5)
          have HP6 := Lib.hid (show (ps.set m ((⟨r0, r1, (r2, r3, r4), r5, r6⟩ : Ex), Value.slice AB r6.length cB)).map (·.1) = es from by
            rw [List.map_set, ← HP1.out]
            exact set_same _ _ _ (by rw [List.getElem?_map, HNE.out]; rfl))
          have HE6 := Lib.hid (show ∀ j q, (ps.set m ((⟨r0, r1, (r2, r3, r4), r5, r6⟩ : Ex), Value.slice AB r6.length cB))[j]? = some q → (j < m + 1 → RdE WF Y4.heap.size WF.heap.size (d + 1) q.2 q.1.args) ∧ (m + 1 ≤ j → RdE w 0 w.heap.size d q.2 q.1.args) from fun j q hq => by
            rw [hsz, hWF]
            rw [List.getElem?_set] at hq
            by_cases hjk : m = j
            · subst hjk
              rw [if_pos rfl] at hq
              split at hq
              · injection hq with hq
                subst hq
                have k6 := k5.more (Nat.le_refl _) (show Y4.heap.size ≤ V.heap.size by omega)
                exact ⟨fun _ => (((((((k6.far (p := ⟨g, m * 7, none⟩) (v := .int .i64 r0) (by show g < _; omega)).far (p := ⟨g, m * 7 + 1, none⟩) (v := .int .i64 r1) (by show g < _; omega)).far (p := ⟨g, m * 7 + 2, none⟩) (v := .int .i64 r2) (by show g < _; omega)).far (p := ⟨g, m * 7 + 3, none⟩) (v := .int .i64 r3) (by show g < _; omega)).far (p := ⟨g, m * 7 + 4, none⟩) (v := .string r4) (by show g < _; omega)).far (p := ⟨g, m * 7 + 5, none⟩) (v := .string r5) (by show g < _; omega)).far (p := ⟨g, m * 7 + 6, none⟩) (v := .slice AB r6.length cB) (by show g < _; omega)), fun h => by omega⟩
              · cases hq
            · rw [if_neg hjk] at hq
              obtain ⟨h1, h2⟩ := HPE.out j q hq
              refine ⟨fun h => ?_, fun h => h2 (by omega)⟩
              have k6 := (h1 (by omega)).step hw5 (Nat.le_refl _)
              exact (((((((k6.far (p := ⟨g, m * 7, none⟩) (v := .int .i64 r0) (by show g < _; omega)).far (p := ⟨g, m * 7 + 1, none⟩) (v := .int .i64 r1) (by show g < _; omega)).far (p := ⟨g, m * 7 + 2, none⟩) (v := .int .i64 r2) (by show g < _; omega)).far (p := ⟨g, m * 7 + 3, none⟩) (v := .int .i64 r3) (by show g < _; omega)).far (p := ⟨g, m * 7 + 4, none⟩) (v := .string r4) (by show g < _; omega)).far (p := ⟨g, m * 7 + 5, none⟩) (v := .string r5) (by show g < _; omega)).far (p := ⟨g, m * 7 + 6, none⟩) (v := .slice AB r6.length cB) (by show g < _; omega)))
          have HO6 := Lib.hid (show Own WF w.heap.size 27 #[.string nm, .slice A5 cs.length c5, .slice A6 zs.length c6, .slice A7 qs.length c7, .slice (some ⟨g, 0, none⟩) rs.length c9] from by rw [hWF]; exact ((((((((HO.out.below hw5 HO.out.lt).far (p := ⟨g, m * 7, none⟩) (by show w.heap.size ≠ g; omega) (.int .i64 r0)).far (p := ⟨g, m * 7 + 1, none⟩) (by show w.heap.size ≠ g; omega) (.int .i64 r1)).far (p := ⟨g, m * 7 + 2, none⟩) (by show w.heap.size ≠ g; omega) (.int .i64 r2)).far (p := ⟨g, m * 7 + 3, none⟩) (by show w.heap.size ≠ g; omega) (.int .i64 r3)).far (p := ⟨g, m * 7 + 4, none⟩) (by show w.heap.size ≠ g; omega) (.string r4)).far (p := ⟨g, m * 7 + 5, none⟩) (by show w.heap.size ≠ g; omega) (.string r5)).far (p := ⟨g, m * 7 + 6, none⟩) (by show w.heap.size ≠ g; omega) (.slice AB r6.length cB)))
          have HZ6 := Lib.hid (show Own WF (w.heap.size + 1) 27 #[.string ⟨#[]⟩, .slice none 0 0, .slice none 0 0, .slice none 0 0, .slice none 0 0] from by rw [hWF]; exact ((((((((HZ.out.below hw5 HZ.out.lt).far (p := ⟨g, m * 7, none⟩) (by show w.heap.size + 1 ≠ g; omega) (.int .i64 r0)).far (p := ⟨g, m * 7 + 1, none⟩) (by show w.heap.size + 1 ≠ g; omega) (.int .i64 r1)).far (p := ⟨g, m * 7 + 2, none⟩) (by show w.heap.size + 1 ≠ g; omega) (.int .i64 r2)).far (p := ⟨g, m * 7 + 3, none⟩) (by show w.heap.size + 1 ≠ g; omega) (.int .i64 r3)).far (p := ⟨g, m * 7 + 4, none⟩) (by show w.heap.size + 1 ≠ g; omega) (.string r4)).far (p := ⟨g, m * 7 + 5, none⟩) (by show w.heap.size + 1 ≠ g; omega) (.string r5)).far (p := ⟨g, m * 7 + 6, none⟩) (by show w.heap.size + 1 ≠ g; omega) (.slice AB r6.length cB)))
          have HK6 := Lib.hid (show Keep (w.heap.size + 2) hx Y4 WF from by rw [hWF]; exact ((((((((HKE.out.trans (Keep.of hw5 (show hx ≤ wr.heap.size by omega))).trans (Keep.set _ (p := ⟨g, m * 7, none⟩) (.inr hg1) (.int .i64 r0))).trans (Keep.set _ (p := ⟨g, m * 7 + 1, none⟩) (.inr hg1) (.int .i64 r1))).trans (Keep.set _ (p := ⟨g, m * 7 + 2, none⟩) (.inr hg1) (.int .i64 r2))).trans (Keep.set _ (p := ⟨g, m * 7 + 3, none⟩) (.inr hg1) (.int .i64 r3))).trans (Keep.set _ (p := ⟨g, m * 7 + 4, none⟩) (.inr hg1) (.string r4))).trans (Keep.set _ (p := ⟨g, m * 7 + 5, none⟩) (.inr hg1) (.string r5))).trans (Keep.set _ (p := ⟨g, m * 7 + 6, none⟩) (.inr hg1) (.slice AB r6.length cB))))
          have HB6 := Lib.hid (show Below w.heap.size w WF from by rw [hWF]; exact ((((((((hbr.trans (hw5.mono hbz)).setCell (p := ⟨g, m * 7, none⟩) (by show w.heap.size ≤ g; omega) (.int .i64 r0)).setCell (p := ⟨g, m * 7 + 1, none⟩) (by show w.heap.size ≤ g; omega) (.int .i64 r1)).setCell (p := ⟨g, m * 7 + 2, none⟩) (by show w.heap.size ≤ g; omega) (.int .i64 r2)).setCell (p := ⟨g, m * 7 + 3, none⟩) (by show w.heap.size ≤ g; omega) (.int .i64 r3)).setCell (p := ⟨g, m * 7 + 4, none⟩) (by show w.heap.size ≤ g; omega) (.string r4)).setCell (p := ⟨g, m * 7 + 5, none⟩) (by show w.heap.size ≤ g; omega) (.string r5)).setCell (p := ⟨g, m * 7 + 6, none⟩) (by show w.heap.size ≤ g; omega) (.slice AB r6.length cB)))
          have HM6 := Lib.hid (show Y4.heap.size ≤ WF.heap.size by rw [hsz]; omega)
          have HL6 := Lib.hid (show (ps.set m ((⟨r0, r1, (r2, r3, r4), r5, r6⟩ : Ex), Value.slice AB r6.length cB)).length = rs.length by rw [List.length_set]; exact HPL.out)
          clear hbV5 hw5 hs5 hVr hVd hb k5 HFD HGD HVD HQV HOV HV HBV HN HCI HFR HEL HNE HPE HQ HO HZ HKE HP1 hg2 hsz HRR
          rw [← hWF]
          clear hWF o0 o1 o2 o3 o4 o5 o6 j0 j1 j2 j3 j4 j5 j6
          go_wp2
          go_roundw
          case rel => exact ⟨m + 1, _, by omega, by go_num, HL6, HP6, HQ6, HE6, HO6, HZ6, HK6, HB6.out, HM6.out⟩
          case measure => simp [intOf]; omega
        · have hki : ¬ (m : Int) < rs.length := by omega
          have hkq : m = rs.length := by omega
          have HEX := Lib.hid (show wr.ownsRow hx 65 7 (.slice A9 rs.length c9) ps.length (flatE ps) from by rw [HPL.out]; exact HQ.out)
          have HEE := Lib.hid (show ∀ q ∈ ps, RdE wr Y4.heap.size wr.heap.size (d + 1) q.2 q.1.args from fun q hq => by
            obtain ⟨j, hj1, rfl⟩ := List.getElem_of_mem hq
            exact (HPE.out j _ (List.getElem?_eq_getElem hj1)).1 (by have := HPL.out; omega))
          have HEG := Lib.hid (show ∀ b, (Value.slice A9 rs.length c9).ownBlock = some b → hx ≤ b ∧ b < Y4.heap.size from fun b hb => by
            cases A9 with
            | none => simp [Value.ownBlock] at hb
            | some a =>
              rcases own_row HQ.out with ⟨h5, _⟩ | ⟨g', c', h5, _⟩
              · cases h5
              · injection h5 with h5
                have h6 : b = g' := by rw [h5] at hb; simp [Value.ownBlock] at hb; exact hb.symm
                subst h6
                exact HG.out b h5)
          have hxr : hx ≤ wr.heap.size := by omega
          have HKY := Lib.hid (HKX.out.keep (HKE.out.sub (Nat.le_refl _) (by have := HXX0.out; omega)))
          have HIY := Lib.hid (HIX.out.keep (HKE.out.sub (Nat.le_refl _) (by have := HXX0.out; omega)))
          have HFY := Lib.hid (HFX.out.keep (HKE.out.sub (by omega) (Nat.le_refl _)) HXX0.out.1)
          have HPM := Lib.hid HP1.out
          have HRM := Lib.hid (show Y4.heap.size ≤ wr.heap.size from hmr)
          have HYH := Lib.hid (show hx ≤ Y4.heap.size from hxy.out)
          have HBY := Lib.hid hbr
          clear HPE HQ HPL HP1 HKE HKX HIX HFX hkq HG hbr hbz hmr hxy
          have z9 := HZ.out
          have b9 := HBY.out
          have b0 := HO.out.cell 0
          have b1 := HO.out.cell 1
          have b2 := HO.out.cell 2
          have b3 := HO.out.cell 3
          have b4 := HO.out.cell 4
          have y0 := z9.cell 0
          have m0 := z9.free 0
          have y1 := z9.cell 1
          have m1 := z9.free 1
          have y2 := z9.cell 2
          have m2 := z9.free 2
          have y3 := z9.cell 3
          have m3 := z9.free 3
          have y4 := z9.cell 4
          have m4 := z9.free 4
          have HXX := Lib.hid (((((z9.store 0 (.string nm)).store 1 (.slice A5 cs.length c5)).store 2 (.slice A6 zs.length c6)).store 3 (.slice A7 qs.length c7)).store 4 (.slice A9 rs.length c9))
          have HFF := Lib.hid (((((b9.setCell (p := ⟨w.heap.size + 1, 0, none⟩) (by show w.heap.size ≤ w.heap.size + 1; omega) (.string nm)).setCell (p := ⟨w.heap.size + 1, 1, none⟩) (by show w.heap.size ≤ w.heap.size + 1; omega) (.slice A5 cs.length c5)).setCell (p := ⟨w.heap.size + 1, 2, none⟩) (by show w.heap.size ≤ w.heap.size + 1; omega) (.slice A6 zs.length c6)).setCell (p := ⟨w.heap.size + 1, 3, none⟩) (by show w.heap.size ≤ w.heap.size + 1; omega) (.slice A7 qs.length c7)).setCell (p := ⟨w.heap.size + 1, 4, none⟩) (by show w.heap.size ≤ w.heap.size + 1; omega) (.slice A9 rs.length c9))
          have HKK := Lib.hid ((((((Keep.refl (w.heap.size + 2) wr.heap.size wr).trans (Keep.set _ (p := ⟨w.heap.size + 1, 0, none⟩) (.inl (by show w.heap.size + 1 < _; omega)) (.string nm))).trans (Keep.set _ (p := ⟨w.heap.size + 1, 1, none⟩) (.inl (by show w.heap.size + 1 < _; omega)) (.slice A5 cs.length c5))).trans (Keep.set _ (p := ⟨w.heap.size + 1, 2, none⟩) (.inl (by show w.heap.size + 1 < _; omega)) (.slice A6 zs.length c6))).trans (Keep.set _ (p := ⟨w.heap.size + 1, 3, none⟩) (.inl (by show w.heap.size + 1 < _; omega)) (.slice A7 qs.length c7))).trans (Keep.set _ (p := ⟨w.heap.size + 1, 4, none⟩) (.inl (by show w.heap.size + 1 < _; omega)) (.slice A9 rs.length c9)))
          clear z9 b9 HO HZ HBY
          go_wp2
          (try simp only [Exit.inBlock, Exit.then]); refine bodyPost_ret_by (results_cell_row1 (by rfl) _ _ (w.heap.size + 1) _ (by rfl) (load_tabF HXX.out)) ?_ ?_; (focus rfl)
          exact clo_end rfl hlo2.out HXX0.out.1 HXX0.out.2 HYH.out HRM.out HKY.out HIY.out HFY.out HEX.out HEE.out HEG.out HKK.out (by simp only [World.size_setCell]) HQM.out HPM.out HFF.out
end Go.Proofs.Yteihjneeiojgaaa
