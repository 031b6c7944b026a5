import Derived.Test.YtnbeopkpkagjmaaGreatRCm
import Derived.Test.YtnbeopkpkagjmaaGreatRSt
import Derived.Test.YtnbeopkpkagjmaaGreatRI
import Derived.Test.YtnbeopkpkagjmaaGreatRE
import Derived.Test.YtnbeopkpkagjmaaGreatRDe
import Derived.Test.YtnbeopkpkagjmaaGreatRL
import Derived.Deep.RegionHeld3
import Derived.WalkKit
import Derived.WalkSpells
import Derived.WalkLawsBesides
import Derived.Deep.QuietTactic
import Derived.BigQuiet
import Derived.Handy
import Derived.Lib.Hide
/-
  The function literal of combine, as a visitor. Conditions: lengths.
-/
namespace Go.Proofs.YtnbeopkpkagjmaaGreat
set_option maxRecDepth 100000
set_option linter.unusedVariables false
set_option linter.unusedSimpArgs false
open Go.RowKit

theorem append_run_rcs (W : World) (base : Nat) (v : Value) (l : List Rc) (hown : W.ownsRow base 35 4 v l.length (flatR l)) (L B : Nat) (A : Option Addr) (m : List Rc) (n c : Nat) (hr : RdR W L B (.slice A n c) m)
    (hl : l.length + m.length ≤ 1000000000) (hbase : base ≤ W.heap.size) :
    ∃ v' w', (∀ ty, (Builtin.append_ #[22, 22] ty #[v, .slice A n c]).run Tryz.prog W = .ok v' w') ∧ w'.ownsRow base 35 4 v' (l ++ m).length (flatR (l ++ m)) ∧ W.grownBy w' v.ownBlock ∧ (∀ g, v'.ownBlock = some g → v.ownBlock = some g ∨ W.heap.size ≤ g) := by
  have hr0 := hr
  obtain ⟨A', c', hv, _, _, _⟩ := hr
  injection hv with e1 e2 e3
  subst e1 e2
  obtain ⟨i0, hi, hz0, hz1, hz2⟩ := info_parts infoRect
  cases A with
  | some ad =>
    have hcell := flatR_cell (w := W) (ad := ad) (m := m) (fun k r hk => by
      obtain ⟨ad', e, _, _, k0⟩ := hr0.at hk
      injection e with e
      subst e
      exact k0)
    have h0 := fun ty => run_append_own_at (P := Tryz.prog) W base 22 ty 35 i0 (.agg #[.int .i64 0, .int .i64 0, .int .i64 0, .int .i64 0]) 4 32 Tryz.underlying22 hi hz0 hz1 hz2 rfl (by decide) v l.length (flatR l) hown ad m.length c (flatR m) (flatR_length m) hcell (flatR_one m) (by unfold maxLen; omega) (by omega) hbase
    obtain ⟨v', w', h1, h2, h3, _, h5⟩ := h0 0
    refine ⟨v', w', fun ty => ?_, by rw [flatR_append, List.length_append]; exact h2, h3, fun g hg => ?_⟩
    · obtain ⟨v2, w2, k1, _⟩ := h0 ty
      have e : (Builtin.append_ #[22, 22] ty #[v, .slice (some ad) m.length c]).run Tryz.prog W = (Builtin.append_ #[22, 22] 0 #[v, .slice (some ad) m.length c]).run Tryz.prog W := rfl
      rw [e]; exact h1
    · rcases h5 with h5 | h5
      · exact .inl (by rw [← h5]; exact hg)
      · right; rw [h5] at hg; injection hg with hg; omega
  | none =>
    have hm : m = [] := by
      cases m with
      | nil => rfl
      | cons p m => obtain ⟨ad', e, _⟩ := hr0.at (k := 0) (r := p) rfl; cases e
    subst hm
    exact ⟨v, W, fun ty => run_append_nil W base 22 ty 35 i0 4 Tryz.underlying22 hi v l.length (flatR l) hown c, by rw [List.append_nil]; exact hown, grown_refl _ _, fun g hg => .inl hg⟩
set_option maxHeartbeats 1600000 in
theorem pExtend_none (t : Int) (w : World) : Calls Tryz.prog 56 #[.slice none 0 0, .int .i64 t] w fun e w' => e = .returned (.tuple #[]) ∧ w' = w := by
  go_enter Tryz.func56, Tryz.ntmps56
  go_wp2
  go_loopw [7] (fun i wr => i = .int .i64 0 ∧ wr = w) (fun _ _ => 0)
  case atStart => exact ⟨rfl, rfl⟩
  case round =>
    obtain ⟨rfl, rfl⟩ := hrel
    go_wp2
    go_returns
    exact ⟨rfl, rfl⟩
theorem own_fit {w : World} {base : Nat} {v : Value} {l : List Rc} (h : w.ownsRow base 35 4 v l.length (flatR l)) : (v = .slice none 0 0 ∧ l = []) ∨ ∃ g c, v = .slice (some ⟨g, 0, none⟩) l.length c ∧ base ≤ g ∧ l.length ≤ c := by
  rcases own_get h with ⟨rfl, h0⟩ | ⟨g, c, rfl, hb, _, hn, _⟩
  · exact .inl ⟨rfl, List.eq_nil_of_length_eq_zero h0⟩
  · exact .inr ⟨g, c, rfl, hb, hn⟩
/-- What a visit leaves. -/
def RetVis (w0 : World) (G gop gr gl N : Nat) (f : Bool → Bool → Bool) (zs : List St2) (P : Nat → Prop) (L : Nat) (W : World) (e : Ending) (W' : World) : Prop :=
  e = .returned (.tuple #[]) ∧ ∃ P', RCm w0 G gop gr gl N f zs P' W' ∧ (∀ g, P' g → P g ∨ L ≤ g) ∧ KeepV N P W W'
theorem RdP.setFar {w : World} {L B : Nat} {v : Value} {l : List (Int × Int)} (hr : RdP w L B v l) {p : Addr} (hp : p.block < L) (u : Value) : RdP (w.setCell p u) L B v l := by
  obtain ⟨A, c, hv, hl, hcc, hc⟩ := hr
  refine ⟨A, c, hv, hl, hcc, fun k n hk => ?_⟩
  obtain ⟨ad, h1, h0, h2, h3, h4⟩ := hc k n hk
  have g : ∀ a : Addr, a.block = ad.block → (w.setCell p u).cell? a = w.cell? a := fun a ha => World.cell?_of_block (Below.heap_setCell w p u _ (by omega))
  exact ⟨ad, h1, h0, h2, (g _ (add_block _ _)).trans h3, (g ⟨(ad.add (k * 2)).block, (ad.add (k * 2)).off + 1, none⟩ (add_block _ _)).trans h4⟩
theorem RdP.grownFar {w w' : World} {L B : Nat} {v : Value} {l : List (Int × Int)} {row : Option Nat} (hr : RdP w L B v l) (h : w.grownBy w' row) (hB : B ≤ w.heap.size) (hp : ∀ g, row = some g → g < L ∨ B ≤ g) : RdP w' L B v l := by
  obtain ⟨A, c, hv, hl, hcc, hc⟩ := hr
  refine ⟨A, c, hv, hl, hcc, fun k n hk => ?_⟩
  obtain ⟨ad, h1, h0, h2, h3, h4⟩ := hc k n hk
  have g : ∀ a : Addr, a.block = ad.block → w'.cell? a = w.cell? a := fun a ha => World.cell?_of_block (by rw [ha]; exact h.block _ (by omega) (fun e => by have := hp _ e.symm; omega))
  exact ⟨ad, h1, h0, h2, (g _ (add_block _ _)).trans h3, (g ⟨(ad.add (k * 2)).block, (ad.add (k * 2)).off + 1, none⟩ (add_block _ _)).trans h4⟩
theorem fin_vis {w0 : World} {G gop gr gl N : Nat} {f : Bool → Bool → Bool} {zs : List St2} {P : Nat → Prop} {W w7 : World} {v0 lv v' r : Value} {res res' : List Rc} {last : List (Int × Int)} {Ll Ul L U : Nat} (h : CmI w0 G gop gr gl N f zs P W v0 lv res last Ll Ul) (hB : Bxs w0 gop gr gl N) (z : St2)
    (KV : KeepV N P W w7) (oP : Own w7 gop 42 #[.func (.func G) #[] #[]]) (oR : Own w7 gr 22 #[v']) (oL : Own w7 gl 27 #[lv]) (row : w7.ownsRow N 35 4 v' res'.length (flatR res'))
    (rd : RdP w7 L U r (toSt f z).2) (bw : Below w0.heap.size w0 w7) (hvs : (vstep (res, last) (toSt f z)).1 = res') (lies : ∀ g, v'.ownBlock = some g → v0.ownBlock = some g ∨ U ≤ g) (hP : ∀ g, P g → g < L) (hN : N ≤ L) (hLU : L ≤ U) (hU : U ≤ w7.heap.size) (hx : z.2.1.length ≤ 12000) (hy : z.2.2.length ≤ 12000) :
    RetVis w0 G gop gr gl N f (zs ++ [z]) P L W (.returned (.tuple #[])) (w7.setCell ⟨gl, 0, none⟩ r) := by
  have hlN := hB.lN
  refine ⟨rfl, fun g => v'.ownBlock = some g ∨ (L ≤ g ∧ g < U), ⟨v', r, res', (toSt f z).2, L, U, h.next z (oP.far (p := ⟨gl, 0, none⟩) hB.ol r) (oR.far (p := ⟨gl, 0, none⟩) (fun e => hB.rl e) r) (oL.store 0 r) hvs (own_setCell row (p := ⟨gl, 0, none⟩) hlN r) (rd.setFar (p := ⟨gl, 0, none⟩) (by show gl < L; omega) r) hN (by rw [World.size_setCell]; exact hU) (fun g hg => .inl hg) (fun g h1 h2 => .inr ⟨h1, h2⟩) (fun g hg => ?_) (fun g hg => ?_) (bw.setCell (p := ⟨gl, 0, none⟩) hB.l0 r) hx hy⟩, fun g hg => ?_, KV.setCell (p := ⟨gl, 0, none⟩) hlN r⟩
  · rw [World.size_setCell]
    rcases hg with hg | hg
    · exact (World.ownsRow.lt row g hg).2
    · omega
  · rcases lies g hg with h1 | h1
    · exact .inl (hP g (h.pr g h1))
    · exact .inr h1
  · rcases hg with hg | hg
    · rcases lies g hg with h1 | h1
      · exact .inl (h.pr g h1)
      · exact .inr (by omega)
    · exact .inr hg.1
set_option maxRecDepth 100000 in
set_option maxHeartbeats 12800000 in
theorem pCv_call (w0 : World) (G gop gr gl N : Nat) (f : Bool → Bool → Bool) (hB : Bxs w0 gop gr gl N) (hO : OpC G f) (zs : List St2) (P : Nat → Prop) (W : World) (s1 s2 : Int) (x y : List (Int × Int)) (u v : Value) (L : Nat)
    (hR : RCm w0 G gop gr gl N f zs P W) (hN : N ≤ L) (hL : L ≤ W.heap.size) (hP : ∀ g, P g → g < L) (hu : RdP W L W.heap.size u x) (hv : RdP W L W.heap.size v y) (sx : spB (-1) x = true) (sy : spB (-1) y = true) (lx : x.length ≤ 12000) (ly : y.length ≤ 12000) (lz : zs.length ≤ 12000) :
    Calls Tryz.prog 55 #[.agg #[.int .i64 s1, .int .i64 s2], u, v, .pointer (some ⟨gop, 0, none⟩), .pointer (some ⟨gl, 0, none⟩), .pointer (some ⟨gr, 0, none⟩)] W (RetVis w0 G gop gr gl N f (zs ++ [((s1, s2), x, y)]) P L W) := by
  obtain ⟨v0, lv, res, last, Ll, Ul, hI⟩ := hR
  have eg := hO.1
  have bV : Below W.heap.size W (W.alloc (.cells #[.int .i64 s1, .int .i64 s2] 33)) := (Below.refl _ _).alloc (Nat.le_refl _) _
  have oV := Own.new W 33 #[.int .i64 s1, .int .i64 s2]
  have sV : W.heap.size < (W.alloc (.cells #[.int .i64 s1, .int .i64 s2] 33)).heap.size := by simp
  have HOp := Lib.hid (hO.2 u v x y (W.alloc (.cells #[.int .i64 s1, .int .i64 s2] 33)) L (by omega) (hu.step bV (Nat.le_refl _)) (hv.step bV (Nat.le_refl _)) sx sy (by omega) (by omega))
  have HI := Lib.hid hI
  have HB := Lib.hid hB
  have lop := hI.op.lt
  have lrs := hI.rs.lt
  have lla := hI.la.lt
  have hvs := hI.op.below bV lop
  have kop := hvs.cell 0
  have hnr := hI.nr
  have hle := hI.le
  have hUW := hI.uW
  have hlN := hI.lN
  have hcl := comb_len f x y
  have hbr := hB.rN
  have hbl := hB.lN
  have hb0 := hB.r0
  have hb1 := hB.l0
  have hrl := hB.rl
  have HF := Lib.hid (show toSt f ((s1, s2), x, y) = ((s1, s2), comb f x y) from rfl)
  clear hO hu hv sx sy hvs
  go_enter Tryz.func55, Tryz.ntmps55
  go_wp2_with fail
  generalize hV2 : W.alloc (.cells #[.int .i64 s1, .int .i64 s2] 33) = V at *
  clear hV2
  generalize hgN : W.heap.size = gN at *
  with_reducible refine HOp.out.mono ?_
  rintro e w5 ⟨r, rfl, r5, hb5⟩
  have B5 : Below gN W w5 := bV.trans (hb5.mono (by have := bV.size; omega))
  have z5 := B5.size
  have o5 := oV.below hb5 sV
  have R5 := Lib.hid r5
  obtain ⟨AR, cR, rfl, _⟩ := r5
  generalize hcm : comb f x y = cm at *
  have z5b := hb5.size
  clear HOp bV oV hb5 kop
  have oL5 := hI.la.below B5 (by omega)
  have kl := oL5.cell 0
  obtain ⟨AL, cL, rfl, _⟩ := hI.rd
  have HEq := Lib.hid (pEqP_any (.slice AR cm.length cR) (.slice AL last.length cL) cm last w5 L Ll R5.out ((hI.rd.below (B5.mono (by omega))).more (by omega) (Nat.le_refl _)))
  clear hI
  go_wp2_with fail
  with_reducible refine HEq.out.mono ?_
  rintro e w6 ⟨rfl, hb6⟩
  have B6 : Below gN W w6 := B5.trans (hb6.mono (by omega))
  have z6 := B6.size
  have z56 := hb6.size
  have o6 := o5.below hb6 o5.lt
  have oR6 := HI.out.rs.below B6 (by omega)
  have oL6 := HI.out.la.below B6 (by omega)
  have oP6 := HI.out.op.below B6 (by omega)
  have R6 := Lib.hid (R5.out.below hb6)
  have HK6 := Lib.hid (KeepV.of_below (N := N) (P := P) (w := W) (w' := w6) (by rw [hgN]; exact B6))
  have HW6 := Lib.hid (show Below w0.heap.size w0 w6 from HI.out.bw.trans (B6.mono (by have := HI.out.bw.size; omega)))
  have HRow := Lib.hid (own_below HI.out.row (show Below W.heap.size W w6 by rw [hgN]; exact B6))
  have hr0 := HB.out.r0
  have hl0 := HB.out.l0
  clear HEq o5 oL5 kl B5 hb6
  have oN := o6
  have kr := oR6.cell 0
  by_cases he : cm = last
  · have hd : decide (cm = last) = true := decide_eq_true he
    have hml : cm.length = last.length := by rw [he]
    have hdl : cm.length ≤ res.length := by omega
    obtain ⟨d, hdd⟩ : ∃ d, res.length = d + cm.length := ⟨res.length - cm.length, by omega⟩
    have HVS := Lib.hid (show (vstep (res, last) (toSt f ((s1, s2), x, y))).1 = res.take d ++ (res.drop d).map (endR s2) by
      rw [HF.out]
      unfold vstep
      rw [if_pos he]
      show res.take (res.length - cm.length) ++ _ = _
      rw [show res.length - cm.length = d by omega]; rfl)
    have HE := Lib.hid he
    clear he
    rcases own_fit HRow.out with ⟨hv0, hres⟩ | ⟨g, c, hv0, hbg, hnc⟩
    · subst hv0
      have hm0 : cm.length = 0 := by rw [hres] at hdl; simpa using hdl
      have hd0 : d = 0 := by rw [hres] at hdd; simp at hdd; omega
      have HVS2 := Lib.hid (show (vstep (res, last) (toSt f ((s1, s2), x, y))).1 = res by rw [HVS.out, hres]; simp)
      have i1 : IntKind.i64.wrap (0 - (cm.length : Int)) = 0 := by rw [hm0]; rfl
      have i2 : (cm.length : Int) = 0 := by omega
      have HX := pExtend_none s2
      have hw0 : IntKind.i64.wrap 0 = 0 := rfl
      rw [hm0]
      have HM0 := Lib.hid hm0
      clear hm0 hd0 hdd hml hdl HVS i1 i2
      have HRS := Lib.hid hres
      clear hres
      go_wp2
      have s0 : w6.drew.cell? ⟨gr, 0, none⟩ = some (.slice none 0 0) ∧ w6.drew.cell? ⟨gN, 0, none⟩ = some (.int .i64 s1) ∧ w6.drew.cell? ⟨gN, 1, none⟩ = some (.int .i64 s2) := ⟨oR6.cell 0, oN.cell 0, oN.cell 1⟩
      refine wp_region_held_drew (S := fun w' => w'.cell? ⟨gr, 0, none⟩ = some (.slice none 0 0) ∧ w'.cell? ⟨gN, 0, none⟩ = some (.int .i64 s1) ∧ w'.cell? ⟨gN, 1, none⟩ = some (.int .i64 s2)) (by kernel_rfl) s0 (fun hHeld => ?_)
      (refine takeD (i := 0) (d := 17) (oi := _) (v := ?_) rfl rfl (by kernel_rfl) (by kernel_rfl) (by kernel_rfl) (fun _ _ _ h => h) (Or.inl ⟨by rfl, ?_⟩) (by assumption) ?_; rotate_left; (focus ((intro w hSw; (try dsimp only at hSw); go_simp) <;> (with_reducible rfl))); (try simp only [Act.put, List.setIfInBounds_toArray, List.set_cons_zero, List.set_cons_succ]))
      (refine takeD (i := 1) (d := 18) (oi := _) (v := ?_) rfl rfl (by kernel_rfl) (by kernel_rfl) (by kernel_rfl) (fun _ _ _ h => h) (Or.inl ⟨by rfl, ?_⟩) (by assumption) ?_; rotate_left; (focus ((intro w hSw; (try dsimp only at hSw); go_simp) <;> (with_reducible rfl))); (try simp only [Act.put, List.setIfInBounds_toArray, List.set_cons_zero, List.set_cons_succ]))
      (refine takeD (i := 2) (d := 19) (oi := _) (v := ?_) rfl rfl (by kernel_rfl) (by kernel_rfl) (by kernel_rfl) (fun _ _ _ h => h) (Or.inl ⟨by rfl, ?_⟩) (by assumption) ?_; rotate_left; (focus ((intro w hSw; (try dsimp only at hSw); go_simp) <;> (with_reducible rfl))); (try simp only [Act.put, List.setIfInBounds_toArray, List.set_cons_zero, List.set_cons_succ]))
      (refine takeD (i := 3) (d := 20) (oi := _) (v := ?_) rfl rfl (by kernel_rfl) (by kernel_rfl) (by kernel_rfl) (fun _ _ _ h => h) (Or.inl ⟨by rfl, ?_⟩) (by assumption) ?_; rotate_left; (focus ((intro w hSw; (try dsimp only at hSw); go_simp) <;> (with_reducible rfl))); (try simp only [Act.put, List.setIfInBounds_toArray, List.set_cons_zero, List.set_cons_succ]))
      (refine takeD (i := 4) (d := 21) (oi := _) (v := ?_) rfl rfl (by kernel_rfl) (by kernel_rfl) (by kernel_rfl) (fun _ _ _ h => h) (Or.inl ⟨by rfl, ?_⟩) (by assumption) ?_; rotate_left; (focus ((intro w hSw; (try dsimp only at hSw); go_simp) <;> (with_reducible rfl))); (try simp only [Act.put, List.setIfInBounds_toArray, List.set_cons_zero, List.set_cons_succ]))
      (refine takeD (i := 5) (d := 22) (oi := _) (v := ?_) rfl rfl (by kernel_rfl) (by kernel_rfl) (by kernel_rfl) (fun _ _ _ h => h) (Or.inl ⟨by rfl, ?_⟩) (by assumption) ?_; rotate_left; (focus ((intro w hSw; (try dsimp only at hSw); go_simp) <;> (with_reducible rfl))); (try simp only [Act.put, List.setIfInBounds_toArray, List.set_cons_zero, List.set_cons_succ]))
      (refine takeD (i := 6) (d := 23) (oi := _) (v := ?_) rfl rfl (by kernel_rfl) (by kernel_rfl) (by kernel_rfl) (fun _ _ _ h => h) (Or.inl ⟨by rfl, ?_⟩) (by assumption) ?_; rotate_left; (focus ((intro w hSw; (try dsimp only at hSw); go_simp) <;> (with_reducible rfl))); (try simp only [Act.put, List.setIfInBounds_toArray, List.set_cons_zero, List.set_cons_succ]))
      (refine takeD (i := 7) (d := 24) (oi := _) (v := ?_) rfl rfl (by kernel_rfl) (by kernel_rfl) (by kernel_rfl) (fun _ _ _ h => h) (Or.inl ⟨by rfl, ?_⟩) (by assumption) ?_; rotate_left; (focus ((intro w hSw; (try dsimp only at hSw); go_simp) <;> (with_reducible rfl))); (try simp only [Act.put, List.setIfInBounds_toArray, List.set_cons_zero, List.set_cons_succ]))
      (refine takeD (i := 8) (d := 25) (oi := _) (v := ?_) rfl rfl (by kernel_rfl) (by kernel_rfl) (by kernel_rfl) (fun _ _ _ h => h) (Or.inl ⟨by rfl, ?_⟩) (by assumption) ?_; rotate_left; (focus ((intro w hSw; (try dsimp only at hSw); go_simp) <;> (with_reducible rfl))); (try simp only [Act.put, List.setIfInBounds_toArray, List.set_cons_zero, List.set_cons_succ]))
      refine wpAnyH_ready (rs := [9]) (by kernel_rfl) (by simp) ?_
      refine AllReadyH.cons (o := _) rfl (fun K hK => ?_) AllReadyH.nil
      go_simp
      (go_at_call 56; refine (HX _).mono ?_; rintro e w7 ⟨rfl, rfl⟩; go_wp2_with fail)
      refine hK.out _ _ (by (try dsimp only); exact s0) (fun hHeld => ?_)
      clear hK
      (try simp only [Act.put, List.setIfInBounds_toArray, List.set_cons_zero, List.set_cons_succ])
      refine wpAnyH_done (by kernel_rfl) ?_ _
      have kd : w6.drew.cell? ⟨gl, 0, none⟩ = some (.slice AL last.length cL) := oL6.cell 0
      have fd : w6.drew.frozen? ⟨gl, 0, none⟩ = false := oL6.free 0
      have HFin := Lib.hid (fin_vis HI.out HB.out ((s1, s2), x, y) (KeepV.below HK6.out (Below.drew (Below.refl _ _))) (show Own w6.drew gop _ _ from oP6) (show Own w6.drew gr _ _ from oR6) (show Own w6.drew gl _ _ from oL6) (World.ownsRow.drew HRow.out) (r := .slice AR cm.length cR) (L := L) (U := w5.heap.size) (by rw [HF.out]; exact R6.out.below (Below.drew (Below.refl _ _))) (HW6.out.trans (Below.drew (Below.refl _ _))) HVS2.out (fun g hg => .inl hg) hP hN (by omega) (show w5.heap.size ≤ w6.heap.size from z56) lx ly)
      rw [HM0.out] at HFin
      clear HVS2 HF R6
      go_wp2
      go_returns
      exact HFin.out
    · subst hv0
      have i1 : IntKind.i64.wrap ((res.length : Int) - (cm.length : Int)) = (d : Int) := by rw [show (res.length : Int) - (cm.length : Int) = (d : Int) by omega]; exact IntWalk.i64_in _ (by omega)
      have i2 : (0 : Int) ≤ (d : Int) := by omega
      have i3 : (d : Int) ≤ (res.length : Int) := by omega
      have i4 : d ≤ c := by omega
      obtain ⟨A, hA⟩ : ∃ A : Addr, (if c = d then some (⟨g, 0, none⟩ : Addr) else some ⟨g, d * 4, none⟩) = some A := by
        by_cases h : c = d
        · exact ⟨⟨g, 0, none⟩, by rw [if_pos h]⟩
        · exact ⟨⟨g, d * 4, none⟩, by rw [if_neg h]⟩
      have HX := Lib.hid (pExtend_any g c (c - d) d (res.length - d) (some A) res s2 w6.drew N (World.ownsRow.drew HRow.out) hbg (by omega) (fun hn => by rw [← hA, if_neg (by omega)]) (by omega))
      clear hdd hml hdl
      go_wp2
      have s0 : w6.drew.cell? ⟨gr, 0, none⟩ = some (.slice (some ⟨g, 0, none⟩) res.length c) ∧ w6.drew.cell? ⟨gN, 0, none⟩ = some (.int .i64 s1) ∧ w6.drew.cell? ⟨gN, 1, none⟩ = some (.int .i64 s2) := ⟨oR6.cell 0, oN.cell 0, oN.cell 1⟩
      refine wp_region_held_drew (S := fun w' => w'.cell? ⟨gr, 0, none⟩ = some (.slice (some ⟨g, 0, none⟩) res.length c) ∧ w'.cell? ⟨gN, 0, none⟩ = some (.int .i64 s1) ∧ w'.cell? ⟨gN, 1, none⟩ = some (.int .i64 s2)) (by kernel_rfl) s0 (fun hHeld => ?_)
      (refine takeD (i := 0) (d := 17) (oi := _) (v := ?_) rfl rfl (by kernel_rfl) (by kernel_rfl) (by kernel_rfl) (fun _ _ _ h => h) (Or.inl ⟨by rfl, ?_⟩) (by assumption) ?_; rotate_left; (focus ((intro w hSw; (try dsimp only at hSw); go_simp) <;> (with_reducible rfl))); (try simp only [Act.put, List.setIfInBounds_toArray, List.set_cons_zero, List.set_cons_succ]))
      (refine takeD (i := 1) (d := 18) (oi := _) (v := ?_) rfl rfl (by kernel_rfl) (by kernel_rfl) (by kernel_rfl) (fun _ _ _ h => h) (Or.inl ⟨by rfl, ?_⟩) (by assumption) ?_; rotate_left; (focus ((intro w hSw; (try dsimp only at hSw); go_simp) <;> (with_reducible rfl))); (try simp only [Act.put, List.setIfInBounds_toArray, List.set_cons_zero, List.set_cons_succ]))
      (refine takeD (i := 2) (d := 19) (oi := _) (v := ?_) rfl rfl (by kernel_rfl) (by kernel_rfl) (by kernel_rfl) (fun _ _ _ h => h) (Or.inl ⟨by rfl, ?_⟩) (by assumption) ?_; rotate_left; (focus ((intro w hSw; (try dsimp only at hSw); go_simp) <;> (with_reducible rfl))); (try simp only [Act.put, List.setIfInBounds_toArray, List.set_cons_zero, List.set_cons_succ]))
      (refine takeD (i := 3) (d := 20) (oi := _) (v := ?_) rfl rfl (by kernel_rfl) (by kernel_rfl) (by kernel_rfl) (fun _ _ _ h => h) (Or.inl ⟨by rfl, ?_⟩) (by assumption) ?_; rotate_left; (focus ((intro w hSw; (try dsimp only at hSw); go_simp) <;> (with_reducible rfl))); (try simp only [Act.put, List.setIfInBounds_toArray, List.set_cons_zero, List.set_cons_succ]))
      (refine takeD (i := 4) (d := 21) (oi := _) (v := ?_) rfl rfl (by kernel_rfl) (by kernel_rfl) (by kernel_rfl) (fun _ _ _ h => h) (Or.inl ⟨by rfl, ?_⟩) (by assumption) ?_; rotate_left; (focus ((intro w hSw; (try dsimp only at hSw); go_simp) <;> (with_reducible rfl))); (try simp only [Act.put, List.setIfInBounds_toArray, List.set_cons_zero, List.set_cons_succ]))
      (refine takeD (i := 5) (d := 22) (oi := _) (v := ?_) rfl rfl (by kernel_rfl) (by kernel_rfl) (by kernel_rfl) (fun _ _ _ h => h) (Or.inl ⟨by rfl, ?_⟩) (by assumption) ?_; rotate_left; (focus ((intro w hSw; (try dsimp only at hSw); go_simp) <;> (with_reducible rfl))); (try simp only [Act.put, List.setIfInBounds_toArray, List.set_cons_zero, List.set_cons_succ]))
      (refine takeD (i := 6) (d := 23) (oi := _) (v := ?_) rfl rfl (by kernel_rfl) (by kernel_rfl) (by kernel_rfl) (fun _ _ _ h => h) (Or.inl ⟨by rfl, ?_⟩) (by assumption) ?_; rotate_left; (focus ((intro w hSw; (try dsimp only at hSw); go_simp) <;> (with_reducible rfl))); (try simp only [Act.put, List.setIfInBounds_toArray, List.set_cons_zero, List.set_cons_succ]))
      (refine takeD (i := 7) (d := 24) (oi := _) (v := ?_) rfl rfl (by kernel_rfl) (by kernel_rfl) (by kernel_rfl) (fun _ _ _ h => h) (Or.inl ⟨by rfl, ?_⟩) (by assumption) ?_; rotate_left; (focus ((intro w hSw; (try dsimp only at hSw); go_simp) <;> (with_reducible rfl))); (try simp only [Act.put, List.setIfInBounds_toArray, List.set_cons_zero, List.set_cons_succ]))
      (refine takeD (i := 8) (d := 25) (oi := _) (v := ?_) rfl rfl (by kernel_rfl) (by kernel_rfl) (by kernel_rfl) (fun _ _ _ h => h) (Or.inl ⟨by rfl, ?_⟩) (by assumption) ?_; rotate_left; (focus ((intro w hSw; (try dsimp only at hSw); go_simp) <;> (with_reducible rfl))); (try simp only [Act.put, List.setIfInBounds_toArray, List.set_cons_zero, List.set_cons_succ]))
      have oRd : Own w6.drew gr 22 #[.slice (some ⟨g, 0, none⟩) res.length c] := oR6
      have hap := own_apart (World.ownsRow.drew HRow.out) oRd (by decide)
      have hap2 := own_apart (World.ownsRow.drew HRow.out) (show Own w6.drew gN _ _ from oN) (by decide)
      have hap3 := own_apart (World.ownsRow.drew HRow.out) (show Own w6.drew gop _ _ from oP6) (by decide)
      have hap4 := own_apart (World.ownsRow.drew HRow.out) (show Own w6.drew gl _ _ from oL6) (by decide)
      refine wpAnyH_ready (rs := [9]) (by kernel_rfl) (by simp) ?_
      refine AllReadyH.cons (o := _) rfl (fun K hK => ?_) AllReadyH.nil
      go_simp
      (go_at_call 56; refine HX.out.mono ?_; rintro e w7 ⟨rfl, hl7, hg7⟩; have oR7 := Own.grown oRd hg7 hap; have oN7 := Own.grown (show Own w6.drew gN _ _ from oN) hg7 hap2; have oP7 := Own.grown (show Own w6.drew gop _ _ from oP6) hg7 hap3; have oL7 := Own.grown (show Own w6.drew gl _ _ from oL6) hg7 hap4; have HL7 := Lib.hid hl7; have HG7 := Lib.hid hg7; clear hl7 hg7; go_wp2_with fail)
      refine hK.out _ _ (by (try dsimp only); exact ⟨oR7.cell 0, oN7.cell 0, oN7.cell 1⟩) (fun hHeld => ?_)
      clear hK
      (try simp only [Act.put, List.setIfInBounds_toArray, List.set_cons_zero, List.set_cons_succ])
      refine wpAnyH_done (by kernel_rfl) ?_ _
      have hlr : (res.take d ++ (res.drop d).map (endR s2)).length = res.length := by rw [List.length_append, List.length_take, List.length_map, List.length_drop]; omega
      have kd := oL7.cell 0
      have fd := oL7.free 0
      have hgL : g < L := hP g (HI.out.pr g rfl)
      have R7p := Lib.hid (RdP.grownFar (R6.out.below (Below.drew (Below.refl _ _))) HG7.out (show w5.heap.size ≤ w6.heap.size from z56) (fun g' hg' => by injection hg' with e; omega))
      have HFin := Lib.hid (fin_vis HI.out HB.out ((s1, s2), x, y) ((KeepV.below HK6.out (Below.drew (Below.refl _ _))).grown HG7.out (fun g' hg' => .inl (HI.out.pr g' hg'))) oP7 oR7 oL7 (by rw [hlr]; exact HL7.out) (r := .slice AR cm.length cR) (L := L) (U := w5.heap.size) (by rw [HF.out]; exact R7p.out) ((HW6.out.trans (Below.drew (Below.refl _ _))).trans (below_grown HG7.out (fun g' hg' => by injection hg' with e; omega) (by show _ ≤ w6.heap.size; omega))) HVS.out (fun g hg => .inl hg) hP hN (by omega) (Nat.le_trans z56 HG7.out.size) lx ly)
      clear HVS HF R6 HL7 HG7 hlr
      go_wp2
      go_returns
      exact HFin.out
  · have hd : decide (cm = last) = false := decide_eq_false he
    have HVS := Lib.hid (show (vstep (res, last) (toSt f ((s1, s2), x, y))).1 = res ++ strR (s1, s2) cm by
      rw [HF.out]
      unfold vstep
      rw [if_neg he]
      rfl)
    clear he
    have hsl : (strR (s1, s2) cm).length = cm.length := by unfold strR; rw [List.length_map]
    obtain ⟨A0, n0, c0, rfl⟩ : ∃ A0 n0 c0, v0 = .slice A0 n0 c0 := by
      rcases own_fit HRow.out with ⟨hv0, _⟩ | ⟨g, c, hv0, _, _⟩
      · exact ⟨_, _, _, hv0⟩
      · exact ⟨_, _, _, hv0⟩
    have HSt := Lib.hid (pStrip_any (.slice AR cm.length cR) cm s1 s2 w6.drew L ((R6.out.below (Below.drew (Below.refl _ _))).more (show w5.heap.size ≤ w6.heap.size from z56) (Nat.le_refl _)) (by omega))
    go_wp2
    have s0 : w6.drew.cell? ⟨gN, 0, none⟩ = some (.int .i64 s1) ∧ w6.drew.cell? ⟨gN, 1, none⟩ = some (.int .i64 s2) := ⟨oN.cell 0, oN.cell 1⟩
    have kr0 : w6.drew.cell? ⟨gr, 0, none⟩ = some (.slice A0 n0 c0) := oR6.cell 0
    refine wp_region_held_drew (S := fun w' => w'.cell? ⟨gN, 0, none⟩ = some (.int .i64 s1) ∧ w'.cell? ⟨gN, 1, none⟩ = some (.int .i64 s2)) (by kernel_rfl) s0 (fun hHeld => ?_)
    (refine takeD (i := 1) (d := 28) (oi := _) (v := ?_) rfl rfl (by kernel_rfl) (by kernel_rfl) (by kernel_rfl) (fun _ _ _ h => h) (Or.inl ⟨by rfl, ?_⟩) (by assumption) ?_; rotate_left; (focus ((intro w hSw; (try dsimp only at hSw); go_simp) <;> (with_reducible rfl))); (try simp only [Act.put, List.setIfInBounds_toArray, List.set_cons_zero, List.set_cons_succ]))
    (refine takeD (i := 2) (d := 29) (oi := _) (v := ?_) rfl rfl (by kernel_rfl) (by kernel_rfl) (by kernel_rfl) (fun _ _ _ h => h) (Or.inl ⟨by rfl, ?_⟩) (by assumption) ?_; rotate_left; (focus ((intro w hSw; (try dsimp only at hSw); go_simp) <;> (with_reducible rfl))); (try simp only [Act.put, List.setIfInBounds_toArray, List.set_cons_zero, List.set_cons_succ]))
    refine wpAnyH_ready (rs := [0, 3]) (by kernel_rfl) (by simp) ?_
    refine AllReadyH.cons (o := _) rfl (fun K hK => ?_) (AllReadyH.cons (o := _) rfl (fun K hK => ?_) AllReadyH.nil)
    · skip
      go_simp
      skip
      refine hK.out _ _ (by (try dsimp only); exact s0) (fun hHeld => ?_)
      clear hK
      (try simp only [Act.put, List.setIfInBounds_toArray, List.set_cons_zero, List.set_cons_succ])
      refine wpAnyH_ready (rs := [3]) (by kernel_rfl) (by simp) ?_
      refine AllReadyH.cons (o := _) rfl (fun K hK => ?_) AllReadyH.nil
      go_simp
      (go_at_call 57; refine HSt.out.mono ?_; rintro e w7 ⟨vt, rfl, rt7, hb7⟩; have oN7 := (show Own w6.drew gN _ _ from oN).below hb7 (show Own w6.drew gN _ _ from oN).lt; have kr7 := (hb7.cell (p := ⟨gr, 0, none⟩) (show gr < w6.heap.size from oR6.lt)).trans kr0; have RT := Lib.hid rt7; obtain ⟨AT, cT, rfl, _⟩ := rt7; have HB7 := Lib.hid hb7; have z7 := hb7.size; clear hb7; go_wp2_with fail)
      refine hK.out _ _ (by (try dsimp only); exact ⟨oN7.cell 0, oN7.cell 1⟩) (fun hHeld => ?_)
      clear hK
      (try simp only [Act.put, List.setIfInBounds_toArray, List.set_cons_zero, List.set_cons_succ])
      have hrow7 := own_below (World.ownsRow.drew HRow.out) HB7.out
      have oR7 := (show Own w6.drew gr _ _ from oR6).below HB7.out (show gr < w6.heap.size from oR6.lt)
      have oP7 := (show Own w6.drew gop _ _ from oP6).below HB7.out (show gop < w6.heap.size from oP6.lt)
      have oL7 := (show Own w6.drew gl _ _ from oL6).below HB7.out (show gl < w6.heap.size from oL6.lt)
      obtain ⟨v8, w8, hr8, hl8, hg8, hv8⟩ := append_run_rcs w7 N (.slice A0 n0 c0) res hrow7 _ _ AT (strR (s1, s2) cm) _ cT RT.out (by rw [hsl]; omega) (by have z7' : w6.heap.size ≤ w7.heap.size := z7; omega)
      have oN8 := oN7.grown hg8 (own_apart hrow7 oN7 (by decide))
      have oR8 := oR7.grown hg8 (own_apart hrow7 oR7 (by decide))
      have oP8 := oP7.grown hg8 (own_apart hrow7 oP7 (by decide))
      have oL8 := oL7.grown hg8 (own_apart hrow7 oL7 (by decide))
      have hne1 : gN ≠ gr := by omega
      have hne2 : gop ≠ gr := HB.out.orr
      have hne3 : gl ≠ gr := fun e => hrl e.symm
      have z7' : w6.heap.size ≤ w7.heap.size := z7
      have hgr8 : ∀ g', (Value.slice A0 n0 c0).ownBlock = some g' → N ≤ g' := fun g' hg' => (World.ownsRow.lt hrow7 g' hg').1
      have HFin := Lib.hid (fin_vis (w7 := w8.setCell ⟨gr, 0, none⟩ v8) (v' := v8) HI.out HB.out ((s1, s2), x, y) ((((KeepV.below HK6.out (Below.drew (Below.refl _ _))).below HB7.out).grown hg8 (fun g' hg' => .inl (HI.out.pr g' hg'))).setCell (p := ⟨gr, 0, none⟩) hbr v8) (oP8.far (p := ⟨gr, 0, none⟩) hne2 v8) (oR8.store 0 v8) (oL8.far (p := ⟨gr, 0, none⟩) hne3 v8) (own_setCell hl8 (p := ⟨gr, 0, none⟩) hbr v8) (r := .slice AR cm.length cR) (L := L) (U := w5.heap.size) (by rw [HF.out]; exact (RdP.grownFar (((R6.out.below (Below.drew (Below.refl _ _))).below (HB7.out.mono (show w5.heap.size ≤ w6.heap.size from z56)))) hg8 (by omega) (fun g' hg' => .inl (hP g' (HI.out.pr g' hg')))).setFar (p := ⟨gr, 0, none⟩) (by show gr < L; omega) v8) ((((HW6.out.trans (Below.drew (Below.refl _ _))).trans (HB7.out.mono (by show _ ≤ w6.heap.size; omega))).trans (below_grown hg8 (fun g' hg' => by have := hgr8 g' hg'; omega) (by omega))).setCell (p := ⟨gr, 0, none⟩) hr0 v8) HVS.out (fun g' hg' => (hv8 g' hg').imp id (fun h => by omega)) hP hN (by omega) (by rw [World.size_setCell]; have := hg8.size; omega) lx ly)
      obtain ⟨A8, n8, c8, rfl⟩ : ∃ A8 n8 c8, v8 = .slice A8 n8 c8 := by
        rcases own_fit hl8 with ⟨hv0, _⟩ | ⟨g, c, hv0, _, _⟩
        · exact ⟨_, _, _, hv0⟩
        · exact ⟨_, _, _, hv0⟩
      refine wpAnyH_ready (rs := [4]) (by kernel_rfl) (by simp) ?_
      refine AllReadyH.cons (o := _) rfl (fun K hK => ?_) AllReadyH.nil
      rw [hsl] at hr8
      refine step_append_eq rfl _ _ _ _ rfl (.slice A0 n0 c0) (.slice AT cm.length cT) rfl rfl (hr8 _) ?_
      refine hK.out _ _ ⟨oN8.cell 0, oN8.cell 1⟩ (fun hHeld => ?_)
      clear hK
      (try simp only [Act.put, List.setIfInBounds_toArray, List.set_cons_zero, List.set_cons_succ])
      have oN9 := oN8.far (p := ⟨gr, 0, none⟩) hne1 (.slice A8 n8 c8)
      have k8 := oR8.cell 0
      have f8 := oR8.free 0
      refine wpAnyH_ready (rs := [5]) (by kernel_rfl) (by simp) ?_
      refine AllReadyH.cons (o := _) rfl (fun K hK => ?_) AllReadyH.nil
      go_simp
      skip
      refine hK.out _ _ (by (try dsimp only); exact ⟨oN9.cell 0, oN9.cell 1⟩) (fun hHeld => ?_)
      clear hK
      (try simp only [Act.put, List.setIfInBounds_toArray, List.set_cons_zero, List.set_cons_succ])
      refine wpAnyH_done (by kernel_rfl) ?_ _
      have oL9 := oL8.far (p := ⟨gr, 0, none⟩) hne3 (.slice A8 n8 c8)
      have kd := oL9.cell 0
      have fd := oL9.free 0
      clear HVS HF R6 hl8 hg8 hv8 hr8 hgr8 k8 f8 oN9 oN8 oR8 oP8 oL8 hrow7 RT HSt
      generalize w8.setCell ⟨gr, 0, none⟩ (.slice A8 n8 c8) = W9 at *
      go_wp2
      go_returns
      exact HFin.out
    · skip
      go_simp
      (go_at_call 57; refine HSt.out.mono ?_; rintro e w7 ⟨vt, rfl, rt7, hb7⟩; have oN7 := (show Own w6.drew gN _ _ from oN).below hb7 (show Own w6.drew gN _ _ from oN).lt; have kr7 := (hb7.cell (p := ⟨gr, 0, none⟩) (show gr < w6.heap.size from oR6.lt)).trans kr0; have RT := Lib.hid rt7; obtain ⟨AT, cT, rfl, _⟩ := rt7; have HB7 := Lib.hid hb7; have z7 := hb7.size; clear hb7; go_wp2_with fail)
      refine hK.out _ _ (by (try dsimp only); exact ⟨oN7.cell 0, oN7.cell 1⟩) (fun hHeld => ?_)
      clear hK
      (try simp only [Act.put, List.setIfInBounds_toArray, List.set_cons_zero, List.set_cons_succ])
      refine wpAnyH_ready (rs := [0]) (by kernel_rfl) (by simp) ?_
      refine AllReadyH.cons (o := _) rfl (fun K hK => ?_) AllReadyH.nil
      go_simp
      skip
      refine hK.out _ _ (by (try dsimp only); exact ⟨oN7.cell 0, oN7.cell 1⟩) (fun hHeld => ?_)
      clear hK
      (try simp only [Act.put, List.setIfInBounds_toArray, List.set_cons_zero, List.set_cons_succ])
      have hrow7 := own_below (World.ownsRow.drew HRow.out) HB7.out
      have oR7 := (show Own w6.drew gr _ _ from oR6).below HB7.out (show gr < w6.heap.size from oR6.lt)
      have oP7 := (show Own w6.drew gop _ _ from oP6).below HB7.out (show gop < w6.heap.size from oP6.lt)
      have oL7 := (show Own w6.drew gl _ _ from oL6).below HB7.out (show gl < w6.heap.size from oL6.lt)
      obtain ⟨v8, w8, hr8, hl8, hg8, hv8⟩ := append_run_rcs w7 N (.slice A0 n0 c0) res hrow7 _ _ AT (strR (s1, s2) cm) _ cT RT.out (by rw [hsl]; omega) (by have z7' : w6.heap.size ≤ w7.heap.size := z7; omega)
      have oN8 := oN7.grown hg8 (own_apart hrow7 oN7 (by decide))
      have oR8 := oR7.grown hg8 (own_apart hrow7 oR7 (by decide))
      have oP8 := oP7.grown hg8 (own_apart hrow7 oP7 (by decide))
      have oL8 := oL7.grown hg8 (own_apart hrow7 oL7 (by decide))
      have hne1 : gN ≠ gr := by omega
      have hne2 : gop ≠ gr := HB.out.orr
      have hne3 : gl ≠ gr := fun e => hrl e.symm
      have z7' : w6.heap.size ≤ w7.heap.size := z7
      have hgr8 : ∀ g', (Value.slice A0 n0 c0).ownBlock = some g' → N ≤ g' := fun g' hg' => (World.ownsRow.lt hrow7 g' hg').1
      have HFin := Lib.hid (fin_vis (w7 := w8.setCell ⟨gr, 0, none⟩ v8) (v' := v8) HI.out HB.out ((s1, s2), x, y) ((((KeepV.below HK6.out (Below.drew (Below.refl _ _))).below HB7.out).grown hg8 (fun g' hg' => .inl (HI.out.pr g' hg'))).setCell (p := ⟨gr, 0, none⟩) hbr v8) (oP8.far (p := ⟨gr, 0, none⟩) hne2 v8) (oR8.store 0 v8) (oL8.far (p := ⟨gr, 0, none⟩) hne3 v8) (own_setCell hl8 (p := ⟨gr, 0, none⟩) hbr v8) (r := .slice AR cm.length cR) (L := L) (U := w5.heap.size) (by rw [HF.out]; exact (RdP.grownFar (((R6.out.below (Below.drew (Below.refl _ _))).below (HB7.out.mono (show w5.heap.size ≤ w6.heap.size from z56)))) hg8 (by omega) (fun g' hg' => .inl (hP g' (HI.out.pr g' hg')))).setFar (p := ⟨gr, 0, none⟩) (by show gr < L; omega) v8) ((((HW6.out.trans (Below.drew (Below.refl _ _))).trans (HB7.out.mono (by show _ ≤ w6.heap.size; omega))).trans (below_grown hg8 (fun g' hg' => by have := hgr8 g' hg'; omega) (by omega))).setCell (p := ⟨gr, 0, none⟩) hr0 v8) HVS.out (fun g' hg' => (hv8 g' hg').imp id (fun h => by omega)) hP hN (by omega) (by rw [World.size_setCell]; have := hg8.size; omega) lx ly)
      obtain ⟨A8, n8, c8, rfl⟩ : ∃ A8 n8 c8, v8 = .slice A8 n8 c8 := by
        rcases own_fit hl8 with ⟨hv0, _⟩ | ⟨g, c, hv0, _, _⟩
        · exact ⟨_, _, _, hv0⟩
        · exact ⟨_, _, _, hv0⟩
      refine wpAnyH_ready (rs := [4]) (by kernel_rfl) (by simp) ?_
      refine AllReadyH.cons (o := _) rfl (fun K hK => ?_) AllReadyH.nil
      rw [hsl] at hr8
      refine step_append_eq rfl _ _ _ _ rfl (.slice A0 n0 c0) (.slice AT cm.length cT) rfl rfl (hr8 _) ?_
      refine hK.out _ _ ⟨oN8.cell 0, oN8.cell 1⟩ (fun hHeld => ?_)
      clear hK
      (try simp only [Act.put, List.setIfInBounds_toArray, List.set_cons_zero, List.set_cons_succ])
      have oN9 := oN8.far (p := ⟨gr, 0, none⟩) hne1 (.slice A8 n8 c8)
      have k8 := oR8.cell 0
      have f8 := oR8.free 0
      refine wpAnyH_ready (rs := [5]) (by kernel_rfl) (by simp) ?_
      refine AllReadyH.cons (o := _) rfl (fun K hK => ?_) AllReadyH.nil
      go_simp
      skip
      refine hK.out _ _ (by (try dsimp only); exact ⟨oN9.cell 0, oN9.cell 1⟩) (fun hHeld => ?_)
      clear hK
      (try simp only [Act.put, List.setIfInBounds_toArray, List.set_cons_zero, List.set_cons_succ])
      refine wpAnyH_done (by kernel_rfl) ?_ _
      have oL9 := oL8.far (p := ⟨gr, 0, none⟩) hne3 (.slice A8 n8 c8)
      have kd := oL9.cell 0
      have fd := oL9.free 0
      clear HVS HF R6 hl8 hg8 hv8 hr8 hgr8 k8 f8 oN9 oN8 oR8 oP8 oL8 hrow7 RT HSt
      generalize w8.setCell ⟨gr, 0, none⟩ (.slice A8 n8 c8) = W9 at *
      go_wp2
      go_returns
      exact HFin.out
theorem pCv_any (w0 : World) (G gop gr gl N : Nat) (f : Bool → Bool → Bool) (hB : Bxs w0 gop gr gl N) (hO : OpC G f) :
    VisC N 55 #[.pointer (some ⟨gop, 0, none⟩), .pointer (some ⟨gl, 0, none⟩), .pointer (some ⟨gr, 0, none⟩)] (RCm w0 G gop gr gl N f) where
  enters := enters_of Tryz.func55 (by kernel_rfl) rfl
  keeps zs P W W' h k := by
    obtain ⟨v, lv, res, last, Ll, Ul, h⟩ := h
    exact ⟨v, lv, res, last, Ll, Ul, h.keeps hB k⟩
  lt zs P W h g hg := by
    obtain ⟨v, lv, res, last, Ll, Ul, h⟩ := h
    exact h.pw g hg
  call zs P W s x y u v L hR hN hL hP hu hv sx sy lx ly lz := pCv_call w0 G gop gr gl N f hB hO zs P W s.1 s.2 x y u v L hR hN hL hP hu hv sx sy lx ly lz
set_option maxRecDepth 100000 in
set_option maxHeartbeats 3200000 in
/-- combine, over any operation. -/
theorem cmbC : CmbC := by
  intro G f hf hO u v a b w L L2 hu hv lab
  have o1 := ((Own.new w 42 #[.func (.func G) #[] #[]]).alloc (.cells #[.slice none 0 0] 22)).alloc (.cells #[.slice none 0 0] 27)
  have o2 := (own_twoR (w := w) (t := 22) (.cells #[.func (.func G) #[] #[]] 42) #[.slice none 0 0]).alloc (.cells #[.slice none 0 0] 27)
  have o3 : Own (((w.alloc (.cells #[.func (.func G) #[] #[]] 42)).alloc (.cells #[.slice none 0 0] 22)).alloc (.cells #[.slice none 0 0] 27)) (w.heap.size + 1 + 1) 27 #[.slice none 0 0] := by
    have h := Own.new ((w.alloc (.cells #[.func (.func G) #[] #[]] 42)).alloc (.cells #[.slice none 0 0] 22)) 27 #[.slice none 0 0]
    rwa [show ((w.alloc (.cells #[.func (.func G) #[] #[]] 42)).alloc (.cells #[.slice none 0 0] 22)).heap.size = w.heap.size + 1 + 1 by simp] at h
  have bV : Below w.heap.size w (((w.alloc (.cells #[.func (.func G) #[] #[]] 42)).alloc (.cells #[.slice none 0 0] 22)).alloc (.cells #[.slice none 0 0] 27)) := (((Below.refl _ _).alloc (Nat.le_refl _) _).alloc (by simp) _).alloc (by simp; omega) _
  have sV : (((w.alloc (.cells #[.func (.func G) #[] #[]] 42)).alloc (.cells #[.slice none 0 0] 22)).alloc (.cells #[.slice none 0 0] 27)).heap.size = w.heap.size + 1 + 1 + 1 := by simp
  go_enter Tryz.func35, Tryz.ntmps35
  go_wp2_with fail
  generalize ((w.alloc (.cells #[.func (.func G) #[] #[]] 42)).alloc (.cells #[.slice none 0 0] 22)).alloc (.cells #[.slice none 0 0] 27) = V at *
  have hB : Bxs w w.heap.size (w.heap.size + 1) (w.heap.size + 1 + 1) V.heap.size := ⟨by omega, by omega, by omega, by omega, by omega, by omega, by omega, by omega, by omega⟩
  have h0 : RCm w G w.heap.size (w.heap.size + 1) (w.heap.size + 1 + 1) V.heap.size f [] (fun _ => False) V := ⟨.slice none 0 0, .slice none 0 0, [], [], V.heap.size, V.heap.size, ⟨o1, o2, o3, own_nilR _ _, RdP.nil _ _ _ _ _, Nat.le_refl _, Nat.le_refl _, fun g hg => by simp [Value.ownBlock] at hg, fun g h1 h2 => by omega, fun _ h => h.elim, fun g hg => by simp [Value.ownBlock] at hg, bV, rfl, by simp, by simp, by simp⟩⟩
  with_reducible refine (pStrips_any 55 _ _ u v a b V L L2 (pCv_any w G w.heap.size (w.heap.size + 1) (w.heap.size + 1 + 1) V.heap.size f hB hO) (hu.step bV (Nat.le_refl _)) (hv.step bV (Nat.le_refl _)) lab h0).mono ?_
  rintro e w2 ⟨rfl, D, P, hSw, vr, lv, res, last, Ll, Ul, hI⟩
  have hk := hI.rs.cell 0
  have hfo := hI.fo
  have hres : res = cmbR f a b := by rw [← visW_is hf hSw, hfo]
  have hrow := hI.row
  have hnr := hI.nr
  have hvl := visW_len (slcR a) (slcR b) D D.length
  have hDl := hSw.len
  have hbw := hI.bw
  obtain ⟨A, n, c, rfl⟩ : ∃ A n c, vr = .slice A n c := by
    rcases own_fit hrow with ⟨hv0, _⟩ | ⟨g, c, hv0, _, _⟩
    · exact ⟨_, _, _, hv0⟩
    · exact ⟨_, _, _, hv0⟩
  have HX := Lib.hid ((RdR.of_own hrow (by omega)).more (Nat.le_refl _) (show w.heap.size ≤ V.heap.size by omega))
  rw [hres] at HX
  clear hI hfo hrow hres hSw hnr hvl hDl o1 o2 o3 hB h0
  go_wp2
  go_ret
  exact ⟨_, rfl, HX.out, hbw⟩
end Go.Proofs.YtnbeopkpkagjmaaGreat
