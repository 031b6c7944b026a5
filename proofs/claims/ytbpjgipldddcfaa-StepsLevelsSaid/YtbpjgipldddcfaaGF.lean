import Derived.Test.YtbpjgipldddcfaaGD
import Derived.Deep.RegionHeld3
import Derived.WalkKit
import Derived.WalkSpells
import Derived.WalkLawsBesides
import Derived.Deep.QuietTactic
import Derived.BigQuiet
import Derived.Handy
import Derived.Lib.Hide
/-
  Contract of the function literal that combine hands to merge: the values of both lists go on, the result gets a step. Conditions: the boxes that it captures are the caller's own; the result's last step lies elsewhere.
-/
namespace Go.Proofs.Ytbpjgipldddcfaa
set_option maxRecDepth 100000
set_option linter.unusedVariables false
set_option linter.unusedSimpArgs false
open Go.RowKit

theorem takeD {P : Program} {md : Region.Mode} {ops : Array Oper} {Q : Exit → Act → World → Prop} {S : World → Prop} {i d : Nat} {oi : Oper} {v : Value} {fuel : Nat} {listed : Array Bool} {a : Act} {w : World} (hi : ops[i]? = some oi) (hd : oi.dst = some d)
    (hs : Region.noSelect ops = true) (hf : Region.free md ops listed i = true) (hr : (Region.ready md ops listed).contains i = true)
    (hQ : ∀ c a w, Q (.panic c) (a.put oi.dst v) w → Q (.panic c) a w) (hy : YieldsIf P ops S oi v a) (hS : S w)
    (h : wpAnyH P md ops Q S fuel (listed.setIfInBounds i true) (a.put (some d) v) w) : wpAnyH P md ops Q S (fuel + 1) listed a w :=
  wpAnyH_take hi hs hf hr hQ hy hS (by rw [hd]; exact h)
theorem own_slice {w : World} {base : Nat} {e : TypeId} {sz n : Nat} {v : Value} {xs : List Value} (h : w.ownsRow base e sz v n xs) : ∃ A n' c, v = .slice A n' c := by
  rcases own_get h with ⟨rfl, _⟩ | ⟨g, c, rfl, _⟩
  · exact ⟨_, _, _, rfl⟩
  · exact ⟨_, _, _, rfl⟩
theorem keepS {w : World} {h0 : Nat} {a b c : Value} (s : w.cell? ⟨h0, 0, none⟩ = some a ∧ w.cell? ⟨h0 + 1 + 1, 0, none⟩ = some b ∧ w.cell? ⟨h0 + 1 + 1 + 1, 0, none⟩ = some c) (v : Value) :
    (w.setCell ⟨h0 + 1, 0, none⟩ v).cell? ⟨h0, 0, none⟩ = some a ∧ (w.setCell ⟨h0 + 1, 0, none⟩ v).cell? ⟨h0 + 1 + 1, 0, none⟩ = some b ∧ (w.setCell ⟨h0 + 1, 0, none⟩ v).cell? ⟨h0 + 1 + 1 + 1, 0, none⟩ = some c := by
  refine ⟨(World.cell?_setCell_other _ _ _ _ ?_).trans s.1, (World.cell?_setCell_other _ _ _ _ ?_).trans s.2.1, (World.cell?_setCell_other _ _ _ _ ?_).trans s.2.2⟩
  all_goals
    intro e
    injection e
    omega
/-- The value behind the steps l. -/
def lastN (x : Int) (l : List (Int × Int)) : Int := l.foldl (fun _ s => s.2) x
theorem lastN_step {l : List (Int × Int)} {k : Nat} {p : Int × Int} (x : Int) (h : l[k]? = some p) : lastN x (l.take (k + 1)) = p.2 := by
  rw [take_snocP h]; unfold lastN; rw [List.foldl_append]; rfl
/-- A function value that answers two numbers by f and writes nothing old. -/
def AsksI (g : Nat) (f : Int → Int → Int) : Prop := ∀ (x y : Int) (W : World), Calls Try.prog g #[.int .i64 x, .int .i64 y] W fun e w' => e = .returned (.int .i64 (f x y)) ∧ Below W.heap.size W w'
/-- What the boxes of combine hold: h0 the operation, h0 + 1 the result, h0 + 2 and h0 + 3 the values. -/
structure Boxes (w : World) (h0 fo : Nat) (x y : Int) (v : Value) (l : List (Int × Int)) : Prop where
  op : Own w h0 54 #[.func (.func fo) #[] #[]]
  res : Own w (h0 + 1) 22 #[v]
  vx : Own w (h0 + 1 + 1) 3 #[.int .i64 x]
  vy : Own w (h0 + 1 + 1 + 1) 3 #[.int .i64 y]
  row : w.ownsRow (h0 + 4) 37 2 v l.length (flatP l)
theorem Boxes.below {w w' : World} {h0 fo : Nat} {x y : Int} {v : Value} {l : List (Int × Int)} (h : Boxes w h0 fo x y v l) (hb : Below w.heap.size w w') : Boxes w' h0 fo x y v l :=
  ⟨h.op.below hb h.op.lt, h.res.below hb h.res.lt, h.vx.below hb h.vx.lt, h.vy.below hb h.vy.lt, own_below h.row hb⟩
theorem Boxes.setX {w : World} {h0 fo : Nat} {x y : Int} {v : Value} {l : List (Int × Int)} (h : Boxes w h0 fo x y v l) (n : Int) : Boxes (w.setCell ⟨h0 + 1 + 1, 0, none⟩ (.int .i64 n)) h0 fo n y v l :=
  ⟨h.op.far (by simp; omega) _, h.res.far (by simp) _, h.vx.store 0 _, h.vy.far (by simp) _, own_setCell h.row (by simp) _⟩
theorem Boxes.setY {w : World} {h0 fo : Nat} {x y : Int} {v : Value} {l : List (Int × Int)} (h : Boxes w h0 fo x y v l) (n : Int) : Boxes (w.setCell ⟨h0 + 1 + 1 + 1, 0, none⟩ (.int .i64 n)) h0 fo x n v l :=
  ⟨h.op.far (by simp; omega) _, h.res.far (by simp) _, h.vx.far (by simp) _, h.vy.store 0 _, own_setCell h.row (by simp) _⟩
/-- What a call of the literal leaves. -/
def RetBox (w : World) (h0 fo : Nat) (x y : Int) (l : List (Int × Int)) (e : Ending) (w' : World) : Prop := e = .returned (.tuple #[]) ∧ ∃ v', Boxes w' h0 fo x y v' l ∧ Below h0 w w'

set_option maxRecDepth 100000 in
set_option maxHeartbeats 6400000 in
theorem visit_any (fo : Nat) (F : Int → Int → Int) (hF : AsksI fo F) (eg : ∀ args w, (callFunc fo args).run Try.prog w = .ok (.enter fo args) w) (at' x y : Int) (u1 u2 v : Value) (l1 l2 l : List (Int × Int)) (h0 : Nat) (w : World) (L L' : Nat) (hb : Boxes w h0 fo x y v l) (h1 : RdP w L h0 u1 l1) (h2 : RdP w L' h0 u2 l2) (hlen : l.length ≤ 1000000) (hlast : ∀ p, l.getLast? = some p → p.1 ≠ at') :
    Calls Try.prog 56 #[.int .i64 at', u1, u2, .pointer (some ⟨h0 + 1 + 1, 0, none⟩), .pointer (some ⟨h0 + 1 + 1 + 1, 0, none⟩), .pointer (some ⟨h0 + 1, 0, none⟩), .pointer (some ⟨h0, 0, none⟩)] w (RetBox w h0 fo (lastN x l1) (lastN y l2) (putL l at' (F (lastN x l1) (lastN y l2)))) := by
  have H1 := Lib.hid h1
  have H2 := Lib.hid h2
  obtain ⟨A, c, rfl, hl1, _⟩ := h1
  obtain ⟨A2, c2, rfl, hl2, _⟩ := h2
  have HB := Lib.hid hb
  have lY := hb.vy.lt
  clear hb
  go_enter Try.func56, Try.ntmps56
  go_wp2
  go_loopw [16] (fun i wr => ∃ k : Nat, k ≤ l1.length ∧ i = .int .i64 k ∧ Hid (Boxes wr h0 fo (lastN x (l1.take k)) y v l) ∧ Below h0 w wr) (fun i _ => l1.length - (intOf i).toNat)
  case atStart => exact ⟨0, by omega, rfl, HB, Below.refl _ _⟩
  case round =>
    clear HB lY
    obtain ⟨k, hk, rfl, HB, hbr⟩ := hrel
    have hbz := hbr.size
    have lY := HB.out.vy.lt
    by_cases hlt : k < l1.length
    · have hx := List.getElem?_eq_getElem hlt
      generalize l1[k] = p at hx
      obtain ⟨a, b⟩ := p
      obtain ⟨ad, rfl, _, hab, c0, c1⟩ := (H1.out.below hbr).at hx
      dsimp only at c0 c1
      have hS := Lib.hid (lastN_step x hx)
      have i2 : (0 : Int) ≤ (k : Int) := by omega
      have i3 : (k : Int) < (l1.length : Int) := by omega
      have g0 : (wr.alloc (.cells #[.int .i64 a, .int .i64 b] 37)).cell? ⟨h0 + 1 + 1, 0, none⟩ = some (.int .i64 (lastN x (l1.take k))) := (HB.out.vx.alloc _).cell 0
      have g1 : (wr.alloc (.cells #[.int .i64 a, .int .i64 b] 37)).frozen? ⟨h0 + 1 + 1, 0, none⟩ = false := (HB.out.vx.alloc _).free 0
      have HB2 := Lib.hid ((HB.out.below ((Below.refl wr.heap.size wr).alloc (Nat.le_refl _) (.cells #[.int .i64 a, .int .i64 b] 37))).setX b)
      clear hx
      generalize lastN x (l1.take k) = xk at *
      go_wp2
      go_roundw
      case rel => exact ⟨k + 1, by omega, by go_num, by rw [hS.out]; exact HB2, hbr.trans (((Below.refl _ _).alloc (by omega) _).setCell (by simp; omega) _)⟩
      case measure => simp [intOf]; omega
    · have hT : l1.take k = l1 := List.take_of_length_le (by omega)
      have hd : ¬ (k : Int) < l1.length := by omega
      rw [hT] at HB
      clear hT hk
      generalize lastN x l1 = x' at *
      go_wp2
      go_loopw [25] (fun i wx => ∃ k : Nat, k ≤ l2.length ∧ i = .int .i64 k ∧ Hid (Boxes wx h0 fo x' (lastN y (l2.take k)) v l) ∧ Below h0 w wx) (fun i _ => l2.length - (intOf i).toNat)
      case atStart => exact ⟨0, by omega, rfl, HB, hbr⟩
      case round =>
        clear HB hbr hbz lY
        obtain ⟨k2, hk2, rfl, HB, hbr⟩ := hrel
        have hbz := hbr.size
        have lY := HB.out.vy.lt
        by_cases hlt2 : k2 < l2.length
        · have hx := List.getElem?_eq_getElem hlt2
          generalize l2[k2] = p at hx
          obtain ⟨a, b⟩ := p
          obtain ⟨ad, rfl, _, hab, c0, c1⟩ := (H2.out.below hbr).at hx
          dsimp only at c0 c1
          have hS := Lib.hid (lastN_step y hx)
          have i2 : (0 : Int) ≤ (k2 : Int) := by omega
          have i3 : (k2 : Int) < (l2.length : Int) := by omega
          have g0 : (wr.alloc (.cells #[.int .i64 a, .int .i64 b] 37)).cell? ⟨h0 + 1 + 1 + 1, 0, none⟩ = some (.int .i64 (lastN y (l2.take k2))) := (HB.out.vy.alloc _).cell 0
          have g1 : (wr.alloc (.cells #[.int .i64 a, .int .i64 b] 37)).frozen? ⟨h0 + 1 + 1 + 1, 0, none⟩ = false := (HB.out.vy.alloc _).free 0
          have HB2 := Lib.hid ((HB.out.below ((Below.refl wr.heap.size wr).alloc (Nat.le_refl _) (.cells #[.int .i64 a, .int .i64 b] 37))).setY b)
          clear hx
          have HB3 := Lib.hid ((HB.out.setY b).below ((Below.refl _ _).alloc (Nat.le_refl _) (.cells #[.int .i64 a, .int .i64 b] 37)))
          generalize lastN y (l2.take k2) = yk at *
          go_wp2
          go_roundw
          case rel => exact ⟨k2 + 1, by omega, by go_num, by rw [hS.out]; first | exact HB2 | exact HB3, hbr.trans (by (repeat' (first | (with_reducible exact Below.refl _ _) | (with_reducible assumption) | (with_reducible refine Below.alloc ?_ ?_ _) | (with_reducible refine Below.drew ?_) | (with_reducible refine Below.setCell ?_ ?_ _) | (with_reducible refine Below.trans ?_ (Below.mono (by assumption) ?_)) | go_size)))⟩
          case measure => simp [intOf]; omega
        · have hT : l2.take k2 = l2 := List.take_of_length_le (by omega)
          have hd : ¬ (k2 : Int) < l2.length := by omega
          rw [hT] at HB
          clear hT hk2
          generalize lastN y l2 = y' at *
          have e0 : wr.cell? ⟨h0, 0, none⟩ = some (.func (.func fo) #[] #[]) := HB.out.op.cell 0
          have e1 : wr.cell? ⟨h0 + 1, 0, none⟩ = some v := HB.out.res.cell 0
          have e2 : wr.cell? ⟨h0 + 1 + 1, 0, none⟩ = some (.int .i64 x') := HB.out.vx.cell 0
          have e3 : wr.cell? ⟨h0 + 1 + 1 + 1, 0, none⟩ = some (.int .i64 y') := HB.out.vy.cell 0
          have hop := fun W => hF x' y' W
          generalize F x' y' = fx at *
          have HV := Lib.hid (fun (w' : World) (hb : Below wr.heap.size wr w') => changed_any v l at' fx w' (h0 + 4) (HB.out.below hb).row (by have := hb.size; omega) hlen hlast)
          have hh4 : h0 + 4 ≤ wr.heap.size := by omega
          have HS : Hid (∀ w' : World, Below (h0 + 4) wr w' → w'.cell? ⟨h0, 0, none⟩ = some (.func (.func fo) #[] #[]) ∧ w'.cell? ⟨h0 + 1 + 1, 0, none⟩ = some (.int .i64 x') ∧ w'.cell? ⟨h0 + 1 + 1 + 1, 0, none⟩ = some (.int .i64 y')) := Lib.hid (fun w' hb => ⟨(hb.cell (p := ⟨h0, 0, none⟩) (by show h0 < _; omega)).trans e0, (hb.cell (p := ⟨h0 + 1 + 1, 0, none⟩) (by show h0 + 1 + 1 < _; omega)).trans e2, (hb.cell (p := ⟨h0 + 1 + 1 + 1, 0, none⟩) (by show h0 + 1 + 1 + 1 < _; omega)).trans e3⟩)
          have HRes := Lib.hid (fun (w' : World) (hb : Below (h0 + 4) wr w') => HB.out.res.below hb (show h0 + 1 < h0 + 4 by omega))
          have s0 := HS.out wr.drew (Below.drew (Below.refl _ _))
          have e1d : wr.drew.cell? ⟨h0 + 1, 0, none⟩ = some v := e1
          clear e0 e1 e2 e3 hF
          go_wp2
          refine wp_region_held_drew (S := fun w' => w'.cell? ⟨h0, 0, none⟩ = some (.func (.func fo) #[] #[]) ∧ w'.cell? ⟨h0 + 1 + 1, 0, none⟩ = some (.int .i64 x') ∧ w'.cell? ⟨h0 + 1 + 1 + 1, 0, none⟩ = some (.int .i64 y')) (by kernel_rfl) s0 (fun hHeld => ?_)
          (refine takeD (i := 1) (d := 33) (oi := _) (v := ?_) rfl rfl (by kernel_rfl) (by kernel_rfl) (by kernel_rfl) (fun _ _ _ h => h) (Or.inl ⟨by rfl, ?_⟩) (by assumption) ?_; rotate_left; (focus ((intro w hSw; (try dsimp only at hSw); go_simp) <;> (with_reducible rfl))); (try simp only [Act.put, List.setIfInBounds_toArray, List.set_cons_zero, List.set_cons_succ]))
          (refine takeD (i := 2) (d := 34) (oi := _) (v := ?_) rfl rfl (by kernel_rfl) (by kernel_rfl) (by kernel_rfl) (fun _ _ _ h => h) (Or.inl ⟨by rfl, ?_⟩) (by assumption) ?_; rotate_left; (focus ((intro w hSw; (try dsimp only at hSw); go_simp) <;> (with_reducible rfl))); (try simp only [Act.put, List.setIfInBounds_toArray, List.set_cons_zero, List.set_cons_succ]))
          (refine takeD (i := 3) (d := 35) (oi := _) (v := ?_) rfl rfl (by kernel_rfl) (by kernel_rfl) (by kernel_rfl) (fun _ _ _ h => h) (Or.inl ⟨by rfl, ?_⟩) (by assumption) ?_; rotate_left; (focus ((intro w hSw; (try dsimp only at hSw); go_simp) <;> (with_reducible rfl))); (try simp only [Act.put, List.setIfInBounds_toArray, List.set_cons_zero, List.set_cons_succ]))
          (refine takeD (i := 4) (d := 36) (oi := _) (v := ?_) rfl rfl (by kernel_rfl) (by kernel_rfl) (by kernel_rfl) (fun _ _ _ h => h) (Or.inl ⟨by rfl, ?_⟩) (by assumption) ?_; rotate_left; (focus ((intro w hSw; (try dsimp only at hSw); go_simp) <;> (with_reducible rfl))); (try simp only [Act.put, List.setIfInBounds_toArray, List.set_cons_zero, List.set_cons_succ]))
          refine wpAnyH_ready (rs := [0, 5]) (by kernel_rfl) (by simp) ?_
          refine AllReadyH.cons (o := _) rfl (fun K hK => ?_) (AllReadyH.cons (o := _) rfl (fun K hK => ?_) AllReadyH.nil)
          · skip
            go_simp
            skip
            refine hK.out _ _ (by (try dsimp only); exact s0) (fun hHeld => ?_)
            clear hK
            (try simp only [Act.put, List.setIfInBounds_toArray, List.set_cons_zero, List.set_cons_succ])
            refine wpAnyH_ready (rs := [5]) (by kernel_rfl) (by simp) ?_
            refine AllReadyH.cons (o := _) rfl (fun K hK => ?_) AllReadyH.nil
            go_simp
            (refine (hop _).mono ?_; rintro e w2 ⟨rfl, hb2⟩; have b2 : Below wr.heap.size wr w2 := (Below.drew (Below.refl _ _)).trans hb2; have s2 := HS.out w2 (b2.mono hh4); have r2 : w2.cell? ⟨h0 + 1, 0, none⟩ = some v := ((HRes.out w2 (b2.mono hh4)).cell 0); go_wp2_with fail)
            refine hK.out _ _ (by (try dsimp only); exact s2) (fun hHeld => ?_)
            clear hK
            (try simp only [Act.put, List.setIfInBounds_toArray, List.set_cons_zero, List.set_cons_succ])
            refine wpAnyH_ready (rs := [6]) (by kernel_rfl) (by simp) ?_
            refine AllReadyH.cons (o := _) rfl (fun K hK => ?_) AllReadyH.nil
            go_simp
            (go_at_call 53; refine (HV.out _ b2).mono ?_; rintro e w5 ⟨v5, rfl, hown5, hb5⟩; obtain ⟨A5, n5, c5, rfl⟩ := own_slice hown5; have b5 : Below (h0 + 4) wr w5 := ((b2.mono hh4).trans hb5); have s5 := HS.out w5 b5; have oR := HRes.out w5 b5; have k1 : w5.cell? ⟨h0 + 1, 0, none⟩ = some v := (oR.cell 0); have k2 := oR.free 0; go_wp2_with fail)
            refine hK.out _ _ (by (try dsimp only); exact s5) (fun hHeld => ?_)
            clear hK
            (try simp only [Act.put, List.setIfInBounds_toArray, List.set_cons_zero, List.set_cons_succ])
            refine wpAnyH_ready (rs := [7]) (by kernel_rfl) (by simp) ?_
            refine AllReadyH.cons (o := _) rfl (fun K hK => ?_) AllReadyH.nil
            go_simp
            skip
            refine hK.out _ _ (by (try dsimp only); exact keepS s5 _) (fun hHeld => ?_)
            clear hK
            (try simp only [Act.put, List.setIfInBounds_toArray, List.set_cons_zero, List.set_cons_succ])
            refine wpAnyH_done (by kernel_rfl) ?_ _
            go_wp2_with fail
            go_returns
            refine ⟨rfl, _, ⟨(HB.out.op.below b5 (by omega)).far (by show h0 ≠ h0 + 1; omega) _, oR.store 0 _, (HB.out.vx.below b5 (by omega)).far (by show h0 + 1 + 1 ≠ h0 + 1; omega) _, (HB.out.vy.below b5 (by omega)).far (by show h0 + 1 + 1 + 1 ≠ h0 + 1; omega) _, own_setCell hown5 (by show h0 + 1 < h0 + 4; omega) _⟩, ?_⟩
            exact hbr.trans ((b5.mono (by omega)).setCell (by simp) _)
          · skip
            go_simp
            (refine (hop _).mono ?_; rintro e w2 ⟨rfl, hb2⟩; have b2 : Below wr.heap.size wr w2 := (Below.drew (Below.refl _ _)).trans hb2; have s2 := HS.out w2 (b2.mono hh4); have r2 : w2.cell? ⟨h0 + 1, 0, none⟩ = some v := ((HRes.out w2 (b2.mono hh4)).cell 0); go_wp2_with fail)
            refine hK.out _ _ (by (try dsimp only); exact s2) (fun hHeld => ?_)
            clear hK
            (try simp only [Act.put, List.setIfInBounds_toArray, List.set_cons_zero, List.set_cons_succ])
            refine wpAnyH_ready (rs := [0]) (by kernel_rfl) (by simp) ?_
            refine AllReadyH.cons (o := _) rfl (fun K hK => ?_) AllReadyH.nil
            go_simp
            skip
            refine hK.out _ _ (by (try dsimp only); exact s2) (fun hHeld => ?_)
            clear hK
            (try simp only [Act.put, List.setIfInBounds_toArray, List.set_cons_zero, List.set_cons_succ])
            refine wpAnyH_ready (rs := [6]) (by kernel_rfl) (by simp) ?_
            refine AllReadyH.cons (o := _) rfl (fun K hK => ?_) AllReadyH.nil
            go_simp
            (go_at_call 53; refine (HV.out _ b2).mono ?_; rintro e w5 ⟨v5, rfl, hown5, hb5⟩; obtain ⟨A5, n5, c5, rfl⟩ := own_slice hown5; have b5 : Below (h0 + 4) wr w5 := ((b2.mono hh4).trans hb5); have s5 := HS.out w5 b5; have oR := HRes.out w5 b5; have k1 : w5.cell? ⟨h0 + 1, 0, none⟩ = some v := (oR.cell 0); have k2 := oR.free 0; go_wp2_with fail)
            refine hK.out _ _ (by (try dsimp only); exact s5) (fun hHeld => ?_)
            clear hK
            (try simp only [Act.put, List.setIfInBounds_toArray, List.set_cons_zero, List.set_cons_succ])
            refine wpAnyH_ready (rs := [7]) (by kernel_rfl) (by simp) ?_
            refine AllReadyH.cons (o := _) rfl (fun K hK => ?_) AllReadyH.nil
            go_simp
            skip
            refine hK.out _ _ (by (try dsimp only); exact keepS s5 _) (fun hHeld => ?_)
            clear hK
            (try simp only [Act.put, List.setIfInBounds_toArray, List.set_cons_zero, List.set_cons_succ])
            refine wpAnyH_done (by kernel_rfl) ?_ _
            go_wp2_with fail
            go_returns
            refine ⟨rfl, _, ⟨(HB.out.op.below b5 (by omega)).far (by show h0 ≠ h0 + 1; omega) _, oR.store 0 _, (HB.out.vx.below b5 (by omega)).far (by show h0 + 1 + 1 ≠ h0 + 1; omega) _, (HB.out.vy.below b5 (by omega)).far (by show h0 + 1 + 1 + 1 ≠ h0 + 1; omega) _, own_setCell hown5 (by show h0 + 1 < h0 + 4; omega) _⟩, ?_⟩
            exact hbr.trans ((b5.mono (by omega)).setCell (by simp) _)
end Go.Proofs.Ytbpjgipldddcfaa
