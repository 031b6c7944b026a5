import Derived.Test.YtnbeopkpkagjmaaGreatRD
import Derived.Shelf.Abstract
import Derived.WalkKit
import Derived.WalkSpells
import Derived.WalkLawsBesides
import Derived.Deep.QuietTactic
import Derived.BigQuiet
import Derived.Handy
import Derived.Lib.Hide
/-
  Contracts of slices.IndexFunc and ContainsFunc over rectangles, with any function handed to them that writes nothing old; Contains of the program. Conditions: none.
-/
namespace Go.Proofs.YtnbeopkpkagjmaaGreat
set_option maxRecDepth 100000
set_option linter.unusedVariables false
set_option linter.unusedSimpArgs false
open Go.RowKit

def idxF (f : Rc → Bool) : Nat → List Rc → Int
  | _, [] => -1
  | k, r :: l => if f r = true then (k : Int) else idxF f (k + 1) l
theorem idxF_drop (f : Rc → Bool) {l : List Rc} {k : Nat} {r : Rc} (h : l[k]? = some r) : idxF f k (l.drop k) = if f r = true then (k : Int) else idxF f (k + 1) (l.drop (k + 1)) := by
  obtain ⟨h1, rfl⟩ := List.getElem?_eq_some_iff.1 h
  rw [List.drop_eq_getElem_cons h1]; rfl
theorem idxF_any (f : Rc → Bool) : ∀ (l : List Rc) (k : Nat), decide (idxF f k l ≥ 0) = l.any f
  | [], _ => rfl
  | r :: l, k => by
    unfold idxF
    rw [List.any_cons]
    cases f r
    · rw [if_neg (by simp), idxF_any f l (k + 1), Bool.false_or]
    · rw [if_pos rfl, Bool.true_or]; simp
set_option maxRecDepth 100000 in
set_option maxHeartbeats 3200000 in
theorem pIdxF_any (F : Nat) (cs : Array Value) (f : Rc → Bool) (w0 : World) (L : Nat) (eg : ∀ args w, (callFunc F args).run Tryz.prog w = .ok (.enter F args) w)
    (hF : ∀ r W, Below w0.heap.size w0 W → Calls Tryz.prog F (#[.agg #[.int .i64 r.1.1, .int .i64 r.1.2, .int .i64 r.2.1, .int .i64 r.2.2]] ++ cs) W fun e' w' => e' = .returned (.bool (f r)) ∧ Below W.heap.size W w')
    (v : Value) (l : List Rc) (hv : RdR w0 L w0.heap.size v l) :
    Calls Tryz.prog 43 #[v, .func (.func F) #[] cs] w0 fun e' w' => e' = .returned (.int .i64 (idxF f 0 l)) ∧ Below w0.heap.size w0 w' := by
  have hv0 := hv
  obtain ⟨A, c, rfl, hl, _⟩ := hv
  have HF := Lib.hid hF
  clear hF
  go_enter Tryz.func43, Tryz.ntmps43
  go_wp2
  go_loopw [8] (fun i wr => ∃ k : Nat, k ≤ l.length ∧ i = .int .i64 k ∧ Hid (idxF f 0 l = idxF f k (l.drop k)) ∧ Below w0.heap.size w0 wr) (fun i _ => l.length - (intOf i).toNat)
  case atStart => exact ⟨0, by omega, rfl, Lib.hid rfl, Below.refl _ _⟩
  case round =>
    obtain ⟨k, hk, rfl, hT, hbr⟩ := hrel
    have hbz := hbr.size
    by_cases hlt : k < l.length
    · have hx := List.getElem?_eq_getElem hlt
      generalize l[k] = r at hx
      have hS := hT.out.trans (idxF_drop f hx)
      have i2 : (0 : Int) ≤ (k : Int) := by omega
      have i3 : (k : Int) < (l.length : Int) := by omega
      obtain ⟨ad, rfl, _, hab, c0, c1, c2, c3⟩ := (hv0.below hbr).at hx
      have HC := Lib.hid (HF.out r wr hbr)
      generalize f r = B at *
      obtain ⟨⟨a, b⟩, p, q⟩ := r
      dsimp only at c0 c1 c2 c3 HC
      clear hx hT
      go_wp2_with fail
      with_reducible refine HC.out.mono ?_
      rintro e' w1 ⟨rfl, hb1⟩
      cases B
      · have HS := Lib.hid (by rw [hS, if_neg (by simp)] : idxF f 0 l = idxF f (k + 1) (l.drop (k + 1)))
        clear hS HC
        go_wp2
        go_roundw
        case rel => exact ⟨k + 1, by omega, by go_num, HS, hbr.trans (hb1.mono hbz)⟩
        case measure => simp [intOf]; omega
      · have HS := Lib.hid (by rw [hS, if_pos rfl] : idxF f 0 l = (k : Int))
        clear hS HC
        go_wp2
        go_ret
        exact ⟨by rw [HS.out]; rfl, hbr.trans (hb1.mono hbz)⟩
    · have hd : ¬ (k : Int) < l.length := by omega
      have HX := Lib.hid (by rw [hT.out, List.drop_eq_nil_of_le (by omega)]; rfl : idxF f 0 l = -1)
      go_wp2
      go_ret
      exact ⟨by rw [HX.out]; rfl, hbr⟩
set_option maxRecDepth 100000 in
set_option maxHeartbeats 3200000 in
theorem pAnyF_any (F : Nat) (cs : Array Value) (f : Rc → Bool) (w0 : World) (L : Nat) (eg : ∀ args w, (callFunc F args).run Tryz.prog w = .ok (.enter F args) w)
    (hF : ∀ r W, Below w0.heap.size w0 W → Calls Tryz.prog F (#[.agg #[.int .i64 r.1.1, .int .i64 r.1.2, .int .i64 r.2.1, .int .i64 r.2.2]] ++ cs) W fun e' w' => e' = .returned (.bool (f r)) ∧ Below W.heap.size W w')
    (v : Value) (l : List Rc) (hv : RdR w0 L w0.heap.size v l) :
    Calls Tryz.prog 28 #[v, .func (.func F) #[] cs] w0 fun e' w' => e' = .returned (.bool (l.any f)) ∧ Below w0.heap.size w0 w' := by
  have HC := Lib.hid (pIdxF_any F cs f w0 L eg hF v l hv)
  have ha := idxF_any f l 0
  generalize idxF f 0 l = i at *
  clear hF hv
  go_enter Tryz.func28, Tryz.ntmps28
  go_wp2_with fail
  with_reducible refine HC.out.mono ?_
  rintro e' w1 ⟨rfl, hb1⟩
  clear HC
  go_wp2
  go_ret
  exact ⟨by rw [← ha]; rfl, hb1⟩
set_option maxRecDepth 100000 in
set_option maxHeartbeats 3200000 in
theorem pC1_any (a b p q v s : Int) (g1 g2 : Nat) (w : World) (h1 : w.cell? ⟨g1, 0, none⟩ = some (.int .i64 v)) (h2 : w.cell? ⟨g2, 0, none⟩ = some (.int .i64 s)) (l1 : g1 < w.heap.size) (l2 : g2 < w.heap.size) :
    Calls Tryz.prog 29 #[.agg #[.int .i64 a, .int .i64 b, .int .i64 p, .int .i64 q], .pointer (some ⟨g1, 0, none⟩), .pointer (some ⟨g2, 0, none⟩)] w fun e w' => e = .returned (.bool (cnt a b v && cnt p q s)) ∧ Below w.heap.size w w' := by
  have hM1 := fun W => contains_any a b v W
  have hM2 := fun W => contains_any p q s W
  generalize cnt a b v = X at *
  generalize cnt p q s = Y at *
  have o1 := Own.new w 35 #[.int .i64 a, .int .i64 b, .int .i64 p, .int .i64 q]
  have b1 : Below w.heap.size w (w.alloc (.cells #[.int .i64 a, .int .i64 b, .int .i64 p, .int .i64 q] 35)) := (Below.refl _ _).alloc (Nat.le_refl _) _
  have c0 := o1.cell 0
  have c1 := o1.cell 1
  have d1 := (b1.cell (p := ⟨g1, 0, none⟩) l1).trans h1
  go_enter Tryz.func29, Tryz.ntmps29
  go_wp2_with fail
  refine (hM1 _).mono ?_
  rintro e w2 ⟨rfl, hb2⟩
  have o2 := Own.below o1 hb2 o1.lt
  have d2 := o2.cell 2
  have d3 := o2.cell 3
  have B2 := b1.trans (hb2.mono b1.size)
  have d4 := (B2.cell (p := ⟨g2, 0, none⟩) l2).trans h2
  cases X
  · go_wp2_with fail
    go_ret
    exact ⟨rfl, B2⟩
  · go_wp2_with fail
    refine (hM2 _).mono ?_
    rintro e w3 ⟨rfl, hb3⟩
    go_wp2
    go_ret
    exact ⟨by simp, B2.trans (hb3.mono B2.size)⟩
theorem entersC1 : ∀ args w, (callFunc 29 args).run Tryz.prog w = .ok (.enter 29 args) w := enters_of Tryz.func29 (by kernel_rfl) rfl
set_option maxRecDepth 100000 in
set_option maxHeartbeats 3200000 in
theorem pMemR_any (u : Value) (l : List Rc) (v s : Int) (w : World) (L : Nat) (hu : RdR w L w.heap.size u l) :
    Calls Tryz.prog 9 #[u, .int .i64 v, .int .i64 s] w fun e w' => e = .returned (.bool (memR l v s)) ∧ Below w.heap.size w w' := by
  have o1 := (Own.new w 3 #[.int .i64 v]).alloc (.cells #[.int .i64 s] 3)
  have o2 := own_twoR (w := w) (t := 3) (.cells #[.int .i64 v] 3) #[.int .i64 s]
  have b1 : Below w.heap.size w ((w.alloc (.cells #[.int .i64 v] 3)).alloc (.cells #[.int .i64 s] 3)) := ((Below.refl _ _).alloc (Nat.le_refl _) _).alloc (by simp) _
  have hr := hu.step b1 (Nat.le_refl _)
  have HC := Lib.hid (pAnyF_any 29 #[.pointer (some ⟨w.heap.size, 0, none⟩), .pointer (some ⟨w.heap.size + 1, 0, none⟩)] (fun r => cnt r.1.1 r.1.2 v && cnt r.2.1 r.2.2 s) _ L entersC1
    (fun r W hb => by
      have h1 := Own.below o1 hb o1.lt
      have h2 := Own.below o2 hb o2.lt
      exact pC1_any r.1.1 r.1.2 r.2.1 r.2.2 v s _ _ W (h1.cell 0) (h2.cell 0) h1.lt h2.lt) u l hr)
  have HB := Lib.hid b1
  have hm : memR l v s = l.any (fun r => cnt r.1.1 r.1.2 v && cnt r.2.1 r.2.2 s) := rfl
  rw [hm]
  generalize l.any (fun r => cnt r.1.1 r.1.2 v && cnt r.2.1 r.2.2 s) = B at *
  clear o1 o2 b1 hr hu hm
  go_enter Tryz.func9, Tryz.ntmps9
  go_wp2_with fail
  with_reducible refine HC.out.mono ?_
  rintro e w1 ⟨rfl, hb1⟩
  go_wp2
  go_ret
  exact ⟨rfl, HB.out.trans (hb1.mono HB.out.size)⟩
end Go.Proofs.YtnbeopkpkagjmaaGreat
