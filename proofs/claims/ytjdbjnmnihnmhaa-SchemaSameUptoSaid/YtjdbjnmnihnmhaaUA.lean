import Derived.Test.YtjdbjnmnihnmhaaQM
import Derived.Test.YtjdbjnmnihnmhaaMW
import Derived.WalkKit
import Derived.WalkSpells
import Derived.WalkLawsBesides
import Derived.Deep.QuietTactic
import Derived.BigQuiet
import Derived.Handy
import Derived.Lib.Hide
/-
  Comparison of expressions, by the program. Conditions: lengths, a bounded depth.
-/
namespace Go.Proofs.Ytjdbjnmnihnmhaa
set_option maxRecDepth 100000
set_option linter.unusedVariables false
set_option linter.unusedSimpArgs false
open Go.RowKit

/-- Two lists are the same by f, element by element. -/
def sameL (f : Ex → Ex → Bool) : List Ex → List Ex → Bool
  | [], [] => true
  | a :: l, b :: m => f a b && sameL f l m
  | _, _ => false
/-- The own fields of two expressions are the same. -/
def sameF (a b : Ex) : Bool := (a.op == b.op) && (a.n == b.n) && Va.eqV a.v.1 a.v.2.1 a.v.2.2 b.v.1 b.v.2.1 b.v.2.2 && (a.nm.toList == b.nm.toList)
def sameE : Nat → Ex → Ex → Bool
  | 0, _, _ => true
  | d + 1, a, b => sameF a b && sameL (sameE d) a.args b.args
theorem sameL_len (f : Ex → Ex → Bool) : ∀ l m : List Ex, l.length ≠ m.length → sameL f l m = false
  | [], [], h => absurd rfl h
  | [], _ :: _, _ => rfl
  | _ :: _, [], _ => rfl
  | a :: l, b :: m, h => by
    unfold sameL
    rw [sameL_len f l m (fun e => h (by simp [e]))]
    simp
theorem sameL_drop (f : Ex → Ex → Bool) (l m : List Ex) (k : Nat) (a b : Ex) (ha : l[k]? = some a) (hb : m[k]? = some b) : sameL f (l.drop k) (m.drop k) = (f a b && sameL f (l.drop (k + 1)) (m.drop (k + 1))) := by
  obtain ⟨h1, rfl⟩ := List.getElem?_eq_some_iff.1 ha
  obtain ⟨h2, rfl⟩ := List.getElem?_eq_some_iff.1 hb
  rw [List.drop_eq_getElem_cons h1, List.drop_eq_getElem_cons h2]
  rfl
set_option maxRecDepth 100000 in
set_option maxHeartbeats 12800000 in
theorem pEqF_any (d : Nat) (es fs : List Ex) (u v : Value) (w : World) (L L2 : Nat) (hu : RdE w L w.heap.size (d + 1) u es) (hv : RdE w L2 w.heap.size (d + 1) v fs)
    (IH : ∀ (a b : Ex) (A A2 : Option Addr) (c c2 : Nat) (w : World) (L L2 : Nat), RdE w L w.heap.size d (.slice A a.args.length c) a.args → RdE w L2 w.heap.size d (.slice A2 b.args.length c2) b.args →
      Calls Try.prog 13 #[exV a (.slice A a.args.length c), exV b (.slice A2 b.args.length c2)] w fun e' w' => e' = .returned (.bool (sameE d a b)) ∧ Below w.heap.size w w') :
    Calls Try.prog 12 #[u, v, .func (.func 13) #[] #[]] w fun e' w' => e' = .returned (.bool (sameL (sameE d) es fs)) ∧ Below w.heap.size w w' := by
  obtain ⟨A, c, rfl, hl, hc⟩ := hu
  obtain ⟨A2, c2, rfl, hl2, hc2⟩ := hv
  have HC := Lib.hid hc
  have HC2 := Lib.hid hc2
  have HI := Lib.hid IH
  clear hc hc2 IH
  by_cases hln : es.length = fs.length
  rotate_left
  · have hne : ¬ (es.length : Int) = fs.length := by omega
    have HF := Lib.hid (sameL_len (sameE d) es fs hln)
    go_enter Try.func12, Try.ntmps12
    go_wp2
    go_ret
    exact ⟨by rw [HF.out]; rfl, Below.refl _ _⟩
  have hni : (es.length : Int) = fs.length := by omega
  have HLN := Lib.hid hln
  clear hln
  go_enter Try.func12, Try.ntmps12
  go_wp2
  clear hni
  go_loopw [7, 8, 9, 17] (fun _ _ _ i wr => ∃ k : Nat, k ≤ es.length ∧ i = .int .i64 k ∧ Hid (sameL (sameE d) es fs = sameL (sameE d) (es.drop k) (fs.drop k)) ∧ Below w.heap.size w wr) (fun _ _ _ i _ => es.length - (intOf i).toNat)
  case atStart => exact ⟨0, Nat.zero_le _, rfl, Lib.hid rfl, Below.refl _ _⟩
  case round =>
    obtain ⟨k, hk, rfl, HR, hbr⟩ := hrel
    have hbz := hbr.size
    by_cases hlt : k < es.length
    · have hki : (k : Int) < es.length := by omega
      have hlt2 : k < fs.length := by have := HLN.out; omega
      have hki2 : (k : Int) < fs.length := by omega
      obtain ⟨ad, x, rfl, _, hab, hxc, hxr⟩ := HC.out k _ (List.getElem?_eq_getElem hlt)
      obtain ⟨A3, c3, rfl, hl3⟩ := hxr.slice
      obtain ⟨ad2, x2, rfl, _, hab2, hxc2, hxr2⟩ := HC2.out k _ (List.getElem?_eq_getElem hlt2)
      obtain ⟨A4, c4, rfl, hl4⟩ := hxr2.slice
      have hx := hxc.below hbr (by rw [add_blk]; exact hab)
      have hx2 := hxc2.below hbr (by rw [add_blk]; exact hab2)
      have hsd := sameL_drop (sameE d) es fs k _ _ (List.getElem?_eq_getElem hlt) (List.getElem?_eq_getElem hlt2)
      rw [← HR.out] at hsd
      have HSD := Lib.hid hsd
      clear hxc hxc2 hsd HR
      generalize es[k] = y at *
      generalize fs[k] = z at *
      have bX := bel_mk wr (.cells #[.int .i64 y.op, .int .i64 y.n, .int .i64 y.v.1, .int .i64 y.v.2.1, .string y.v.2.2, .string y.nm, .slice A3 y.args.length c3] 43)
      have bZ := bel_mk (wr.alloc (.cells #[.int .i64 y.op, .int .i64 y.n, .int .i64 y.v.1, .int .i64 y.v.2.1, .string y.v.2.2, .string y.nm, .slice A3 y.args.length c3] 43)) (.cells #[.int .i64 z.op, .int .i64 z.n, .int .i64 z.v.1, .int .i64 z.v.2.1, .string z.v.2.2, .string z.nm, .slice A4 z.args.length c4] 43)
      have B2 := hbr.trans ((bX.trans (bZ.mono bX.size)).mono hbz)
      have RY := ((hxr.below hbr).more hbz (Nat.le_refl _)).step (bX.trans (bZ.mono bX.size)) (Nat.le_refl _)
      have RZ := ((hxr2.below hbr).more hbz (Nat.le_refl _)).step (bX.trans (bZ.mono bX.size)) (Nat.le_refl _)
      have hcall := HI.out y z A3 A4 c3 c4 _ L L2 RY RZ
      have oY := (Own.new wr 43 #[.int .i64 y.op, .int .i64 y.n, .int .i64 y.v.1, .int .i64 y.v.2.1, .string y.v.2.2, .string y.nm, .slice A3 y.args.length c3]).alloc (.cells #[.int .i64 z.op, .int .i64 z.n, .int .i64 z.v.1, .int .i64 z.v.2.1, .string z.v.2.2, .string z.nm, .slice A4 z.args.length c4] 43)
      unfold exV at hcall
      have hz2 := hx2
      have hx3 := hx2.below bX (by rw [add_blk]; omega)
      obtain ⟨d0, d1, d2, d3, d4, d5, d6⟩ := hx
      obtain ⟨f0, f1, f2, f3, f4, f5, f6⟩ := hx3
      have y0 := oY.cell 0
      have y1 := oY.cell 1
      have y2 := oY.cell 2
      have y3 := oY.cell 3
      have y4 := oY.cell 4
      have y5 := oY.cell 5
      have y6 := oY.cell 6
      have HX := Lib.hid hcall
      have HB2 := Lib.hid B2
      clear hcall bX bZ B2 RY RZ hxr hxr2 hx2 hz2 oY
      cases hb : sameE d y z
      · rw [hb] at HX HSD
        have HF := Lib.hid (show sameL (sameE d) es fs = false by rw [HSD.out]; rfl)
        clear HSD hb
        go_wp2_with fail
        with_reducible refine HX.out.mono ?_
        rintro e w3 ⟨rfl, hb3⟩
        go_wp2
        go_ret
        exact ⟨by rw [HF.out]; rfl, HB2.out.trans (hb3.mono HB2.out.size)⟩
      · rw [hb] at HX HSD
        have HF := Lib.hid (show sameL (sameE d) es fs = sameL (sameE d) (es.drop (k + 1)) (fs.drop (k + 1)) by rw [HSD.out, Bool.true_and])
        clear HSD hb
        go_wp2_with fail
        with_reducible refine HX.out.mono ?_
        rintro e w3 ⟨rfl, hb3⟩
        have HB3 := Lib.hid (HB2.out.trans (hb3.mono HB2.out.size))
        clear hb3 HX y0 y1 y2 y3 y4 y5 y6 d0 d1 d2 d3 d4 d5 d6 f0 f1 f2 f3 f4 f5 f6
        go_wp2
        go_round
        case rel => first | exact ⟨k + 1, by omega, by go_num, HF, HB3.out⟩ | exact ⟨_, _, _, _, ⟨k + 1, by omega, by go_num, HF, HB3.out⟩, rfl, rfl, rfl, rfl⟩
        case measure => simp [intOf]; omega
    · have hki : ¬ (k : Int) < es.length := by omega
      have hki3 : ¬ (k : Int) < fs.length := by have := HLN.out; omega
      have HF := Lib.hid (show sameL (sameE d) es fs = true by rw [HR.out, List.drop_eq_nil_of_le (by omega), List.drop_eq_nil_of_le (by have := HLN.out; omega)]; rfl)
      clear HR
      go_wp2
      go_ret
      exact ⟨by rw [HF.out]; rfl, hbr⟩
set_option maxRecDepth 100000 in
set_option maxHeartbeats 12800000 in
theorem pSame_any : ∀ (d : Nat) (a b : Ex) (A A2 : Option Addr) (c c2 : Nat) (w : World) (L L2 : Nat), RdE w L w.heap.size d (.slice A a.args.length c) a.args → RdE w L2 w.heap.size d (.slice A2 b.args.length c2) b.args →
    Calls Try.prog 13 #[exV a (.slice A a.args.length c), exV b (.slice A2 b.args.length c2)] w fun e' w' => e' = .returned (.bool (sameE d a b)) ∧ Below w.heap.size w w'
  | 0, _, _, _, _, _, _, _, _, _, h, _ => h.elim
  | d + 1, a, b, A, A2, c, c2, w, L, L2, ha, hb => by
    have IH := pSame_any d
    obtain ⟨op, n, ⟨k1, k2, s⟩, nm, es⟩ := a
    obtain ⟨op2, n2, ⟨j1, j2, s2⟩, nm2, fs⟩ := b
    unfold sameE sameF exV
    dsimp only at ha hb ⊢
    have b1 := bel_mk w (.cells #[.int .i64 op, .int .i64 n, .int .i64 k1, .int .i64 k2, .string s, .string nm, .slice A es.length c] 43)
    have b2 := bel_mk (w.alloc (.cells #[.int .i64 op, .int .i64 n, .int .i64 k1, .int .i64 k2, .string s, .string nm, .slice A es.length c] 43)) (.cells #[.int .i64 op2, .int .i64 n2, .int .i64 j1, .int .i64 j2, .string s2, .string nm2, .slice A2 fs.length c2] 43)
    have B2 := b1.trans (b2.mono b1.size)
    have hcall := pEqF_any d es fs _ _ _ L L2 (ha.step B2 (Nat.le_refl _)) (hb.step B2 (Nat.le_refl _)) IH
    have HX := Lib.hid hcall
    have HB := Lib.hid B2
    have q := fun W => Va.eql_val k1 k2 s j1 j2 s2 W
    have oa := (Own.new w 43 #[.int .i64 op, .int .i64 n, .int .i64 k1, .int .i64 k2, .string s, .string nm, .slice A es.length c]).alloc (.cells #[.int .i64 op2, .int .i64 n2, .int .i64 j1, .int .i64 j2, .string s2, .string nm2, .slice A2 fs.length c2] 43)
    have x0 := oa.cell 0
    have x1 := oa.cell 1
    have x2 := oa.cell 2
    have x3 := oa.cell 3
    have x4 := oa.cell 4
    have x5 := oa.cell 5
    have x6 := oa.cell 6
    clear b1 b2 B2 hcall ha hb IH oa
    generalize sameL (sameE d) es fs = S at *
    generalize Va.eqV k1 k2 s j1 j2 s2 = V at *
    cases h1 : (op == op2)
    · go_enter Try.func13, Try.ntmps13
      go_wp2
      go_ret
      exact ⟨rfl, HB.out⟩
    cases h2 : (n == n2)
    · go_enter Try.func13, Try.ntmps13
      go_wp2
      go_ret
      exact ⟨rfl, HB.out⟩
    cases V
    · go_enter Try.func13, Try.ntmps13
      go_wp2
      go_ret
      exact ⟨rfl, HB.out⟩
    cases h4 : (nm.toList == nm2.toList)
    · go_enter Try.func13, Try.ntmps13
      go_wp2
      go_ret
      exact ⟨rfl, HB.out⟩
    · go_enter Try.func13, Try.ntmps13
      go_wp2_with fail
      refine HX.out.mono ?_
      rintro e w3 ⟨rfl, hb3⟩
      go_wp2
      go_ret
      exact ⟨by cases S <;> rfl, HB.out.trans (hb3.mono HB.out.size)⟩
end Go.Proofs.Ytjdbjnmnihnmhaa
