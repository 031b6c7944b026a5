import Derived.Test.YtjdbjnmnihnmhaaST
import Derived.Test.YtjdbjnmnihnmhaaUA
import Derived.Laws.StructEq
import Derived.WalkKit
import Derived.WalkSpells
import Derived.WalkLawsBesides
import Derived.Deep.QuietTactic
import Derived.BigQuiet
import Derived.Handy
import Derived.Lib.Hide
/-
  Comparison of tables: slices.Equal over columns and numbers, sameForeign, slices.EqualFunc over foreign keys. Conditions: none. (Written by mkSsA.py.)
-/
namespace Go.Proofs.Ytjdbjnmnihnmhaa
set_option maxRecDepth 100000
set_option linter.unusedVariables false
set_option linter.unusedSimpArgs false
open Go.RowKit

/-- Two lists are compared element by element. -/
def twoL {α : Type} (f : α → α → Bool) : List α → List α → Bool
  | [], [] => true
  | a :: l, b :: m => f a b && twoL f l m
  | _, _ => false
theorem twoL_len {α : Type} (f : α → α → Bool) : ∀ l m : List α, l.length ≠ m.length → twoL f l m = false
  | [], [], h => absurd rfl h
  | [], _ :: _, _ => rfl
  | _ :: _, [], _ => rfl
  | _ :: l, _ :: m, h => by
    unfold twoL
    rw [twoL_len f l m (fun e => h (by simp [e])), Bool.and_false]
theorem twoL_drop {α : Type} (f : α → α → Bool) (l m : List α) (k : Nat) (a b : α) (ha : l[k]? = some a) (hb : m[k]? = some b) : twoL f (l.drop k) (m.drop k) = (f a b && twoL f (l.drop (k + 1)) (m.drop (k + 1))) := by
  obtain ⟨h1, rfl⟩ := List.getElem?_eq_some_iff.1 ha
  obtain ⟨h2, rfl⟩ := List.getElem?_eq_some_iff.1 hb
  rw [List.drop_eq_getElem_cons h1, List.drop_eq_getElem_cons h2]
  rfl
theorem twoL_self {α : Type} (f : α → α → Bool) (h : ∀ a, f a a = true) : ∀ l : List α, twoL f l l = true
  | [] => rfl
  | a :: l => by
    unfold twoL
    rw [h, twoL_self f h l]
    rfl
def eqC (a b : Cl) : Bool := a.1.toList == b.1.toList && (a.2.1 == b.2.1 && a.2.2 == b.2.2)
def eqI (a b : Int) : Bool := a == b
def eqF (a b : Fk) : Bool := a.2.toList == b.2.toList && twoL eqI a.1 b.1
theorem neq_col (s : ByteArray) (k : Int) (b : Bool) (s2 : ByteArray) (k2 : Int) (b2 : Bool) (w : World) : (binOp .neq 33 (.agg #[.string s, .int .i64 k, .bool b]) (.agg #[.string s2, .int .i64 k2, .bool b2])).run Try.prog w = .ok (.bool (!eqC (s, k, b) (s2, k2, b2))) w := by
  rw [run_neq_struct, run_equalIn_struct w 9999 33 _ _ (by kernel_rfl) (by kernel_rfl)]
  simp [Program.fieldsOf, Op.eqFields, Try.underlying33, Try.underlying3, Try.underlying9, Try.underlying4, part, isAgg, go_sem]
  unfold eqC
  by_cases h1 : k = k2 <;> by_cases h2 : b = b2 <;> by_cases h3 : s.toList = s2.toList <;> simp [h1, h2, h3]
set_option maxRecDepth 100000 in
set_option maxHeartbeats 6400000 in
theorem pEqI_any (u v : Value) (xs ys : List Int) (w : World) (L L2 : Nat) (hu : RdI w L w.heap.size u xs) (hv : RdI w L2 w.heap.size v ys) :
    Calls Try.prog 9 #[u, v] w fun e w' => e = .returned (.bool (twoL eqI xs ys)) ∧ Below w.heap.size w w' := by
  obtain ⟨A, c, rfl, hl1, hc1⟩ := hu
  obtain ⟨A2, c2, rfl, hl2, hc2⟩ := hv
  have HC := Lib.hid hc1
  have HC2 := Lib.hid hc2
  clear hc1 hc2
  by_cases hln : xs.length = ys.length
  rotate_left
  · have hne : ((xs.length : Int) != (ys.length : Int)) = true := by rw [bne_iff_ne]; omega
    have HF := Lib.hid (twoL_len eqI xs ys hln)
    clear hln
    go_enter Try.func9, Try.ntmps9
    go_wp2
    go_ret
    exact ⟨by rw [HF.out]; rfl, Below.refl _ _⟩
  have hne : ((xs.length : Int) != (ys.length : Int)) = false := by rw [bne_eq_false_iff_eq]; omega
  have HLN := Lib.hid hln
  clear hln
  go_enter Try.func9, Try.ntmps9
  go_wp2
  clear hne
  go_loopw [5, 13] (fun _ i wr => ∃ k : Nat, k ≤ xs.length ∧ i = .int .i64 k ∧ Hid (twoL eqI xs ys = twoL eqI (xs.drop k) (ys.drop k)) ∧ Below w.heap.size w wr) (fun _ i _ => xs.length - (intOf i).toNat)
  case atStart => exact ⟨0, Nat.zero_le _, rfl, Lib.hid rfl, Below.refl _ _⟩
  case round =>
    obtain ⟨k, hk, rfl, HR, hbr⟩ := hrel
    have hbz := hbr.size
    by_cases hlt : k < xs.length
    · have hki : (k : Int) < xs.length := by omega
      have hlt2 : k < ys.length := by have := HLN.out; omega
      have hki2 : (k : Int) < ys.length := by omega
      have hki0 : (0 : Int) ≤ (k : Int) := by omega
      obtain ⟨ad, rfl, _, hab, c0⟩ := HC.out k _ (List.getElem?_eq_getElem hlt)
      obtain ⟨ad2, rfl, _, hab2, b0⟩ := HC2.out k _ (List.getElem?_eq_getElem hlt2)
      have hcd := twoL_drop eqI xs ys k _ _ (List.getElem?_eq_getElem hlt) (List.getElem?_eq_getElem hlt2)
      rw [← HR.out] at hcd
      generalize xs[k] = a at *
      generalize ys[k] = b at *
      have d0 := (hbr.cell (p := ad.add k) (by rw [add_block]; exact hab)).trans c0
      have f0 := (hbr.cell (p := ad2.add k) (by rw [add_block]; exact hab2)).trans b0
      have x0 : ∀ r : After wr, r.w.cell? (ad.add k) = some (.int .i64 a) := after_cell (by rw [add_block]; omega) d0
      have x1 : ∀ r : After wr, r.w.cell? (ad2.add k) = some (.int .i64 b) := after_cell (by rw [add_block]; omega) f0
      clear c0 b0 d0 f0
      have HCD := Lib.hid hcd
      clear hcd
      cases hab3 : eqI a b
      · have HF := Lib.hid (show twoL eqI xs ys = false by rw [HCD.out, hab3]; rfl)
        have n0 : (a != b) = true := by unfold eqI at hab3; simp only [bne, hab3]; rfl
        clear HCD HR
        go_wp2_with fail
        (refine wp_region_after (by kernel_rfl) (by kernel_rfl) ?_; (repeat (go_big_quiet_step (fail))); refine wpQuiet_nil ?_; intro wq hw0; obtain ⟨⟨wq0, hbq⟩, hw1⟩ := hw0; subst hw1; (try dsimp only))
        clear x0 x1
        go_wp2
        go_ret
        exact ⟨by rw [HF.out]; rfl, hbr.trans (hbq.mono hbz)⟩
      · have HF := Lib.hid (show twoL eqI xs ys = twoL eqI (xs.drop (k + 1)) (ys.drop (k + 1)) by rw [HCD.out, hab3]; rfl)
        have n0 : (a != b) = false := by unfold eqI at hab3; simp only [bne, hab3]; rfl
        clear HCD HR
        go_wp2_with fail
        (refine wp_region_after (by kernel_rfl) (by kernel_rfl) ?_; (repeat (go_big_quiet_step (fail))); refine wpQuiet_nil ?_; intro wq hw0; obtain ⟨⟨wq0, hbq⟩, hw1⟩ := hw0; subst hw1; (try dsimp only))
        clear x0 x1
        go_wp2
        go_roundw
        case rel => first | exact ⟨k + 1, by omega, by go_num, HF, hbr.trans (hbq.mono hbz)⟩ | exact ⟨_, _, ⟨k + 1, by omega, by go_num, HF, hbr.trans (hbq.mono hbz)⟩, rfl, rfl⟩
        case measure => simp [intOf]; omega
    · have hki : ¬ (k : Int) < xs.length := by omega
      have HF := Lib.hid (show twoL eqI xs ys = true by rw [HR.out, List.drop_eq_nil_of_le (by omega), List.drop_eq_nil_of_le (by have := HLN.out; omega)]; rfl)
      clear HR
      go_wp2
      go_ret
      exact ⟨by rw [HF.out]; rfl, hbr⟩
set_option maxRecDepth 100000 in
set_option maxHeartbeats 6400000 in
theorem pEqC_any (u v : Value) (xs ys : List Cl) (w : World) (L L2 : Nat) (hu : RdK w L w.heap.size u xs) (hv : RdK w L2 w.heap.size v ys) :
    Calls Try.prog 8 #[u, v] w fun e w' => e = .returned (.bool (twoL eqC xs ys)) ∧ Below w.heap.size w w' := by
  obtain ⟨A, c, rfl, hl1, hc1⟩ := hu
  obtain ⟨A2, c2, rfl, hl2, hc2⟩ := hv
  have HC := Lib.hid hc1
  have HC2 := Lib.hid hc2
  clear hc1 hc2
  by_cases hln : xs.length = ys.length
  rotate_left
  · have hne : ((xs.length : Int) != (ys.length : Int)) = true := by rw [bne_iff_ne]; omega
    have HF := Lib.hid (twoL_len eqC xs ys hln)
    clear hln
    go_enter Try.func8, Try.ntmps8
    go_wp2
    go_ret
    exact ⟨by rw [HF.out]; rfl, Below.refl _ _⟩
  have hne : ((xs.length : Int) != (ys.length : Int)) = false := by rw [bne_eq_false_iff_eq]; omega
  have HLN := Lib.hid hln
  clear hln
  go_enter Try.func8, Try.ntmps8
  go_wp2
  clear hne
  go_loopw [5, 13] (fun _ i wr => ∃ k : Nat, k ≤ xs.length ∧ i = .int .i64 k ∧ Hid (twoL eqC xs ys = twoL eqC (xs.drop k) (ys.drop k)) ∧ Below w.heap.size w wr) (fun _ i _ => xs.length - (intOf i).toNat)
  case atStart => exact ⟨0, Nat.zero_le _, rfl, Lib.hid rfl, Below.refl _ _⟩
  case round =>
    obtain ⟨k, hk, rfl, HR, hbr⟩ := hrel
    have hbz := hbr.size
    by_cases hlt : k < xs.length
    · have hki : (k : Int) < xs.length := by omega
      have hlt2 : k < ys.length := by have := HLN.out; omega
      have hki2 : (k : Int) < ys.length := by omega
      have hki0 : (0 : Int) ≤ (k : Int) := by omega
      obtain ⟨ad, rfl, _, hab, c0, c1, c2⟩ := HC.out k _ (List.getElem?_eq_getElem hlt)
      obtain ⟨ad2, rfl, _, hab2, b0, b1, b2⟩ := HC2.out k _ (List.getElem?_eq_getElem hlt2)
      have hcd := twoL_drop eqC xs ys k _ _ (List.getElem?_eq_getElem hlt) (List.getElem?_eq_getElem hlt2)
      rw [← HR.out] at hcd
      generalize xs[k] = a at *
      generalize ys[k] = b at *
      obtain ⟨a0, a1, a2⟩ := a
      obtain ⟨e0, e1, e2⟩ := b
      dsimp only at c0 c1 c2 b0 b1 b2
      have x0 : ∀ r : After wr, r.w.cell? (ad.add (k * 3)) = some (.string a0) := after_cell (a := (ad.add (k * 3))) (by show (ad.add (k * 3)).block < _; rw [add_block]; omega) ((hbr.cell (p := (ad.add (k * 3))) (by show (ad.add (k * 3)).block < _; rw [add_block]; exact hab)).trans c0)
      have x1 : ∀ r : After wr, r.w.cell? ⟨(ad.add (k * 3)).block, (ad.add (k * 3)).off + 1, none⟩ = some (.int .i64 a1) := after_cell (a := ⟨(ad.add (k * 3)).block, (ad.add (k * 3)).off + 1, none⟩) (by show (ad.add (k * 3)).block < _; rw [add_block]; omega) ((hbr.cell (p := ⟨(ad.add (k * 3)).block, (ad.add (k * 3)).off + 1, none⟩) (by show (ad.add (k * 3)).block < _; rw [add_block]; exact hab)).trans c1)
      have x2 : ∀ r : After wr, r.w.cell? ⟨(ad.add (k * 3)).block, (ad.add (k * 3)).off + 2, none⟩ = some (.bool a2) := after_cell (a := ⟨(ad.add (k * 3)).block, (ad.add (k * 3)).off + 2, none⟩) (by show (ad.add (k * 3)).block < _; rw [add_block]; omega) ((hbr.cell (p := ⟨(ad.add (k * 3)).block, (ad.add (k * 3)).off + 2, none⟩) (by show (ad.add (k * 3)).block < _; rw [add_block]; exact hab)).trans c2)
      have x3 : ∀ r : After wr, r.w.cell? (ad2.add (k * 3)) = some (.string e0) := after_cell (a := (ad2.add (k * 3))) (by show (ad2.add (k * 3)).block < _; rw [add_block]; omega) ((hbr.cell (p := (ad2.add (k * 3))) (by show (ad2.add (k * 3)).block < _; rw [add_block]; exact hab2)).trans b0)
      have x4 : ∀ r : After wr, r.w.cell? ⟨(ad2.add (k * 3)).block, (ad2.add (k * 3)).off + 1, none⟩ = some (.int .i64 e1) := after_cell (a := ⟨(ad2.add (k * 3)).block, (ad2.add (k * 3)).off + 1, none⟩) (by show (ad2.add (k * 3)).block < _; rw [add_block]; omega) ((hbr.cell (p := ⟨(ad2.add (k * 3)).block, (ad2.add (k * 3)).off + 1, none⟩) (by show (ad2.add (k * 3)).block < _; rw [add_block]; exact hab2)).trans b1)
      have x5 : ∀ r : After wr, r.w.cell? ⟨(ad2.add (k * 3)).block, (ad2.add (k * 3)).off + 2, none⟩ = some (.bool e2) := after_cell (a := ⟨(ad2.add (k * 3)).block, (ad2.add (k * 3)).off + 2, none⟩) (by show (ad2.add (k * 3)).block < _; rw [add_block]; omega) ((hbr.cell (p := ⟨(ad2.add (k * 3)).block, (ad2.add (k * 3)).off + 2, none⟩) (by show (ad2.add (k * 3)).block < _; rw [add_block]; exact hab2)).trans b2)
      have q := fun W => neq_col a0 a1 a2 e0 e1 e2 W
      clear c0 c1 c2 b0 b1 b2
      have HCD := Lib.hid hcd
      clear hcd
      cases hab3 : eqC (a0, a1, a2) (e0, e1, e2)
      · have HF := Lib.hid (show twoL eqC xs ys = false by rw [HCD.out, hab3]; rfl)
        rw [hab3] at q
        clear HCD HR
        go_wp2_with fail
        (refine wp_region_after (by kernel_rfl) (by kernel_rfl) ?_; (repeat (go_big_quiet_step (fail))); refine wpQuiet_nil ?_; intro wq hw0; obtain ⟨⟨wq0, hbq⟩, hw1⟩ := hw0; subst hw1; (try dsimp only))
        clear x0 x1 x2 x3 x4 x5
        go_wp2
        go_ret
        exact ⟨by rw [HF.out]; rfl, hbr.trans (hbq.mono hbz)⟩
      · have HF := Lib.hid (show twoL eqC xs ys = twoL eqC (xs.drop (k + 1)) (ys.drop (k + 1)) by rw [HCD.out, hab3]; rfl)
        rw [hab3] at q
        clear HCD HR
        go_wp2_with fail
        (refine wp_region_after (by kernel_rfl) (by kernel_rfl) ?_; (repeat (go_big_quiet_step (fail))); refine wpQuiet_nil ?_; intro wq hw0; obtain ⟨⟨wq0, hbq⟩, hw1⟩ := hw0; subst hw1; (try dsimp only))
        clear x0 x1 x2 x3 x4 x5
        go_wp2
        go_roundw
        case rel => first | exact ⟨k + 1, by omega, by go_num, HF, hbr.trans (hbq.mono hbz)⟩ | exact ⟨_, _, ⟨k + 1, by omega, by go_num, HF, hbr.trans (hbq.mono hbz)⟩, rfl, rfl⟩
        case measure => simp [intOf]; omega
    · have hki : ¬ (k : Int) < xs.length := by omega
      have HF := Lib.hid (show twoL eqC xs ys = true by rw [HR.out, List.drop_eq_nil_of_le (by omega), List.drop_eq_nil_of_le (by have := HLN.out; omega)]; rfl)
      clear HR
      go_wp2
      go_ret
      exact ⟨by rw [HF.out]; rfl, hbr⟩
set_option maxRecDepth 100000 in
set_option maxHeartbeats 3200000 in
theorem pSmF_any (a b : Fk) (u v : Value) (w : World) (L L2 : Nat) (hu : RdI w L w.heap.size u a.1) (hv : RdI w L2 w.heap.size v b.1) :
    Calls Try.prog 11 #[.agg #[u, .string a.2], .agg #[v, .string b.2]] w fun e w' => e = .returned (.bool (eqF a b)) ∧ Below w.heap.size w w' := by
  obtain ⟨za, sa⟩ := a
  obtain ⟨zb, sb⟩ := b
  dsimp only at hu hv
  unfold eqF
  dsimp only
  have HO := Lib.hid (show Own ((w.alloc (.cells #[u, .string sa] 37)).alloc (.cells #[v, .string sb] 37)) w.heap.size 37 #[u, .string sa] from (Own.new w _ _).alloc _)
  have HP := Lib.hid (show Own ((w.alloc (.cells #[u, .string sa] 37)).alloc (.cells #[v, .string sb] 37)) (w.heap.size + 1) 37 #[v, .string sb] from own_two2 _)
  have hb : Below w.heap.size w ((w.alloc (.cells #[u, .string sa] 37)).alloc (.cells #[v, .string sb] 37)) := (bel_mk w _).trans ((bel_mk _ _).mono (by simp))
  have HB := Lib.hid hb
  have HE := Lib.hid (pEqI_any u v za zb _ L L2 (hu.step hb (Nat.le_refl _)) (hv.step hb (Nat.le_refl _)))
  have hsl : (∃ A n c, u = .slice A n c) ∧ ∃ A n c, v = .slice A n c := by
    obtain ⟨A, c, h1, _⟩ := hu
    obtain ⟨A2, c2, h2, _⟩ := hv
    exact ⟨⟨_, _, _, h1⟩, ⟨_, _, _, h2⟩⟩
  obtain ⟨⟨A, n, c, rfl⟩, A2, n2, c2, rfl⟩ := hsl
  clear hb hu hv
  have x0 := HO.out.cell 0
  have x1 := HO.out.cell 1
  have y0 := HP.out.cell 0
  have y1 := HP.out.cell 1
  generalize twoL eqI za zb = T at *
  cases hs : (sa.toList == sb.toList)
  · go_enter Try.func11, Try.ntmps11
    go_wp2
    go_ret
    exact ⟨rfl, HB.out⟩
  · go_enter Try.func11, Try.ntmps11
    go_wp2_with fail
    with_reducible refine HE.out.mono ?_
    rintro e w1 ⟨rfl, hb1⟩
    go_wp2
    go_ret
    exact ⟨by simp, HB.out.trans (hb1.mono HB.out.size)⟩
end Go.Proofs.Ytjdbjnmnihnmhaa
