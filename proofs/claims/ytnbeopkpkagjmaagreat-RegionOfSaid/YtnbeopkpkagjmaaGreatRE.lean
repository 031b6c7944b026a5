import Derived.Test.YtnbeopkpkagjmaaGreatRD
import Derived.Laws.OwnMore
import Derived.IntWalk
import Derived.Deep.AppendLies
import Derived.WalkKit
import Derived.WalkSpells
import Derived.WalkLawsBesides
import Derived.Deep.QuietTactic
import Derived.BigQuiet
import Derived.Handy
import Derived.Lib.Hide
import Derived.Shelf.Abstract
/-
  Contracts of Slice and Section of the program, over a contract of span.Of. Conditions: at most 50000 rectangles.
-/
namespace Go.Proofs.YtnbeopkpkagjmaaGreat
set_option maxRecDepth 100000
set_option linter.unusedVariables false
set_option linter.unusedSimpArgs false
open Go.RowKit

/-- The contract of span.Of (sOf_any of OfS). -/
def OfC : Prop := ∀ (u : Value) (a : List (Int × Int)) (w : World) (L : Nat), RdP w L w.heap.size u a → a.length ≤ 50000 → Calls Tryz.prog 33 #[u] w (RetPers w (ofL a))
theorem atSp_step {l : List Rc} {k : Nat} {r : Rc} (h : l[k]? = some r) (t : Int) : atSp (l.take (k + 1)) t = atSp (l.take k) t ++ (if cnt r.2.1 r.2.2 t = true then [r.1] else []) := by
  obtain ⟨h1, rfl⟩ := List.getElem?_eq_some_iff.1 h
  unfold atSp
  rw [List.take_succ_eq_append_getElem h1, List.filter_append, List.map_append]
  congr 1
  rw [List.filter_cons, List.filter_nil]
  split <;> rfl
theorem atSp_len (l : List Rc) (t : Int) : (atSp l t).length ≤ l.length := by unfold atSp; rw [List.length_map]; exact List.length_filter_le _ _
set_option maxRecDepth 100000 in
set_option maxHeartbeats 3200000 in
theorem pSlice_any (hOf : OfC) (v : Value) (l : List Rc) (t : Int) (w : World) (L : Nat) (hv : RdR w L w.heap.size v l) (hlen : l.length ≤ 50000) :
    Calls Tryz.prog 12 #[v, .int .i64 t] w (RetPers w (slcR l t)) := by
  have hv0 := hv
  obtain ⟨A, c, rfl, hl, _⟩ := hv
  go_enter Tryz.func12, Tryz.ntmps12
  go_wp2
  go_loopw [5, 10] (fun o i wr => ∃ k : Nat, k ≤ l.length ∧ i = .int .i64 k ∧ wr.ownsRow w.heap.size 33 2 o (atSp (l.take k) t).length (flatP (atSp (l.take k) t)) ∧ Below w.heap.size w wr) (fun _ i _ => l.length - (intOf i).toNat)
  case atStart => exact ⟨0, by omega, rfl, own_nilP _ _, Below.refl _ _⟩
  case round =>
    obtain ⟨k, hk, rfl, hown, hbr⟩ := hrel
    have hbz := hbr.size
    by_cases hlt : k < l.length
    · have hx := List.getElem?_eq_getElem hlt
      generalize l[k] = r at hx
      obtain ⟨⟨a, b⟩, p, q⟩ := r
      have hS := atSp_step hx t
      have hle := atSp_len (l.take k) t
      rw [List.length_take] at hle
      have i2 : (0 : Int) ≤ (k : Int) := by omega
      have i3 : (k : Int) < (l.length : Int) := by omega
      obtain ⟨ad, rfl, _, hab, c0, c1, c2, c3⟩ := (hv0.below hbr).at hx
      dsimp only at c0 c1 c2 c3 hS
      have hM := fun W => contains_any p q t W
      generalize cnt p q t = X at *
      generalize atSp (l.take k) t = R at *
      have bX0 : Below wr.heap.size wr (wr.alloc (.cells #[.int .i64 a, .int .i64 b, .int .i64 p, .int .i64 q] 35)) := (Below.refl _ _).alloc (Nat.le_refl _) _
      have oX0 := Own.new wr 35 #[.int .i64 a, .int .i64 b, .int .i64 p, .int .i64 q]
      have sX0 : wr.heap.size < (wr.alloc (.cells #[.int .i64 a, .int .i64 b, .int .i64 p, .int .i64 q] 35)).heap.size := by simp
      have HOX := Lib.hid (World.ownsRow.alloc hown (.cells #[.int .i64 a, .int .i64 b, .int .i64 p, .int .i64 q] 35))
      clear hx hown
      have e0 := oX0.cell 0
      have e1 := oX0.cell 1
      have e2 := oX0.cell 2
      have e3 := oX0.cell 3
      go_wp2_with fail
      generalize wr.alloc (.cells #[.int .i64 a, .int .i64 b, .int .i64 p, .int .i64 q] 35) = V at *
      generalize wr.heap.size = gN at *
      refine (hM _).mono ?_
      rintro e w1 ⟨rfl, hb1⟩
      have zV := bX0.size
      have z1 := hb1.size
      have HX := Lib.hid (own_below HOX.out hb1)
      have oN := Own.below oX0 hb1 sX0
      have n0 := oN.cell 0
      have n1 := oN.cell 1
      have n2 := oN.cell 2
      have n3 := oN.cell 3
      have BX : Below w.heap.size w w1 := hbr.trans ((bX0.mono hbz).trans (hb1.mono (by omega)))
      clear HOX oX0 e0 e1 e2 e3
      cases X
      · have HS := Lib.hid (by rw [hS, if_neg (by simp), List.append_nil] : atSp (l.take (k + 1)) t = R)
        clear hS
        go_wp2
        go_roundw
        case rel => exact ⟨k + 1, by omega, by go_num, by rw [HS.out]; exact HX.out, BX⟩
        case measure => simp [intOf]; omega
      · have HS := Lib.hid (by rw [hS, if_pos rfl] : atSp (l.take (k + 1)) t = R ++ [(a, b)])
        clear hS
        go_wp2_with (at_builtin; refine append_per _ rfl _ _ rfl w.heap.size _ R rfl (World.ownsRow.alloc HX.out _) ⟨w1.heap.size, 0, none⟩ a b rfl (World.news_of_block (heap_alloc_new _ _)) ?_ ?_ ?_; (focus omega); (focus go_size); intro v1 w2 hown1 hb2)
        go_roundw
        case rel => exact ⟨k + 1, by omega, by go_num, by rw [HS.out]; exact hown1, BX.trans (((Below.refl w.heap.size w1).alloc (by omega) _).trans hb2)⟩
        case measure => simp [intOf]; omega
    · have hd : ¬ (k : Int) < l.length := by omega
      have hT : l.take k = l := List.take_of_length_le (by omega)
      rw [hT] at hown
      have hle := atSp_len l t
      have HX := Lib.hid (hOf _ _ wr w.heap.size (RdP.of_own hown (by omega)) (by omega))
      have HE := Lib.hid (slc_p l t)
      clear hown hT
      go_wp2_with fail
      refine HX.out.mono ?_
      rintro e w1 ⟨v1, rfl, r1, hb1⟩
      go_wp2
      go_ret
      exact ⟨_, rfl, by rw [← HE.out]; exact r1.more (Nat.le_refl _) hbz, hbr.trans (hb1.mono hbz)⟩
theorem atVp_step {l : List Rc} {k : Nat} {r : Rc} (h : l[k]? = some r) (t : Int) : atVp (l.take (k + 1)) t = atVp (l.take k) t ++ (if cnt r.1.1 r.1.2 t = true then [r.2] else []) := by
  obtain ⟨h1, rfl⟩ := List.getElem?_eq_some_iff.1 h
  unfold atVp
  rw [List.take_succ_eq_append_getElem h1, List.filter_append, List.map_append]
  congr 1
  rw [List.filter_cons, List.filter_nil]
  split <;> rfl
theorem atVp_len (l : List Rc) (t : Int) : (atVp l t).length ≤ l.length := by unfold atVp; rw [List.length_map]; exact List.length_filter_le _ _
set_option maxRecDepth 100000 in
set_option maxHeartbeats 3200000 in
theorem pSection_any (hOf : OfC) (v : Value) (l : List Rc) (t : Int) (w : World) (L : Nat) (hv : RdR w L w.heap.size v l) (hlen : l.length ≤ 50000) :
    Calls Tryz.prog 14 #[v, .int .i64 t] w (RetPers w (secR l t)) := by
  have hv0 := hv
  obtain ⟨A, c, rfl, hl, _⟩ := hv
  go_enter Tryz.func14, Tryz.ntmps14
  go_wp2
  go_loopw [5, 10] (fun o i wr => ∃ k : Nat, k ≤ l.length ∧ i = .int .i64 k ∧ wr.ownsRow w.heap.size 33 2 o (atVp (l.take k) t).length (flatP (atVp (l.take k) t)) ∧ Below w.heap.size w wr) (fun _ i _ => l.length - (intOf i).toNat)
  case atStart => exact ⟨0, by omega, rfl, own_nilP _ _, Below.refl _ _⟩
  case round =>
    obtain ⟨k, hk, rfl, hown, hbr⟩ := hrel
    have hbz := hbr.size
    by_cases hlt : k < l.length
    · have hx := List.getElem?_eq_getElem hlt
      generalize l[k] = r at hx
      obtain ⟨⟨a, b⟩, p, q⟩ := r
      have hS := atVp_step hx t
      have hle := atVp_len (l.take k) t
      rw [List.length_take] at hle
      have i2 : (0 : Int) ≤ (k : Int) := by omega
      have i3 : (k : Int) < (l.length : Int) := by omega
      obtain ⟨ad, rfl, _, hab, c0, c1, c2, c3⟩ := (hv0.below hbr).at hx
      dsimp only at c0 c1 c2 c3 hS
      have hM := fun W => contains_any a b t W
      generalize cnt a b t = X at *
      generalize atVp (l.take k) t = R at *
      have bX0 : Below wr.heap.size wr (wr.alloc (.cells #[.int .i64 a, .int .i64 b, .int .i64 p, .int .i64 q] 35)) := (Below.refl _ _).alloc (Nat.le_refl _) _
      have oX0 := Own.new wr 35 #[.int .i64 a, .int .i64 b, .int .i64 p, .int .i64 q]
      have sX0 : wr.heap.size < (wr.alloc (.cells #[.int .i64 a, .int .i64 b, .int .i64 p, .int .i64 q] 35)).heap.size := by simp
      have HOX := Lib.hid (World.ownsRow.alloc hown (.cells #[.int .i64 a, .int .i64 b, .int .i64 p, .int .i64 q] 35))
      clear hx hown
      have e0 := oX0.cell 0
      have e1 := oX0.cell 1
      have e2 := oX0.cell 2
      have e3 := oX0.cell 3
      go_wp2_with fail
      generalize wr.alloc (.cells #[.int .i64 a, .int .i64 b, .int .i64 p, .int .i64 q] 35) = V at *
      generalize wr.heap.size = gN at *
      refine (hM _).mono ?_
      rintro e w1 ⟨rfl, hb1⟩
      have zV := bX0.size
      have z1 := hb1.size
      have HX := Lib.hid (own_below HOX.out hb1)
      have oN := Own.below oX0 hb1 sX0
      have n0 := oN.cell 0
      have n1 := oN.cell 1
      have n2 := oN.cell 2
      have n3 := oN.cell 3
      have BX : Below w.heap.size w w1 := hbr.trans ((bX0.mono hbz).trans (hb1.mono (by omega)))
      clear HOX oX0 e0 e1 e2 e3
      cases X
      · have HS := Lib.hid (by rw [hS, if_neg (by simp), List.append_nil] : atVp (l.take (k + 1)) t = R)
        clear hS
        go_wp2
        go_roundw
        case rel => exact ⟨k + 1, by omega, by go_num, by rw [HS.out]; exact HX.out, BX⟩
        case measure => simp [intOf]; omega
      · have HS := Lib.hid (by rw [hS, if_pos rfl] : atVp (l.take (k + 1)) t = R ++ [(p, q)])
        clear hS
        go_wp2_with (at_builtin; refine append_per _ rfl _ _ rfl w.heap.size _ R rfl (World.ownsRow.alloc HX.out _) ⟨w1.heap.size, 0, none⟩ p q rfl (World.news_of_block (heap_alloc_new _ _)) ?_ ?_ ?_; (focus omega); (focus go_size); intro v1 w2 hown1 hb2)
        go_roundw
        case rel => exact ⟨k + 1, by omega, by go_num, by rw [HS.out]; exact hown1, BX.trans (((Below.refl w.heap.size w1).alloc (by omega) _).trans hb2)⟩
        case measure => simp [intOf]; omega
    · have hd : ¬ (k : Int) < l.length := by omega
      have hT : l.take k = l := List.take_of_length_le (by omega)
      rw [hT] at hown
      have hle := atVp_len l t
      have HX := Lib.hid (hOf _ _ wr w.heap.size (RdP.of_own hown (by omega)) (by omega))
      have HE := Lib.hid (sec_p l t)
      clear hown hT
      go_wp2_with fail
      refine HX.out.mono ?_
      rintro e w1 ⟨v1, rfl, r1, hb1⟩
      go_wp2
      go_ret
      exact ⟨_, rfl, by rw [← HE.out]; exact r1.more (Nat.le_refl _) hbz, hbr.trans (hb1.mono hbz)⟩
end Go.Proofs.YtnbeopkpkagjmaaGreat
/-
  Of, Intersect, Subtract of the program, over a contract of combine and of span's functions. Conditions: lengths.
-/
namespace Go.Proofs.YtnbeopkpkagjmaaGreat
set_option maxRecDepth 100000
set_option linter.unusedVariables false
set_option linter.unusedSimpArgs false
open Go.RowKit

/-- What an operation on two slices does: a span of comb f, in memory that is not older than L, where its arguments are not. -/
def OpC (G : Nat) (f : Bool → Bool → Bool) : Prop := (∀ args w, (callFunc G args).run Tryz.prog w = .ok (.enter G args) w) ∧
  ∀ (u v : Value) (a b : List (Int × Int)) (W : World) (L : Nat), L ≤ W.heap.size → RdP W L W.heap.size u a → RdP W L W.heap.size v b → spB (-1) a = true → spB (-1) b = true → a.length ≤ 50000 → b.length ≤ 50000 →
    Calls Tryz.prog G #[u, v] W fun e W' => ∃ r, e = .returned r ∧ RdP W' L W'.heap.size r (comb f a b) ∧ Below W.heap.size W W'
/-- The contract of combine: wanted. -/
def CmbC : Prop := ∀ (G : Nat) (f : Bool → Bool → Bool) (_ : f false false = false) (_ : OpC G f) (u v : Value) (a b : List Rc) (w : World) (L L2 : Nat), RdR w L w.heap.size u a → RdR w L2 w.heap.size v b → a.length + b.length ≤ 6000 →
    Calls Tryz.prog 35 #[u, v, .func (.func G) #[] #[]] w (RetRcs w (cmbR f a b))
def InterC : Prop := ∀ (u v : Value) (a b : List (Int × Int)) (w : World) (L L2 : Nat), RdP w L w.heap.size u a → RdP w L2 w.heap.size v b → a.length ≤ 50000 → b.length ≤ 50000 → Calls Tryz.prog 40 #[u, v] w (RetPers w (comb fAnd a b))
def SubC : Prop := ∀ (u v : Value) (a b : List (Int × Int)) (w : World) (L L2 : Nat), RdP w L w.heap.size u a → RdP w L2 w.heap.size v b → a.length ≤ 50000 → b.length ≤ 50000 → Calls Tryz.prog 42 #[u, v] w (RetPers w (comb fSub a b))
theorem opOf : OpC 36 fA := by
  refine ⟨enters_of Tryz.func36 (by kernel_rfl) rfl, fun u v a b W L hL hu hv ha hb _ _ => ?_⟩
  have he := Lib.hid (comb_self (f := fA) rfl (a := a) (b := b) ha (fun _ => rfl))
  have HU := Lib.hid hu
  clear hu hv
  go_enter Tryz.func36, Tryz.ntmps36
  go_wp2
  go_ret
  exact ⟨_, rfl, by rw [he.out]; exact HU.out, Below.refl _ _⟩
theorem opInter (h : InterC) : OpC 39 fAnd := by
  refine ⟨enters_of Tryz.func39 (by kernel_rfl) rfl, fun u v a b W L hL hu hv ha hb la lb => ?_⟩
  have HC := Lib.hid (h u v a b W L L hu hv la lb)
  clear hu hv h
  go_enter Tryz.func39, Tryz.ntmps39
  go_wp2_with fail
  refine HC.out.mono ?_
  rintro e w1 ⟨r, rfl, r1, hb1⟩
  go_wp2
  go_ret
  exact ⟨_, rfl, r1.more (Nat.le_refl _) hL, hb1⟩
theorem opSub (h : SubC) : OpC 41 fSub := by
  refine ⟨enters_of Tryz.func41 (by kernel_rfl) rfl, fun u v a b W L hL hu hv ha hb la lb => ?_⟩
  have HC := Lib.hid (h u v a b W L L hu hv la lb)
  clear hu hv h
  go_enter Tryz.func41, Tryz.ntmps41
  go_wp2_with fail
  refine HC.out.mono ?_
  rintro e w1 ⟨r, rfl, r1, hb1⟩
  go_wp2
  go_ret
  exact ⟨_, rfl, r1.more (Nat.le_refl _) hL, hb1⟩
theorem pOfR_any (hC : CmbC) (u : Value) (a : List Rc) (w : World) (L : Nat) (hu : RdR w L w.heap.size u a) (la : a.length ≤ 6000) : Calls Tryz.prog 16 #[u] w (RetRcs w (ofR a)) := by
  have HC := Lib.hid (hC _ fA rfl opOf u (.slice none 0 0) a [] w L 0 hu (RdR.nil _ _ _ _ _) (by simpa using la))
  clear hC hu
  go_enter Tryz.func16, Tryz.ntmps16
  go_wp2_with fail
  refine HC.out.mono ?_
  rintro e w1 ⟨r, rfl, r1, hb1⟩
  go_wp2
  go_ret
  exact ⟨_, rfl, r1, hb1⟩
theorem pInterR_any (hC : CmbC) (h : InterC) (u v : Value) (a b : List Rc) (w : World) (L L2 : Nat) (hu : RdR w L w.heap.size u a) (hv : RdR w L2 w.heap.size v b) (lab : a.length + b.length ≤ 6000) : Calls Tryz.prog 21 #[u, v] w (RetRcs w (cmbR fAnd a b)) := by
  have HC := Lib.hid (hC _ fAnd rfl (opInter h) u v a b w L L2 hu hv lab)
  clear hC hu hv h
  go_enter Tryz.func21, Tryz.ntmps21
  go_wp2_with fail
  refine HC.out.mono ?_
  rintro e w1 ⟨r, rfl, r1, hb1⟩
  go_wp2
  go_ret
  exact ⟨_, rfl, r1, hb1⟩
theorem pSubR_any (hC : CmbC) (h : SubC) (u v : Value) (a b : List Rc) (w : World) (L L2 : Nat) (hu : RdR w L w.heap.size u a) (hv : RdR w L2 w.heap.size v b) (lab : a.length + b.length ≤ 6000) : Calls Tryz.prog 23 #[u, v] w (RetRcs w (cmbR fSub a b)) := by
  have HC := Lib.hid (hC _ fSub rfl (opSub h) u v a b w L L2 hu hv lab)
  clear hC hu hv h
  go_enter Tryz.func23, Tryz.ntmps23
  go_wp2_with fail
  refine HC.out.mono ?_
  rintro e w1 ⟨r, rfl, r1, hb1⟩
  go_wp2
  go_ret
  exact ⟨_, rfl, r1, hb1⟩
end Go.Proofs.YtnbeopkpkagjmaaGreat
