import Derived.Test.YtnbeopkpkagjmaaGreatRD
import Derived.Deep.AppendLies
import Derived.Laws.OwnMore
import Derived.WalkKit
import Derived.WalkSpells
import Derived.WalkLawsBesides
import Derived.Deep.QuietTactic
import Derived.BigQuiet
import Derived.Handy
import Derived.Lib.Hide
/-
  Rows of region.bound: what a call reads and makes; boundsOf. Conditions: lengths. (Written by mkRgF.py out of XBdS.src.)
-/
namespace Go.Proofs.YtnbeopkpkagjmaaGreat
set_option maxRecDepth 100000
set_option linter.unusedVariables false
set_option linter.unusedSimpArgs false
open Go.RowKit

def encO (d : Bo) : List Value := [.int .i64 d.1, .int .i64 d.2.1, .bool d.2.2.1, .int .i64 d.2.2.2.1, .int .i64 d.2.2.2.2]
def flatO (l : List Bo) : List Value := l.flatMap encO
theorem flatO_get : ∀ (l : List Bo) (k : Nat) (d : Bo), l[k]? = some d → (flatO l)[k * 5]? = some (.int .i64 d.1) ∧ (flatO l)[k * 5 + 1]? = some (.int .i64 d.2.1) ∧ (flatO l)[k * 5 + 2]? = some (.bool d.2.2.1) ∧ (flatO l)[k * 5 + 3]? = some (.int .i64 d.2.2.2.1) ∧ (flatO l)[k * 5 + 4]? = some (.int .i64 d.2.2.2.2)
  | [], k, p, h => by simp at h
  | q :: l, 0, p, h => by simp at h; subst h; simp [flatO, encO]
  | q :: l, k + 1, p, h => by
    have := flatO_get l k p (by simpa using h)
    rw [show (k + 1) * 5 = k * 5 + 1 + 1 + 1 + 1 + 1 by omega, show k * 5 + 1 + 1 + 1 + 1 + 1 + 1 = (k * 5 + 1) + 1 + 1 + 1 + 1 + 1 by omega, show k * 5 + 1 + 1 + 1 + 1 + 1 + 2 = (k * 5 + 2) + 1 + 1 + 1 + 1 + 1 by omega, show k * 5 + 1 + 1 + 1 + 1 + 1 + 3 = (k * 5 + 3) + 1 + 1 + 1 + 1 + 1 by omega, show k * 5 + 1 + 1 + 1 + 1 + 1 + 4 = (k * 5 + 4) + 1 + 1 + 1 + 1 + 1 by omega]
    simpa [flatO, encO] using this
theorem flatO_length : ∀ (l : List Bo), (flatO l).length = l.length * 5
  | [] => rfl
  | q :: l => by have := flatO_length l; simp only [flatO, encO, List.flatMap_cons, List.length_append, List.length_cons, List.length_nil] at this ⊢; omega
theorem flatO_append (l m : List Bo) : flatO (l ++ m) = flatO l ++ flatO m := by simp [flatO]
theorem flatO_one (l : List Bo) : ∀ u ∈ flatO l, u.oneCell' = true := by
  intro u hu
  unfold flatO at hu
  obtain ⟨p, _, h⟩ := List.mem_flatMap.1 hu
  simp [encO] at h
  rcases h with rfl | rfl | rfl | rfl | rfl <;> rfl
/-- The slice v holds the bounds l, below block B and not below block L. -/
def RdO (w : World) (L B : Nat) (v : Value) (l : List Bo) : Prop :=
  ∃ A c, v = .slice A l.length c ∧ l.length ≤ 9223372036854775807 ∧ ∀ (k : Nat) (d : Bo), l[k]? = some d → ∃ ad : Addr, A = some ad ∧ L ≤ ad.block ∧ ad.block < B ∧
    w.cell? (ad.add (k * 5)) = some (.int .i64 d.1) ∧ w.cell? (ad.add (k * 5 + 1)) = some (.int .i64 d.2.1) ∧ w.cell? (ad.add (k * 5 + 2)) = some (.bool d.2.2.1) ∧ w.cell? (ad.add (k * 5 + 3)) = some (.int .i64 d.2.2.2.1) ∧ w.cell? (ad.add (k * 5 + 4)) = some (.int .i64 d.2.2.2.2)
theorem RdO.below {w w' : World} {L B : Nat} {v : Value} {l : List Bo} (h : RdO w L B v l) (hb : Below B w w') : RdO w' L B v l := by
  obtain ⟨A, c, hv, hl, hc⟩ := h
  refine ⟨A, c, hv, hl, fun k n hk => ?_⟩
  obtain ⟨ad, h1, h0, h2, h3, h4, h5, h6, h7⟩ := hc k n hk
  have g := fun j => hb.cell (p := ad.add j) (by rw [add_block]; exact h2)
  exact ⟨ad, h1, h0, h2, (g _).trans h3, (g _).trans h4, (g _).trans h5, (g _).trans h6, (g _).trans h7⟩
theorem RdO.more {w : World} {L L' B B' : Nat} {v : Value} {l : List Bo} (h : RdO w L B v l) (hB : B ≤ B') (hL : L' ≤ L) : RdO w L' B' v l := by
  obtain ⟨A, c, hv, hl, hc⟩ := h
  refine ⟨A, c, hv, hl, fun k n hk => ?_⟩
  obtain ⟨ad, h1, h0, h2, h3⟩ := hc k n hk
  exact ⟨ad, h1, by omega, by omega, h3⟩
theorem RdO.at {w : World} {L B : Nat} {A : Option Addr} {m c : Nat} {l : List Bo} (h : RdO w L B (.slice A m c) l) {k : Nat} {d : Bo} (hk : l[k]? = some d) : ∃ ad : Addr, A = some ad ∧ L ≤ ad.block ∧ ad.block < B ∧
    w.cell? (ad.add (k * 5)) = some (.int .i64 d.1) ∧ w.cell? (ad.add (k * 5 + 1)) = some (.int .i64 d.2.1) ∧ w.cell? (ad.add (k * 5 + 2)) = some (.bool d.2.2.1) ∧ w.cell? (ad.add (k * 5 + 3)) = some (.int .i64 d.2.2.2.1) ∧ w.cell? (ad.add (k * 5 + 4)) = some (.int .i64 d.2.2.2.2) := by
  obtain ⟨A', c', hv, hl, hc⟩ := h
  injection hv with e1 e2 e3
  subst e1
  exact hc k d hk
theorem RdO.of_own {w : World} {base : Nat} {v : Value} {l : List Bo} (h : w.ownsRow base 78 5 v l.length (flatO l)) (hl : l.length ≤ 9223372036854775807) : RdO w base w.heap.size v l := by
  rcases own_get h with ⟨rfl, h0⟩ | ⟨g, c, rfl, hb, hg, _, hc⟩
  · obtain rfl := List.eq_nil_of_length_eq_zero h0
    exact ⟨none, 0, rfl, by simp, by simp⟩
  · refine ⟨_, c, rfl, hl, fun k p hk => ⟨_, rfl, hb, hg, ?_⟩⟩
    obtain ⟨h1, h2, h3, h4, h5⟩ := flatO_get l k p hk
    rw [plain_add, plain_add, plain_add, plain_add, plain_add]
    exact ⟨hc _ _ h1, hc _ _ h2, hc _ _ h3, hc _ _ h4, hc _ _ h5⟩
theorem flatO_cell {w : World} {ad : Addr} {m : List Bo} (h : ∀ (k : Nat) (p : Bo), m[k]? = some p → w.cell? (ad.add (k * 5)) = some (.int .i64 p.1) ∧ w.cell? (ad.add (k * 5 + 1)) = some (.int .i64 p.2.1) ∧ w.cell? (ad.add (k * 5 + 2)) = some (.bool p.2.2.1) ∧ w.cell? (ad.add (k * 5 + 3)) = some (.int .i64 p.2.2.2.1) ∧ w.cell? (ad.add (k * 5 + 4)) = some (.int .i64 p.2.2.2.2)) : ∀ j u, (flatO m)[j]? = some u → w.cell? (ad.add j) = some u := by
  intro j u hu
  have hj : j < (flatO m).length := (List.getElem?_eq_some_iff.1 hu).1
  rw [flatO_length] at hj
  have hk : j / 5 < m.length := by omega
  have hp := List.getElem?_eq_getElem hk
  obtain ⟨g0, g1, g2, g3, g4⟩ := flatO_get m (j / 5) _ hp
  obtain ⟨k0, k1, k2, k3, k4⟩ := h (j / 5) _ hp
  have h3 : j % 5 = 0 ∨ j % 5 = 1 ∨ j % 5 = 2 ∨ j % 5 = 3 ∨ j % 5 = 4 := by omega
  rcases h3 with h0 | h0 | h0 | h0 | h0
  · have e : j / 5 * 5 = j := by omega
    rw [e] at g0 k0
    rw [g0] at hu; cases hu; exact k0
  · have e : j / 5 * 5 + 1 = j := by omega
    rw [e] at g1 k1
    rw [g1] at hu; cases hu; exact k1
  · have e : j / 5 * 5 + 2 = j := by omega
    rw [e] at g2 k2
    rw [g2] at hu; cases hu; exact k2
  · have e : j / 5 * 5 + 3 = j := by omega
    rw [e] at g3 k3
    rw [g3] at hu; cases hu; exact k3
  · have e : j / 5 * 5 + 4 = j := by omega
    rw [e] at g4 k4
    rw [g4] at hu; cases hu; exact k4
theorem infoBo : (Tryz.prog.info? 78).map (fun i => (i.zero, i.size, i.bytes)) = some (some (.agg #[.int .i64 0, .int .i64 0, .bool false, .int .i64 0, .int .i64 0]), 5, 40) := by kernel_rfl
theorem append_bos {ops : Array Oper} {rest : List Oper} {o : Oper} {a : Act} {Q : Exit → Act → World → Prop} (W : World) (hgd : o.guard = none) (s x : Operand)
    (ho : o.op = .call { callee := .builtin .append, args := #[s, x], argTypes := #[75, 75] }) (base : Nat) (v : Value) (l : List Bo) (hs : a.eval s = v)
    (hown : W.ownsRow base 78 5 v l.length (flatO l)) (ad : Addr) (m : List Bo) (n c : Nat) (hn : n = m.length) (hx : a.eval x = .slice (some ad) n c)
    (hnew : ∀ j u, (flatO m)[j]? = some u → W.cell? (ad.add j) = some u) (hl : l.length + m.length ≤ 1000000000) (hbase : base ≤ W.heap.size)
    (h : ∀ v' w', w'.ownsRow base 78 5 v' (l ++ m).length (flatO (l ++ m)) → Below base W w' → wpList Tryz.prog ops Q rest (a.put o.dst v') w') :
    wpList Tryz.prog ops Q (o :: rest) a W := by
  subst hn
  obtain ⟨i0, hi, hz0, hz1, hz2⟩ := info_parts infoBo
  refine wpList_append_own _ hgd s x 75 ho base 78 i0 (.agg #[.int .i64 0, .int .i64 0, .bool false, .int .i64 0, .int .i64 0]) 5 40 Tryz.underlying75 hi hz0 hz1 hz2 rfl (by decide) v l.length (flatO l) hs hown ad m.length c (flatO m) hx (flatO_length m)
    hnew (flatO_one m) (by unfold maxLen; omega) (by omega) hbase ?_
  intro v' w' h1 h2 _
  refine h v' w' (by rw [flatO_append, List.length_append]; exact h1) ((Below.refl _ _).grown h2 hbase fun k hk => (hown.lt k hk).1)
theorem append_rdO {ops : Array Oper} {rest : List Oper} {o : Oper} {a : Act} {Q : Exit → Act → World → Prop} (W : World) (hgd : o.guard = none) (s x : Operand)
    (ho : o.op = .call { callee := .builtin .append, args := #[s, x], argTypes := #[75, 75] }) (base : Nat) (v : Value) (l : List Bo) (hs : a.eval s = v)
    (hown : W.ownsRow base 78 5 v l.length (flatO l)) (L B : Nat) (A : Option Addr) (m : List Bo) (n c : Nat) (hx : a.eval x = .slice A n c) (hr : RdO W L B (.slice A n c) m)
    (hl : l.length + m.length ≤ 1000000000) (hbase : base ≤ W.heap.size)
    (h : ∀ v' w', w'.ownsRow base 78 5 v' (l ++ m).length (flatO (l ++ m)) → Below base W w' → wpList Tryz.prog ops Q rest (a.put o.dst v') w') :
    wpList Tryz.prog ops Q (o :: rest) a W := by
  have hr0 := hr
  obtain ⟨A', c', hv, _, _⟩ := hr
  injection hv with e1 e2 e3
  subst e1 e2
  cases A with
  | some ad =>
    refine append_bos W hgd s x ho base v l hs hown ad m _ _ rfl hx (flatO_cell fun k p hk => ?_) hl hbase h
    obtain ⟨ad', e, _, _, k0⟩ := hr0.at hk
    injection e with e
    subst e
    exact k0
  | none =>
    have hm : m = [] := by
      cases m with
      | nil => rfl
      | cons p m => obtain ⟨ad', e, _⟩ := hr0.at (k := 0) (d := p) rfl; cases e
    subst hm
    obtain ⟨i0, hi, hz0, hz1, hz2⟩ := info_parts infoBo
    refine wpList_plain hgd fun K hK => ?_
    have hx' : a.eval x = .slice none 0 c := hx
    have hrun := run_append_nil W base 75 o.type 78 i0 5 Tryz.underlying75 hi v l.length (flatO l) hown c
    unfold Oper.wp
    simp only [execOp, ho, resolve, invoke, builtin, Sem.run_bind, Sem.run_pure, Result.andThen_ok, List.map_toArray, List.map_cons, List.map_nil, hs, hx', hrun]
    exact hK _ _ (h v W (by rw [List.append_nil]; exact hown) (Below.refl _ _))
theorem own_nilO (W : World) (base : Nat) : W.ownsRow base 78 5 (.slice none 0 0) ([] : List Bo).length (flatO []) := World.ownsRow_nil W base _ 5
def RetBos (w : World) (l : List Bo) (e : Ending) (w' : World) : Prop := ∃ v, e = .returned v ∧ RdO w' w.heap.size w'.heap.size v l ∧ Below w.heap.size w w'
theorem bndR_step {j : Int} {l : List Rc} {k : Nat} {r : Rc} (hk : l[k]? = some r) : bndR j (l.take (k + 1)) = bndR j (l.take k) ++ (if sndR r then [(r.2.1, j, true, r.1), (r.2.2, j, false, r.1)] else []) := by
  obtain ⟨hlt, e⟩ := List.getElem?_eq_some_iff.1 hk
  rw [List.take_succ_eq_append_getElem hlt, bndR_snoc, e]

set_option maxRecDepth 100000 in
set_option maxHeartbeats 3200000 in
theorem rBoundsOf_any (v : Value) (l : List Rc) (j : Int) (w : World) (L : Nat) (hv : RdR w L w.heap.size v l) (hlen : l.length ≤ 200000) :
    Calls Tryz.prog 74 #[v, .int .i64 j] w (RetBos w (bndR j l)) := by
  have hv0 := hv
  obtain ⟨A, c, rfl, hl63, _⟩ := hv
  go_enter Tryz.func74, Tryz.ntmps74
  go_wp2
  go_loopw [5, 10] (fun o i wr => ∃ k : Nat, k ≤ l.length ∧ i = .int .i64 k ∧ wr.ownsRow w.heap.size 78 5 o (bndR j (l.take k)).length (flatO (bndR j (l.take k))) ∧ Below w.heap.size w wr) (fun _ i _ => l.length - (intOf i).toNat)
  case atStart => exact ⟨0, by omega, rfl, own_nilO _ _, Below.refl _ _⟩
  case round =>
    obtain ⟨k, hk, rfl, hown, hbr⟩ := hrel
    have hbz := hbr.size
    by_cases hlt : k < l.length
    · have hx := List.getElem?_eq_getElem hlt
      generalize l[k] = r at hx
      obtain ⟨⟨a, b⟩, p, q⟩ := r
      have hS := bndR_step (j := j) hx
      have hle := bndR_len j (l.take k)
      rw [List.length_take] at hle
      have i2 : (0 : Int) ≤ (k : Int) := by omega
      have i3 : (k : Int) < (l.length : Int) := by omega
      obtain ⟨ad, rfl, _, hab, c0, c1, c2, c3⟩ := (hv0.below hbr).at hx
      dsimp only at c0 c1 c2 c3 hS
      unfold sndR at hS
      dsimp only at hS
      have hM1 := fun W => valid_any a b W
      have hM2 := fun W => valid_any p q W
      generalize vld a b = X at *
      generalize vld p q = Y at *
      generalize bndR j (l.take k) = R at *
      have bX0 : Below wr.heap.size wr (wr.alloc (.cells #[.int .i64 a, .int .i64 b, .int .i64 p, .int .i64 q] 35)) := (Below.refl _ _).alloc (Nat.le_refl _) _
      have oX0 := Own.new wr 35 #[.int .i64 a, .int .i64 b, .int .i64 p, .int .i64 q]
      have sX0 : wr.heap.size < (wr.alloc (.cells #[.int .i64 a, .int .i64 b, .int .i64 p, .int .i64 q] 35)).heap.size := by simp
      have HOX := Lib.hid (World.ownsRow.alloc hown (.cells #[.int .i64 a, .int .i64 b, .int .i64 p, .int .i64 q] 35))
      clear hx hown
      have e0 := oX0.cell 0
      have e1 := oX0.cell 1
      have e2 := oX0.cell 2
      have e3 := oX0.cell 3
      go_wp2_with fail
      generalize wr.alloc (.cells #[.int .i64 a, .int .i64 b, .int .i64 p, .int .i64 q] 35) = V at *
      generalize wr.heap.size = gN at *
      refine (hM1 _).mono ?_
      rintro e w1 ⟨rfl, hb1⟩
      have zV := bX0.size
      have z1 := hb1.size
      have HX := Lib.hid (own_below HOX.out hb1)
      have oN := Own.below oX0 hb1 sX0
      have BX : Below w.heap.size w w1 := hbr.trans ((bX0.mono hbz).trans (hb1.mono (by omega)))
      clear HOX oX0 e0 e1 e2 e3
      have n2 := oN.cell 2
      have n3 := oN.cell 3
      cases X
      · have HS := Lib.hid (by simpa using hS : bndR j (l.take (k + 1)) = R)
        clear hS
        go_wp2
        go_roundw
        case rel => exact ⟨k + 1, by omega, by go_num, by rw [HS.out]; exact HX.out, BX⟩
        case measure => simp [intOf]; omega
      · go_wp2_with fail
        refine (hM2 _).mono ?_
        rintro e w2 ⟨rfl, hb2⟩
        have z2 := hb2.size
        have HY := Lib.hid (own_below HX.out hb2)
        have oM := Own.below oN hb2 oN.lt
        have BY : Below w.heap.size w w2 := BX.trans (hb2.mono (by omega))
        clear HX oN BX n2 n3 hb2
        have n0 := oM.cell 0
        have n1 := oM.cell 1
        have n2 := oM.cell 2
        have n3 := oM.cell 3
        cases Y
        · have HS := Lib.hid (by simpa using hS : bndR j (l.take (k + 1)) = R)
          clear hS
          go_wp2
          go_roundw
          case rel => exact ⟨k + 1, by omega, by go_num, by rw [HS.out]; exact HY.out, BY⟩
          case measure => simp [intOf]; omega
        · have HS := Lib.hid (by simpa using hS : bndR j (l.take (k + 1)) = R ++ [(p, j, true, (a, b)), (q, j, false, (a, b))])
          clear hS
          go_wp2_with (at_builtin; refine append_bos _ rfl _ _ rfl w.heap.size _ R rfl (World.ownsRow.alloc HY.out _) ⟨w2.heap.size, 0, none⟩ [(p, j, true, (a, b)), (q, j, false, (a, b))] 2 _ rfl rfl (World.news_of_block (heap_alloc_new _ _)) ?_ ?_ ?_; (focus (simp only [List.length_cons, List.length_nil]; omega)); (focus go_size); intro v1 w3 hown1 hb3)
          go_roundw
          case rel => exact ⟨k + 1, by omega, by go_num, by rw [HS.out]; exact hown1, BY.trans (((Below.refl w.heap.size w2).alloc (by omega) _).trans hb3)⟩
          case measure => simp [intOf]; omega
    · have hd : ¬ (k : Int) < l.length := by omega
      have hT : l.take k = l := List.take_of_length_le (by omega)
      rw [hT] at hown
      have hle := bndR_len j l
      have HX := Lib.hid (RdO.of_own hown (by omega))
      clear hown hT
      go_wp2
      go_ret
      exact ⟨_, rfl, HX.out, hbr⟩
end Go.Proofs.YtnbeopkpkagjmaaGreat
