import Derived.Test.YtnbeopkpkagjmaaGreatMS
import Derived.Test.YtnbeopkpkagjmaaGreatMA
import Derived.Test.YtnbeopkpkagjmaaGreatMP
import Derived.Test.YtnbeopkpkagjmaaGreatMQ
import Derived.Test.YtnbeopkpkagjmaaGreatSH
import Derived.Deep.AppendLies
import Derived.Laws.OwnMore
import Derived.WalkKit
import Derived.WalkSpells
import Derived.WalkLawsBesides
import Derived.Deep.QuietTactic
import Derived.BigQuiet
import Derived.Handy
import Derived.Lib.Hide
import Derived.Shelf.SlSortCmp.WholeK
import Derived.Shelf.SlSortCmp.NoneTotal
import Derived.Shelf.Spec.SlicesGrow
/-
  Rows of bounds: what a call reads and makes; boundsOf, slices.Concat, slices.SortFunc over bounds. Conditions: the lists hold at most a million elements.
-/
namespace Go.Proofs.YtnbeopkpkagjmaaGreat
set_option maxRecDepth 100000
set_option linter.unusedVariables false
set_option linter.unusedSimpArgs false
open Go.RowKit Go.Sort

def encB (d : Bd) : List Value := [.int .i64 d.1, .int .i64 d.2.1, .int .i64 d.2.2]
def flatB (l : List Bd) : List Value := l.flatMap encB
theorem flatB_get : ∀ (l : List Bd) (k : Nat) (d : Bd), l[k]? = some d → (flatB l)[k * 3]? = some (.int .i64 d.1) ∧ (flatB l)[k * 3 + 1]? = some (.int .i64 d.2.1) ∧ (flatB l)[k * 3 + 2]? = some (.int .i64 d.2.2)
  | [], k, p, h => by simp at h
  | q :: l, 0, p, h => by simp at h; subst h; simp [flatB, encB]
  | q :: l, k + 1, p, h => by
    have := flatB_get l k p (by simpa using h)
    rw [show (k + 1) * 3 = k * 3 + 1 + 1 + 1 by omega, show k * 3 + 1 + 1 + 1 + 1 = (k * 3 + 1) + 1 + 1 + 1 by omega, show k * 3 + 1 + 1 + 1 + 2 = (k * 3 + 2) + 1 + 1 + 1 by omega]
    simpa [flatB, encB] using this
theorem flatB_length : ∀ (l : List Bd), (flatB l).length = l.length * 3
  | [] => rfl
  | q :: l => by have := flatB_length l; simp only [flatB, encB, List.flatMap_cons, List.length_append, List.length_cons, List.length_nil] at this ⊢; omega
theorem flatB_append (l m : List Bd) : flatB (l ++ m) = flatB l ++ flatB m := by simp [flatB]
theorem flatB_one (l : List Bd) : ∀ u ∈ flatB l, u.oneCell' = true := by
  intro u hu
  unfold flatB at hu
  obtain ⟨p, _, h⟩ := List.mem_flatMap.1 hu
  simp [encB] at h
  rcases h with rfl | rfl | rfl <;> rfl
theorem add_next2 (a : Addr) (i : Nat) : a.add (i + 2) = ⟨(a.add i).block, (a.add i).off + 2, none⟩ := by
  unfold Addr.add
  by_cases h : i = 0
  · subst h; simp
  · simp [h, Nat.add_assoc]
/-- The slice v holds the bounds l, below block B and not below block L. -/
def RdB (w : World) (L B : Nat) (v : Value) (l : List Bd) : Prop :=
  ∃ A c, v = .slice A l.length c ∧ l.length ≤ 9223372036854775807 ∧ ∀ (k : Nat) (d : Bd), l[k]? = some d → ∃ ad : Addr, A = some ad ∧ L ≤ ad.block ∧ ad.block < B ∧
    w.cell? (ad.add (k * 3)) = some (.int .i64 d.1) ∧ w.cell? (ad.add (k * 3 + 1)) = some (.int .i64 d.2.1) ∧ w.cell? (ad.add (k * 3 + 2)) = some (.int .i64 d.2.2)
theorem RdB.below {w w' : World} {L B : Nat} {v : Value} {l : List Bd} (h : RdB w L B v l) (hb : Below B w w') : RdB w' L B v l := by
  obtain ⟨A, c, hv, hl, hc⟩ := h
  refine ⟨A, c, hv, hl, fun k n hk => ?_⟩
  obtain ⟨ad, h1, h0, h2, h3, h4, h5⟩ := hc k n hk
  have g := fun j => hb.cell (p := ad.add j) (by rw [add_block]; exact h2)
  exact ⟨ad, h1, h0, h2, (g _).trans h3, (g _).trans h4, (g _).trans h5⟩
theorem RdB.more {w : World} {L L' B B' : Nat} {v : Value} {l : List Bd} (h : RdB w L B v l) (hB : B ≤ B') (hL : L' ≤ L) : RdB w L' B' v l := by
  obtain ⟨A, c, hv, hl, hc⟩ := h
  refine ⟨A, c, hv, hl, fun k n hk => ?_⟩
  obtain ⟨ad, h1, h0, h2, h3⟩ := hc k n hk
  exact ⟨ad, h1, by omega, by omega, h3⟩
theorem RdB.at {w : World} {L B : Nat} {A : Option Addr} {m c : Nat} {l : List Bd} (h : RdB w L B (.slice A m c) l) {k : Nat} {d : Bd} (hk : l[k]? = some d) : ∃ ad : Addr, A = some ad ∧ L ≤ ad.block ∧ ad.block < B ∧
    w.cell? (ad.add (k * 3)) = some (.int .i64 d.1) ∧ w.cell? (ad.add (k * 3 + 1)) = some (.int .i64 d.2.1) ∧ w.cell? (ad.add (k * 3 + 2)) = some (.int .i64 d.2.2) := by
  obtain ⟨A', c', hv, hl, hc⟩ := h
  injection hv with e1 e2 e3
  subst e1
  exact hc k d hk
theorem RdB.of_own {w : World} {base : Nat} {v : Value} {l : List Bd} (h : w.ownsRow base 65 3 v l.length (flatB l)) (hl : l.length ≤ 9223372036854775807) : RdB w base w.heap.size v l := by
  rcases own_get h with ⟨rfl, h0⟩ | ⟨g, c, rfl, hb, hg, _, hc⟩
  · obtain rfl := List.eq_nil_of_length_eq_zero h0
    exact ⟨none, 0, rfl, by simp, by simp⟩
  · refine ⟨_, c, rfl, hl, fun k p hk => ⟨_, rfl, hb, hg, ?_⟩⟩
    obtain ⟨h1, h2, h3⟩ := flatB_get l k p hk
    rw [plain_add, plain_add, plain_add]
    exact ⟨hc _ _ h1, hc _ _ h2, hc _ _ h3⟩
theorem flatB_cell {w : World} {ad : Addr} {m : List Bd} (h : ∀ (k : Nat) (p : Bd), m[k]? = some p → w.cell? (ad.add (k * 3)) = some (.int .i64 p.1) ∧ w.cell? (ad.add (k * 3 + 1)) = some (.int .i64 p.2.1) ∧ w.cell? (ad.add (k * 3 + 2)) = some (.int .i64 p.2.2)) : ∀ j u, (flatB m)[j]? = some u → w.cell? (ad.add j) = some u := by
  intro j u hu
  have hj : j < (flatB m).length := (List.getElem?_eq_some_iff.1 hu).1
  rw [flatB_length] at hj
  have hk : j / 3 < m.length := by omega
  have hp := List.getElem?_eq_getElem hk
  obtain ⟨g0, g1, g2⟩ := flatB_get m (j / 3) _ hp
  obtain ⟨k0, k1, k2⟩ := h (j / 3) _ hp
  have h3 : j % 3 = 0 ∨ j % 3 = 1 ∨ j % 3 = 2 := by omega
  rcases h3 with h0 | h0 | h0
  · have e : j / 3 * 3 = j := by omega
    rw [e] at g0 k0
    rw [g0] at hu; cases hu; exact k0
  · have e : j / 3 * 3 + 1 = j := by omega
    rw [e] at g1 k1
    rw [g1] at hu; cases hu; exact k1
  · have e : j / 3 * 3 + 2 = j := by omega
    rw [e] at g2 k2
    rw [g2] at hu; cases hu; exact k2
theorem infoBd : (Tryz.prog.info? 65).map (fun i => (i.zero, i.size, i.bytes)) = some (some (.agg #[.int .i64 0, .int .i64 0, .int .i64 0]), 3, 24) := by kernel_rfl
theorem append_bds {ops : Array Oper} {rest : List Oper} {o : Oper} {a : Act} {Q : Exit → Act → World → Prop} (W : World) (hgd : o.guard = none) (s x : Operand)
    (ho : o.op = .call { callee := .builtin .append, args := #[s, x], argTypes := #[62, 62] }) (base : Nat) (v : Value) (l : List Bd) (hs : a.eval s = v)
    (hown : W.ownsRow base 65 3 v l.length (flatB l)) (ad : Addr) (m : List Bd) (n c : Nat) (hn : n = m.length) (hx : a.eval x = .slice (some ad) n c)
    (hnew : ∀ j u, (flatB m)[j]? = some u → W.cell? (ad.add j) = some u) (hl : l.length + m.length ≤ 1000000000) (hbase : base ≤ W.heap.size)
    (h : ∀ v' w', w'.ownsRow base 65 3 v' (l ++ m).length (flatB (l ++ m)) → Below base W w' → wpList Tryz.prog ops Q rest (a.put o.dst v') w') :
    wpList Tryz.prog ops Q (o :: rest) a W := by
  subst hn
  obtain ⟨i0, hi, hz0, hz1, hz2⟩ := info_parts infoBd
  refine wpList_append_own _ hgd s x 62 ho base 65 i0 (.agg #[.int .i64 0, .int .i64 0, .int .i64 0]) 3 24 Tryz.underlying62 hi hz0 hz1 hz2 rfl (by decide) v l.length (flatB l) hs hown ad m.length c (flatB m) hx (flatB_length m)
    hnew (flatB_one m) (by unfold maxLen; omega) (by omega) hbase ?_
  intro v' w' h1 h2 _
  refine h v' w' (by rw [flatB_append, List.length_append]; exact h1) ((Below.refl _ _).grown h2 hbase fun k hk => (hown.lt k hk).1)
theorem append_rdB {ops : Array Oper} {rest : List Oper} {o : Oper} {a : Act} {Q : Exit → Act → World → Prop} (W : World) (hgd : o.guard = none) (s x : Operand)
    (ho : o.op = .call { callee := .builtin .append, args := #[s, x], argTypes := #[62, 62] }) (base : Nat) (v : Value) (l : List Bd) (hs : a.eval s = v)
    (hown : W.ownsRow base 65 3 v l.length (flatB l)) (L B : Nat) (A : Option Addr) (m : List Bd) (n c : Nat) (hx : a.eval x = .slice A n c) (hr : RdB W L B (.slice A n c) m)
    (hl : l.length + m.length ≤ 1000000000) (hbase : base ≤ W.heap.size)
    (h : ∀ v' w', w'.ownsRow base 65 3 v' (l ++ m).length (flatB (l ++ m)) → Below base W w' → wpList Tryz.prog ops Q rest (a.put o.dst v') w') :
    wpList Tryz.prog ops Q (o :: rest) a W := by
  have hr0 := hr
  obtain ⟨A', c', hv, _, _⟩ := hr
  injection hv with e1 e2 e3
  subst e1 e2
  cases A with
  | some ad =>
    refine append_bds W hgd s x ho base v l hs hown ad m _ _ rfl hx (flatB_cell fun k p hk => ?_) hl hbase h
    obtain ⟨ad', e, _, _, k0⟩ := hr0.at hk
    injection e with e
    subst e
    exact k0
  | none =>
    have hm : m = [] := by
      cases m with
      | nil => rfl
      | cons p m => obtain ⟨ad', e, _⟩ := hr0.at (k := 0) (d := p) rfl; cases e
    subst hm
    obtain ⟨i0, hi, hz0, hz1, hz2⟩ := info_parts infoBd
    refine wpList_plain hgd fun K hK => ?_
    have hx' : a.eval x = .slice none 0 c := hx
    have hrun := run_append_nil W base 62 o.type 65 i0 3 Tryz.underlying62 hi v l.length (flatB l) hown c
    unfold Oper.wp
    simp only [execOp, ho, resolve, invoke, builtin, Sem.run_bind, Sem.run_pure, Result.andThen_ok, List.map_toArray, List.map_cons, List.map_nil, hs, hx', hrun]
    exact hK _ _ (h v W (by rw [List.append_nil]; exact hown) (Below.refl _ _))
theorem own_nilB (W : World) (base : Nat) : W.ownsRow base 65 3 (.slice none 0 0) ([] : List Bd).length (flatB []) := World.ownsRow_nil W base _ 3
def RetBds (w : World) (l : List Bd) (e : Ending) (w' : World) : Prop := ∃ v, e = .returned v ∧ RdB w' w.heap.size w'.heap.size v l ∧ Below w.heap.size w w'
theorem bnds_step {j : Int} {l : List (Int × Int)} {k : Nat} {a b : Int} (hk : l[k]? = some (a, b)) : bnds j (l.take (k + 1)) = bnds j (l.take k) ++ (if vld a b then [(a, j, 1), (b, j, -1)] else []) := by
  obtain ⟨hlt, e⟩ := List.getElem?_eq_some_iff.1 hk
  rw [List.take_succ_eq_append_getElem hlt, bnds_snoc, e]

set_option maxRecDepth 100000 in
set_option maxHeartbeats 1600000 in
theorem boundsOf_any (v : Value) (l : List (Int × Int)) (j : Int) (w : World) (L : Nat) (hv : RdP w L w.heap.size v l) (hlen : l.length ≤ 200000) :
    Calls Tryz.prog 65 #[v, .int .i64 j] w (RetBds w (bnds j l)) := by
  have hv0 := hv
  obtain ⟨A, c, rfl, hl63, _⟩ := hv
  go_enter Tryz.func65, Tryz.ntmps65
  go_wp2
  go_loopw [5, 10] (fun o i wr => ∃ k : Nat, k ≤ l.length ∧ i = .int .i64 k ∧ wr.ownsRow w.heap.size 65 3 o (bnds j (l.take k)).length (flatB (bnds j (l.take k))) ∧ Below w.heap.size w wr) (fun _ i _ => l.length - (intOf i).toNat)
  case atStart => exact ⟨0, by omega, rfl, own_nilB _ _, Below.refl _ _⟩
  case round =>
    obtain ⟨k, hk, rfl, hown, hbr⟩ := hrel
    have hbz := hbr.size
    have HO := Lib.hid hown
    clear hown
    by_cases hlt : k < l.length
    · have hx := List.getElem?_eq_getElem hlt
      generalize l[k] = p at hx
      obtain ⟨a, b⟩ := p
      have hS := Lib.hid (bnds_step (j := j) hx)
      have hle := bnds_len j (l.take k)
      rw [List.length_take] at hle
      obtain ⟨ad, rfl, _, hab, c0, c1⟩ := (hv0.below hbr).at hx
      dsimp only at c0 c1
      clear hx
      have bW : Below wr.heap.size wr (wr.alloc (.cells #[.int .i64 a, .int .i64 b] 33)) := (Below.refl _ _).alloc (Nat.le_refl _) _
      have oW := Own.new wr 33 #[.int .i64 a, .int .i64 b]
      cases hV : vld a b
      · go_wp2_with (go_at_call 46; refine (valid_any _ _ _).mono ?_; rw [hV]; rintro e w2 ⟨rfl, hb2⟩)
        have B2 := bW.trans (hb2.mono bW.size)
        go_roundw
        case rel => exact ⟨k + 1, by omega, by go_num, by rw [hS.out, hV, if_neg (by decide), List.append_nil]; exact own_below HO.out B2, hbr.trans (B2.mono hbz)⟩
        case measure => simp [intOf]; omega
      · go_wp2_with (first
          | (go_at_call 46; refine (valid_any _ _ _).mono ?_; rw [hV]; rintro e w2 ⟨rfl, hb2⟩; have B2 := bW.trans (hb2.mono bW.size); have z2 := B2.size; have H2 := Lib.hid (own_below HO.out B2); have o2 := Own.below oW hb2 (by simp); have d0 : w2.cell? ⟨wr.heap.size, 0, none⟩ = some (.int .i64 a) := o2.cell 0; have d1 : w2.cell? ⟨wr.heap.size, 1, none⟩ = some (.int .i64 b) := o2.cell 1; clear hb2 o2)
          | (at_builtin; refine append_bds _ rfl _ _ rfl w.heap.size _ (bnds j (l.take k)) rfl (World.ownsRow.alloc H2.out _) ⟨w2.heap.size, 0, none⟩ [(a, j, 1), (b, j, -1)] 2 _ rfl rfl (World.news_of_block (heap_alloc_new _ _)) ?_ ?_ ?_; (focus (simp only [List.length_cons, List.length_nil]; omega)); (focus go_size); intro v1 w1 hown1 hb1))
        go_roundw
        case rel => exact ⟨k + 1, by omega, by go_num, by rw [hS.out, hV, if_pos rfl]; exact hown1, (hbr.trans (B2.mono hbz)).trans (((Below.refl _ _).alloc (by omega) _).trans hb1)⟩
        case measure => simp [intOf]; omega
    · have hT : l.take k = l := List.take_of_length_le (by omega)
      rw [hT] at HO
      have hle := bnds_len j l
      have hd : ¬ (k : Int) < l.length := by omega
      go_wp2
      go_ret
      exact ⟨_, rfl, RdB.of_own HO.out (by omega), hbr⟩
end Go.Proofs.YtnbeopkpkagjmaaGreat
/-
  slices.SortFunc over bounds: a permutation, ascending by the instant. Conditions: at most a million bounds.
-/
namespace Go.Proofs.YtnbeopkpkagjmaaGreat
set_option maxRecDepth 100000
set_option linter.unusedVariables false
set_option linter.unusedSimpArgs false
open Go.RowKit Go.Sort Go.Lib

def cfB (x y : Bd) : Int := Lib.compareInt x.1 y.1
theorem ltB (x y : Bd) : ltOf cfB x y = decide (x.1 < y.1) := by
  unfold ltOf cfB Lib.compareInt
  by_cases h1 : x.1 < y.1
  · simp [h1]
  · by_cases h2 : y.1 < x.1 <;> simp [h1, h2]
theorem swoB : SWO (ltOf cfB) where
  irrefl x := by rw [ltB]; simp
  trans x y z h1 h2 := by rw [ltB] at *; simp at *; omega
  ntrans x y z h1 h2 := by rw [ltB] at *; simp at *; omega

set_option maxHeartbeats 1000000 in
theorem closureB (x y : Bd) (W : World) : Calls Tryz.prog 67 #[.agg (encB x).toArray, .agg (encB y).toArray] W fun e w' => e = .returned (.int .i64 (cfB x y)) ∧ ∃ q os', w' = grow (W.drewN q) os' := by
  obtain ⟨x1, x2, x3⟩ := x
  obtain ⟨y1, y2, y3⟩ := y
  unfold encB cfB
  have hcon := fun W' => Tryz.cmp_Compare_int x1 y1 W'
  dsimp only
  generalize Lib.compareInt x1 y1 = r at hcon ⊢
  go_enter Tryz.func67, Tryz.ntmps67
  go_wp2_with (go_at_call 68; refine (hcon _).mono ?_; rintro e w' ⟨rfl, rfl⟩)
  go_ret
  exact ⟨rfl, 0, _, by rw [alloc_eq_grow, alloc_eq_grow, grow_grow]; rfl⟩

theorem below_sortWorld {α : Type} [Inhabited α] (enc : α → List Value) (k : Nat) (w : World) (blk off n : Nat) (d : Array α) (os : Array Obj) (hblk : blk < w.heap.size) : Below blk w (sortWorldK enc k w blk off n d os) := by
  refine ⟨rfl, rfl, rfl, size_sortWorldK_c enc k w blk off n d os, fun j hj => ?_⟩
  unfold sortWorldK putRowK putRow mapBlock grow Sort.ahead
  show (w.heap.modify blk _ ++ os)[j]? = _
  rw [Array.getElem?_append_left (by rw [Array.size_modify]; omega), Array.getElem?_modify, if_neg (by omega)]

theorem holds_of_own {w : World} {base g c : Nat} {l : List Bd} (h : w.ownsRow base 65 3 (.slice (some ⟨g, 0, none⟩) l.length c) l.length (flatB l)) : HoldsK encB 3 w g 0 l.toArray := by
  intro j hj
  have hjl : j < l.length * 3 := by simpa using hj
  have h1 := World.ownsRow.cellAt h j hjl
  have h2 := World.ownsRow.frozenAt h j
  rw [Nat.zero_add]
  refine ⟨?_, h2⟩
  rw [h1, get_flatK _ _ _ _ (by simpa using hjl)]
  have hk : j / 3 < l.length := by omega
  have hp := List.getElem?_eq_getElem hk
  obtain ⟨g0, g1, g2⟩ := flatB_get l (j / 3) _ hp
  have e0 : l.toArray[j / 3]! = l[j / 3] := by rw [getElem!_pos _ _ (by simpa using hk)]; simp
  rw [e0]
  have h3 : j % 3 = 0 ∨ j % 3 = 1 ∨ j % 3 = 2 := by omega
  rcases h3 with h0 | h0 | h0
  · have e : j / 3 * 3 = j := by omega
    rw [e] at g0; rw [g0, h0]; rfl
  · have e : j / 3 * 3 + 1 = j := by omega
    rw [e] at g1; rw [g1, h0]; rfl
  · have e : j / 3 * 3 + 2 = j := by omega
    rw [e] at g2; rw [g2, h0]; rfl
theorem rd_of_holds {w : World} {base g c : Nat} {d : Array Bd} (h : HoldsK encB 3 w g 0 d) (hb : base ≤ g) (hg : g < w.heap.size) (hl : d.size ≤ 9223372036854775807) : RdB w base w.heap.size (.slice (some ⟨g, 0, none⟩) d.size c) d.toList := by
  refine ⟨some ⟨g, 0, none⟩, c, by simp, by simpa using hl, fun k p hk => ⟨⟨g, 0, none⟩, rfl, hb, hg, ?_⟩⟩
  obtain ⟨hk1, rfl⟩ := List.getElem?_eq_some_iff.1 hk
  have hk2 : k < d.size := by simpa using hk1
  have e0 : d[k]! = d.toList[k] := by rw [getElem!_pos d k hk2]; simp
  have c0 := (HoldsK.cell h hk2 (show 0 < 3 by omega)).1
  have c1 := (HoldsK.cell h hk2 (show 1 < 3 by omega)).1
  have c2 := (HoldsK.cell h hk2 (show 2 < 3 by omega)).1
  rw [e0] at c0 c1 c2
  rw [plain_add, plain_add, plain_add]
  rw [Nat.zero_add] at c0 c1 c2
  exact ⟨c0, c1, c2⟩

/-- What slices.SortFunc leaves behind. -/
def Sorted (w : World) (base : Nat) (v : Value) (l : List Bd) (e : Ending) (w' : World) : Prop :=
  e = .returned (.tuple #[]) ∧ ∃ D : List Bd, D.Perm l ∧ D.Pairwise (fun x y => x.1 ≤ y.1) ∧ RdB w' base w'.heap.size v D ∧ Below base w w'
theorem sort_bd (v : Value) (l : List Bd) (w : World) (base : Nat) (hown : w.ownsRow base 65 3 v l.length (flatB l)) (hlen : l.length ≤ 1000000) :
    Calls Tryz.prog 66 #[v, .func (.func 67) #[] #[]] w (Sorted w base v l) := by
  rcases own_get hown with ⟨rfl, h0⟩ | ⟨g, c, rfl, hb, hg, hnc, _⟩
  · obtain rfl := List.eq_nil_of_length_eq_zero h0
    have h := AnyF.slices_SortFunc_none { Tryz.sortBd with } none 0 (.func (.func 67) #[] #[]) w
    refine Calls.mono h ?_
    rintro e w' ⟨rfl, rfl⟩
    exact ⟨rfl, [], List.Perm.refl _, List.Pairwise.nil, ⟨none, 0, rfl, by simp, by simp⟩, Below.refl _ _⟩
  · have hH := holds_of_own hown
    have eg : ∀ args w, (callFunc 67 args).run Tryz.prog w = .ok (.enter 67 args) w := enters_of Tryz.func67 (by kernel_rfl) rfl
    have h := AnyQ.slices_SortFunc Tryz.sortBd 3 Tryz.isAgg65 Tryz.sizeOf65 encB (fun _ => rfl) (fun x v hv => by simp [encB] at hv; rcases hv with rfl | rfl | rfl <;> rfl) cfB swoB 67 #[] g 0 c l.toArray w eg (fun _ _ _ _ x y => closureB x y _) hH hg (by simp; omega)
    refine Calls.mono h ?_
    rintro e w' ⟨rfl, d', n, os, hp, hs, rfl⟩
    have hsz : d'.size = l.length := by simpa using hp.1
    refine ⟨rfl, d'.toList, ?_, ?_, ?_, (below_sortWorld encB 3 w g 0 n d' os hg).mono hb⟩
    · have h2 := hp.2.2
      have e1 : d'.extract 0 l.toArray.size = d' := by rw [show l.toArray.size = d'.size by simpa using hsz.symm]; exact Array.extract_size
      have e2 : l.toArray.extract 0 l.toArray.size = l.toArray := Array.extract_size
      rw [e1, e2] at h2
      simpa using h2
    · rw [List.pairwise_iff_getElem]
      intro i j hi hj hij
      have h3 := hs i j (Nat.zero_le _) hij (by simp at hj ⊢; omega)
      rw [ltB, getElem!_pos _ _ (by simpa using hj), getElem!_pos _ _ (by simpa using hi)] at h3
      simp at h3 ⊢
      omega
    · have h4 := rd_of_holds (c := c) (holdsK_sortWorldK_c encB 3 w g 0 l.toArray d' n os hH hg (by simpa using hsz)) hb (Nat.lt_of_lt_of_le hg (size_sortWorldK_c encB 3 w g 0 n d' os)) (by omega)
      rw [hsz] at h4
      exact h4
end Go.Proofs.YtnbeopkpkagjmaaGreat
/-
  slices.Concat over two rows of bounds. Conditions: at most a million bounds each.
-/
namespace Go.Proofs.YtnbeopkpkagjmaaGreat
set_option maxRecDepth 100000
set_option linter.unusedVariables false
set_option linter.unusedSimpArgs false
open Go.RowKit

/-- What slices.Grow leaves: an empty row of the call's own. -/
theorem grow_bd (n : Nat) (w : World) (hn : n ≤ 3000000) :
    Calls Tryz.prog 82 #[.slice none 0 0, .int .i64 n] w fun e w' => ∃ v, e = .returned v ∧ w'.ownsRow w.heap.size 65 3 v ([] : List Bd).length (flatB []) ∧ Below w.heap.size w w' := by
  rcases Nat.eq_zero_or_pos n with rfl | hpos
  · refine Calls.mono (Any8.slices_Grow_room Tryz.growBd none 0 0 0 w (by omega) (by omega) (by omega) (by omega)) ?_
    rintro e w' ⟨rfl, rfl⟩
    exact ⟨_, rfl, own_nilB _ _, Below.refl _ _⟩
  · obtain ⟨i0, hi, hz0, hz1, hz2⟩ := info_parts infoBd
    have h := Any8.slices_Grow_grow Tryz.growBd i0 (.agg #[.int .i64 0, .int .i64 0, .int .i64 0]) hi hz0 (by omega) none 0 0 n [] w (by omega) (by omega) (by rw [hz2]; omega) (by omega) (by simp) (fun _ => rfl) (fun _ h => by cases h)
    refine Calls.mono h ?_
    rintro e w' ⟨rfl, rfl⟩
    have hge := grownCap_ge w (0 + n) 0 (Tryz.growBd_ren.t 25)
    have hcm := grownCap_le_maxLen w (0 + n) 0 (Tryz.growBd_ren.t 25) (by unfold maxLen; omega)
    refine ⟨_, rfl, ⟨rfl, .inr ⟨w.heap.size, _, _, rfl, Nat.le_refl _, heap_alloc_new w.drew _, Nat.zero_le _, hcm, ?_, by simp [flatB]⟩⟩, (Below.drew (Below.refl _ _)).alloc (by simp) _⟩
    simp only [Array.size_append, List.size_toArray, size_zeroCells, List.length_nil]
    have hz : (Value.agg #[.int .i64 0, .int .i64 0, .int .i64 0]).cells.size = 3 := rfl
    rw [hz]
    generalize grownCap w (0 + n) 0 (Tryz.growBd_ren.t 25) = G at *
    omega

def cat2 (l m : List Bd) (k : Nat) : List Bd := if k = 0 then [] else if k = 1 then l else l ++ m
def siz2 (l m : List Bd) (k : Nat) : Nat := if k = 0 then 0 else if k = 1 then l.length else l.length + m.length
theorem cat2_len (l m : List Bd) (k : Nat) : (cat2 l m k).length ≤ l.length + m.length := by
  unfold cat2
  split
  · simp
  · split
    · omega
    · rw [List.length_append]; omega
def RetOwn (w : World) (l : List Bd) (e : Ending) (w' : World) : Prop := ∃ v, e = .returned v ∧ w'.ownsRow w.heap.size 65 3 v l.length (flatB l) ∧ Below w.heap.size w w'
set_option maxRecDepth 100000 in
set_option maxHeartbeats 1600000 in
theorem concat_any (u v : Value) (l m : List Bd) (g : Nat) (w : World) (L L' : Nat) (hg : g < w.heap.size) (h0 : w.cell? ⟨g, 0, none⟩ = some u) (h1 : w.cell? ⟨g, 1, none⟩ = some v) (hu : RdB w L w.heap.size u l) (hv : RdB w L' w.heap.size v m) (hl : l.length ≤ 1000000) (hm : m.length ≤ 1000000) :
    Calls Tryz.prog 64 #[.slice (some ⟨g, 0, none⟩) 2 2] w (RetOwn w (l ++ m)) := by
  have hu0 := hu
  have hv0 := hv
  obtain ⟨A, c, rfl, hl63, _⟩ := hu
  obtain ⟨A2, c2, rfl, hm63, _⟩ := hv
  go_enter Tryz.func64, Tryz.ntmps64
  go_wp2
  go_loopw [3, 11] (fun o i wr => ∃ k : Nat, k ≤ 2 ∧ i = .int .i64 k ∧ o = .int .i64 (siz2 l m k : Nat) ∧ w = wr) (fun _ i _ => 2 - (intOf i).toNat)
  case atStart => exact ⟨0, by omega, rfl, rfl, rfl⟩
  case round =>
    obtain ⟨k, hk, rfl, rfl, rfl⟩ := hrel
    have h3 : k = 0 ∨ k = 1 ∨ k = 2 := by omega
    rcases h3 with rfl | rfl | rfl
    · have e0 : siz2 l m 0 = 0 := rfl
      rw [e0]
      have hsz : ¬ ((l.length : Int) < 0) := by omega
      go_wp2
      go_roundw
      case rel => exact ⟨1, by omega, by go_num, by simp [siz2], by first | trivial | rfl⟩
      case measure => simp [intOf]
    · have e0 : siz2 l m 1 = l.length := rfl
      rw [e0]
      have hsz : ¬ (((l.length : Int) + (m.length : Int)) < 0) := by omega
      go_wp2
      go_roundw
      case rel => exact ⟨2, by omega, by go_num, by simp [siz2], by first | trivial | rfl⟩
      case measure => simp [intOf]
    · have e0 : siz2 l m 2 = l.length + m.length := rfl
      rw [e0]
      go_wp2_with fail
      refine (grow_bd (l.length + m.length) _ (by omega)).mono ?_
      rintro e w1 ⟨v1, rfl, hown1, hb1⟩
      have H1 := Lib.hid hown1
      clear hown1
      have z1 := hb1.size
      have c0 := (hb1.cell (p := ⟨g, 0, none⟩) hg).trans h0
      have c1 := (hb1.cell (p := ⟨g, 1, none⟩) hg).trans h1
      go_wp2
      go_loopw [6, 27] (fun o i wi => ∃ k : Nat, k ≤ 2 ∧ i = .int .i64 k ∧ wi.ownsRow w.heap.size 65 3 o (cat2 l m k).length (flatB (cat2 l m k)) ∧ Below w.heap.size w wi) (fun _ i _ => 2 - (intOf i).toNat)
      case atStart => exact ⟨0, by omega, rfl, H1.out, hb1⟩
      case round =>
        obtain ⟨k, hk, rfl, hown, hbr⟩ := hrel
        have HO := Lib.hid hown
        clear hown c0 c1
        have hz := hbr.size
        have c0 := (hbr.cell (p := ⟨g, 0, none⟩) hg).trans h0
        have c1 := (hbr.cell (p := ⟨g, 1, none⟩) hg).trans h1
        have h3 : k = 0 ∨ k = 1 ∨ k = 2 := by omega
        rcases h3 with rfl | rfl | rfl
        · have e1 : cat2 l m 0 = [] := rfl
          rw [e1] at HO
          go_wp2_with (at_builtin; refine append_rdB _ rfl _ _ rfl w.heap.size _ [] rfl HO.out L w.heap.size _ l _ _ rfl (hu0.below hbr) ?_ ?_ ?_; (focus (simp; omega)); (focus go_size); intro v2 w2 hown2 hb2)
          go_roundw
          case rel => exact ⟨1, by omega, by go_num, by rw [show cat2 l m 1 = [] ++ l from rfl]; exact hown2, hbr.trans hb2⟩
          case measure => simp [intOf]
        · have e1 : cat2 l m 1 = l := rfl
          rw [e1] at HO
          go_wp2_with (at_builtin; refine append_rdB _ rfl _ _ rfl w.heap.size _ l rfl HO.out L' w.heap.size _ m _ _ rfl (hv0.below hbr) ?_ ?_ ?_; (focus omega); (focus go_size); intro v2 w2 hown2 hb2)
          go_roundw
          case rel => exact ⟨2, by omega, by go_num, by rw [show cat2 l m 2 = l ++ m from rfl]; exact hown2, hbr.trans hb2⟩
          case measure => simp [intOf]
        · have e1 : cat2 l m 2 = l ++ m := rfl
          rw [e1] at HO
          go_wp2
          go_ret
          exact ⟨_, rfl, HO.out, hbr⟩
end Go.Proofs.YtnbeopkpkagjmaaGreat
