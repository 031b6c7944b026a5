import Derived.Test.YtbpjgipldddcfaaGM
import Derived.Test.YtbpjgipldddcfaaGA
import Derived.Test.YtbpjgipldddcfaaGP
import Derived.Test.YtbpjgipldddcfaaGQ
import Derived.Test.YtbpjgipldddcfaaGH
import Derived.Deep.AppendLies
import Derived.Laws.OwnMore
import Derived.WalkKit
import Derived.WalkSpells
import Derived.WalkLawsBesides
import Derived.Deep.QuietTactic
import Derived.BigQuiet
import Derived.Handy
import Derived.Lib.Hide
/-
  Rows of bounds: what a call reads and makes; boundsOf, slices.Concat, slices.SortFunc over bounds. Conditions: the lists hold at most a million elements.
-/
namespace Go.Proofs.Ytbpjgipldddcfaa
set_option maxRecDepth 100000
set_option linter.unusedVariables false
set_option linter.unusedSimpArgs false
open Go.RowKit Go.Sort

def encB (d : Bd) : List Value := [.int .i64 d.1, .int .i64 d.2.1, .int .i64 d.2.2]
def flatB (l : List Bd) : List Value := l.flatMap encB
theorem flatB_get : ∀ (l : List Bd) (k : Nat) (d : Bd), l[k]? = some d → (flatB l)[k * 3]? = some (.int .i64 d.1) ∧ (flatB l)[k * 3 + 1]? = some (.int .i64 d.2.1) ∧ (flatB l)[k * 3 + 2]? = some (.int .i64 d.2.2)
  | [], k, p, h => by simp at h
  | q :: l, 0, p, h => by simp at h; subst h; simp [flatB, encB]
  | q :: l, k + 1, p, h => by
    have := flatB_get l k p (by simpa using h)
    rw [show (k + 1) * 3 = k * 3 + 1 + 1 + 1 by omega, show k * 3 + 1 + 1 + 1 + 1 = (k * 3 + 1) + 1 + 1 + 1 by omega, show k * 3 + 1 + 1 + 1 + 2 = (k * 3 + 2) + 1 + 1 + 1 by omega]
    simpa [flatB, encB] using this
theorem flatB_length : ∀ (l : List Bd), (flatB l).length = l.length * 3
  | [] => rfl
  | q :: l => by have := flatB_length l; simp only [flatB, encB, List.flatMap_cons, List.length_append, List.length_cons, List.length_nil] at this ⊢; omega
theorem flatB_append (l m : List Bd) : flatB (l ++ m) = flatB l ++ flatB m := by simp [flatB]
theorem flatB_one (l : List Bd) : ∀ u ∈ flatB l, u.oneCell' = true := by
  intro u hu
  unfold flatB at hu
  obtain ⟨p, _, h⟩ := List.mem_flatMap.1 hu
  simp [encB] at h
  rcases h with rfl | rfl | rfl <;> rfl
theorem add_next2 (a : Addr) (i : Nat) : a.add (i + 2) = ⟨(a.add i).block, (a.add i).off + 2, none⟩ := by
  unfold Addr.add
  by_cases h : i = 0
  · subst h; simp
  · simp [h, Nat.add_assoc]
/-- The slice v holds the bounds l, below block B and not below block L. -/
def RdB (w : World) (L B : Nat) (v : Value) (l : List Bd) : Prop :=
  ∃ A c, v = .slice A l.length c ∧ l.length ≤ 9223372036854775807 ∧ ∀ (k : Nat) (d : Bd), l[k]? = some d → ∃ ad : Addr, A = some ad ∧ L ≤ ad.block ∧ ad.block < B ∧
    w.cell? (ad.add (k * 3)) = some (.int .i64 d.1) ∧ w.cell? (ad.add (k * 3 + 1)) = some (.int .i64 d.2.1) ∧ w.cell? (ad.add (k * 3 + 2)) = some (.int .i64 d.2.2)
theorem RdB.below {w w' : World} {L B : Nat} {v : Value} {l : List Bd} (h : RdB w L B v l) (hb : Below B w w') : RdB w' L B v l := by
  obtain ⟨A, c, hv, hl, hc⟩ := h
  refine ⟨A, c, hv, hl, fun k n hk => ?_⟩
  obtain ⟨ad, h1, h0, h2, h3, h4, h5⟩ := hc k n hk
  have g := fun j => hb.cell (p := ad.add j) (by rw [add_block]; exact h2)
  exact ⟨ad, h1, h0, h2, (g _).trans h3, (g _).trans h4, (g _).trans h5⟩
theorem RdB.more {w : World} {L L' B B' : Nat} {v : Value} {l : List Bd} (h : RdB w L B v l) (hB : B ≤ B') (hL : L' ≤ L) : RdB w L' B' v l := by
  obtain ⟨A, c, hv, hl, hc⟩ := h
  refine ⟨A, c, hv, hl, fun k n hk => ?_⟩
  obtain ⟨ad, h1, h0, h2, h3⟩ := hc k n hk
  exact ⟨ad, h1, by omega, by omega, h3⟩
theorem RdB.at {w : World} {L B : Nat} {A : Option Addr} {m c : Nat} {l : List Bd} (h : RdB w L B (.slice A m c) l) {k : Nat} {d : Bd} (hk : l[k]? = some d) : ∃ ad : Addr, A = some ad ∧ L ≤ ad.block ∧ ad.block < B ∧
    w.cell? (ad.add (k * 3)) = some (.int .i64 d.1) ∧ w.cell? (ad.add (k * 3 + 1)) = some (.int .i64 d.2.1) ∧ w.cell? (ad.add (k * 3 + 2)) = some (.int .i64 d.2.2) := by
  obtain ⟨A', c', hv, hl, hc⟩ := h
  injection hv with e1 e2 e3
  subst e1
  exact hc k d hk
theorem RdB.of_own {w : World} {base : Nat} {v : Value} {l : List Bd} (h : w.ownsRow base 77 3 v l.length (flatB l)) (hl : l.length ≤ 9223372036854775807) : RdB w base w.heap.size v l := by
  rcases own_get h with ⟨rfl, h0⟩ | ⟨g, c, rfl, hb, hg, _, hc⟩
  · obtain rfl := List.eq_nil_of_length_eq_zero h0
    exact ⟨none, 0, rfl, by simp, by simp⟩
  · refine ⟨_, c, rfl, hl, fun k p hk => ⟨_, rfl, hb, hg, ?_⟩⟩
    obtain ⟨h1, h2, h3⟩ := flatB_get l k p hk
    rw [plain_add, plain_add, plain_add]
    exact ⟨hc _ _ h1, hc _ _ h2, hc _ _ h3⟩
theorem flatB_cell {w : World} {ad : Addr} {m : List Bd} (h : ∀ (k : Nat) (p : Bd), m[k]? = some p → w.cell? (ad.add (k * 3)) = some (.int .i64 p.1) ∧ w.cell? (ad.add (k * 3 + 1)) = some (.int .i64 p.2.1) ∧ w.cell? (ad.add (k * 3 + 2)) = some (.int .i64 p.2.2)) : ∀ j u, (flatB m)[j]? = some u → w.cell? (ad.add j) = some u := by
  intro j u hu
  have hj : j < (flatB m).length := (List.getElem?_eq_some_iff.1 hu).1
  rw [flatB_length] at hj
  have hk : j / 3 < m.length := by omega
  have hp := List.getElem?_eq_getElem hk
  obtain ⟨g0, g1, g2⟩ := flatB_get m (j / 3) _ hp
  obtain ⟨k0, k1, k2⟩ := h (j / 3) _ hp
  have h3 : j % 3 = 0 ∨ j % 3 = 1 ∨ j % 3 = 2 := by omega
  rcases h3 with h0 | h0 | h0
  · have e : j / 3 * 3 = j := by omega
    rw [e] at g0 k0
    rw [g0] at hu; cases hu; exact k0
  · have e : j / 3 * 3 + 1 = j := by omega
    rw [e] at g1 k1
    rw [g1] at hu; cases hu; exact k1
  · have e : j / 3 * 3 + 2 = j := by omega
    rw [e] at g2 k2
    rw [g2] at hu; cases hu; exact k2
theorem infoBd : (Try.prog.info? 77).map (fun i => (i.zero, i.size, i.bytes)) = some (some (.agg #[.int .i64 0, .int .i64 0, .int .i64 0]), 3, 24) := by kernel_rfl
theorem append_bds {ops : Array Oper} {rest : List Oper} {o : Oper} {a : Act} {Q : Exit → Act → World → Prop} (W : World) (hgd : o.guard = none) (s x : Operand)
    (ho : o.op = .call { callee := .builtin .append, args := #[s, x], argTypes := #[74, 74] }) (base : Nat) (v : Value) (l : List Bd) (hs : a.eval s = v)
    (hown : W.ownsRow base 77 3 v l.length (flatB l)) (ad : Addr) (m : List Bd) (n c : Nat) (hn : n = m.length) (hx : a.eval x = .slice (some ad) n c)
    (hnew : ∀ j u, (flatB m)[j]? = some u → W.cell? (ad.add j) = some u) (hl : l.length + m.length ≤ 1000000000) (hbase : base ≤ W.heap.size)
    (h : ∀ v' w', w'.ownsRow base 77 3 v' (l ++ m).length (flatB (l ++ m)) → Below base W w' → wpList Try.prog ops Q rest (a.put o.dst v') w') :
    wpList Try.prog ops Q (o :: rest) a W := by
  subst hn
  obtain ⟨i0, hi, hz0, hz1, hz2⟩ := info_parts infoBd
  refine wpList_append_own _ hgd s x 74 ho base 77 i0 (.agg #[.int .i64 0, .int .i64 0, .int .i64 0]) 3 24 Try.underlying74 hi hz0 hz1 hz2 rfl (by decide) v l.length (flatB l) hs hown ad m.length c (flatB m) hx (flatB_length m)
    hnew (flatB_one m) (by unfold maxLen; omega) (by omega) hbase ?_
  intro v' w' h1 h2 _
  refine h v' w' (by rw [flatB_append, List.length_append]; exact h1) ((Below.refl _ _).grown h2 hbase fun k hk => (hown.lt k hk).1)
theorem append_rdB {ops : Array Oper} {rest : List Oper} {o : Oper} {a : Act} {Q : Exit → Act → World → Prop} (W : World) (hgd : o.guard = none) (s x : Operand)
    (ho : o.op = .call { callee := .builtin .append, args := #[s, x], argTypes := #[74, 74] }) (base : Nat) (v : Value) (l : List Bd) (hs : a.eval s = v)
    (hown : W.ownsRow base 77 3 v l.length (flatB l)) (L B : Nat) (A : Option Addr) (m : List Bd) (n c : Nat) (hx : a.eval x = .slice A n c) (hr : RdB W L B (.slice A n c) m)
    (hl : l.length + m.length ≤ 1000000000) (hbase : base ≤ W.heap.size)
    (h : ∀ v' w', w'.ownsRow base 77 3 v' (l ++ m).length (flatB (l ++ m)) → Below base W w' → wpList Try.prog ops Q rest (a.put o.dst v') w') :
    wpList Try.prog ops Q (o :: rest) a W := by
  have hr0 := hr
  obtain ⟨A', c', hv, _, _⟩ := hr
  injection hv with e1 e2 e3
  subst e1 e2
  cases A with
  | some ad =>
    refine append_bds W hgd s x ho base v l hs hown ad m _ _ rfl hx (flatB_cell fun k p hk => ?_) hl hbase h
    obtain ⟨ad', e, _, _, k0⟩ := hr0.at hk
    injection e with e
    subst e
    exact k0
  | none =>
    have hm : m = [] := by
      cases m with
      | nil => rfl
      | cons p m => obtain ⟨ad', e, _⟩ := hr0.at (k := 0) (d := p) rfl; cases e
    subst hm
    obtain ⟨i0, hi, hz0, hz1, hz2⟩ := info_parts infoBd
    refine wpList_plain hgd fun K hK => ?_
    have hx' : a.eval x = .slice none 0 c := hx
    have hrun := run_append_nil W base 74 o.type 77 i0 3 Try.underlying74 hi v l.length (flatB l) hown c
    unfold Oper.wp
    simp only [execOp, ho, resolve, invoke, builtin, Sem.run_bind, Sem.run_pure, Result.andThen_ok, List.map_toArray, List.map_cons, List.map_nil, hs, hx', hrun]
    exact hK _ _ (h v W (by rw [List.append_nil]; exact hown) (Below.refl _ _))
theorem own_nilB (W : World) (base : Nat) : W.ownsRow base 77 3 (.slice none 0 0) ([] : List Bd).length (flatB []) := World.ownsRow_nil W base _ 3
def RetBds (w : World) (l : List Bd) (e : Ending) (w' : World) : Prop := ∃ v, e = .returned v ∧ RdB w' w.heap.size w'.heap.size v l ∧ Below w.heap.size w w'
theorem bnds_step {j : Int} {l : List (Int × Int)} {k : Nat} {a b : Int} (hk : l[k]? = some (a, b)) : bnds j (l.take (k + 1)) = bnds j (l.take k) ++ (if vld a b then [(a, j, 1), (b, j, -1)] else []) := by
  obtain ⟨hlt, e⟩ := List.getElem?_eq_some_iff.1 hk
  rw [List.take_succ_eq_append_getElem hlt, bnds_snoc, e]

set_option maxRecDepth 100000 in
set_option maxHeartbeats 1600000 in
theorem boundsOf_any (v : Value) (l : List (Int × Int)) (j : Int) (w : World) (L : Nat) (hv : RdP w L w.heap.size v l) (hlen : l.length ≤ 200000) :
    Calls Try.prog 60 #[v, .int .i64 j] w (RetBds w (bnds j l)) := by
  have hv0 := hv
  obtain ⟨A, c, rfl, hl63, _⟩ := hv
  go_enter Try.func60, Try.ntmps60
  go_wp2
  go_loopw [5, 10] (fun o i wr => ∃ k : Nat, k ≤ l.length ∧ i = .int .i64 k ∧ wr.ownsRow w.heap.size 77 3 o (bnds j (l.take k)).length (flatB (bnds j (l.take k))) ∧ Below w.heap.size w wr) (fun _ i _ => l.length - (intOf i).toNat)
  case atStart => exact ⟨0, by omega, rfl, own_nilB _ _, Below.refl _ _⟩
  case round =>
    obtain ⟨k, hk, rfl, hown, hbr⟩ := hrel
    have hbz := hbr.size
    have HO := Lib.hid hown
    clear hown
    by_cases hlt : k < l.length
    · have hx := List.getElem?_eq_getElem hlt
      generalize l[k] = p at hx
      obtain ⟨a, b⟩ := p
      have hS := Lib.hid (bnds_step (j := j) hx)
      have hle := bnds_len j (l.take k)
      rw [List.length_take] at hle
      obtain ⟨ad, rfl, _, hab, c0, c1⟩ := (hv0.below hbr).at hx
      dsimp only at c0 c1
      clear hx
      have bW : Below wr.heap.size wr (wr.alloc (.cells #[.int .i64 a, .int .i64 b] 33)) := (Below.refl _ _).alloc (Nat.le_refl _) _
      have oW := Own.new wr 33 #[.int .i64 a, .int .i64 b]
      cases hV : vld a b
      · go_wp2_with (go_at_call 46; refine (valid_any _ _ _).mono ?_; rw [hV]; rintro e w2 ⟨rfl, hb2⟩)
        have B2 := bW.trans (hb2.mono bW.size)
        go_roundw
        case rel => exact ⟨k + 1, by omega, by go_num, by rw [hS.out, hV, if_neg (by decide), List.append_nil]; exact own_below HO.out B2, hbr.trans (B2.mono hbz)⟩
        case measure => simp [intOf]; omega
      · go_wp2_with (first
          | (go_at_call 46; refine (valid_any _ _ _).mono ?_; rw [hV]; rintro e w2 ⟨rfl, hb2⟩; have B2 := bW.trans (hb2.mono bW.size); have z2 := B2.size; have H2 := Lib.hid (own_below HO.out B2); have o2 := Own.below oW hb2 (by simp); have d0 : w2.cell? ⟨wr.heap.size, 0, none⟩ = some (.int .i64 a) := o2.cell 0; have d1 : w2.cell? ⟨wr.heap.size, 1, none⟩ = some (.int .i64 b) := o2.cell 1; clear hb2 o2)
          | (at_builtin; refine append_bds _ rfl _ _ rfl w.heap.size _ (bnds j (l.take k)) rfl (World.ownsRow.alloc H2.out _) ⟨w2.heap.size, 0, none⟩ [(a, j, 1), (b, j, -1)] 2 _ rfl rfl (World.news_of_block (heap_alloc_new _ _)) ?_ ?_ ?_; (focus (simp only [List.length_cons, List.length_nil]; omega)); (focus go_size); intro v1 w1 hown1 hb1))
        go_roundw
        case rel => exact ⟨k + 1, by omega, by go_num, by rw [hS.out, hV, if_pos rfl]; exact hown1, (hbr.trans (B2.mono hbz)).trans (((Below.refl _ _).alloc (by omega) _).trans hb1)⟩
        case measure => simp [intOf]; omega
    · have hT : l.take k = l := List.take_of_length_le (by omega)
      rw [hT] at HO
      have hle := bnds_len j l
      have hd : ¬ (k : Int) < l.length := by omega
      go_wp2
      go_ret
      exact ⟨_, rfl, RdB.of_own HO.out (by omega), hbr⟩
end Go.Proofs.Ytbpjgipldddcfaa
