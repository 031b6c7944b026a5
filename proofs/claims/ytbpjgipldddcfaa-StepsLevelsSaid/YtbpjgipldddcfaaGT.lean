import Derived.Test.YtbpjgipldddcfaaGSQ
import Derived.Deep.RegionHeld3
import Derived.WalkKit
import Derived.WalkSpells
import Derived.WalkLawsBesides
import Derived.Deep.QuietTactic
import Derived.BigQuiet
import Derived.Handy
import Derived.Lib.Hide
/-
  The visits of the sum of pieces: the literal that adds what begins and takes what ends, and changes the result. Conditions: the result has at most a million steps.
-/
namespace Go.Proofs.Ytbpjgipldddcfaa
set_option maxRecDepth 100000
set_option linter.unusedVariables false
set_option linter.unusedSimpArgs false
open Go.RowKit

theorem append_stpG {ops : Array Oper} {rest : List Oper} {o : Oper} {a : Act} {Q : Exit → Act → World → Prop} (W : World) (hgd : o.guard = none) (s x : Operand)
    (ho : o.op = .call { callee := .builtin .append, args := #[s, x], argTypes := #[22, 22] }) (base : Nat) (v : Value) (l : List (Int × Int)) (hs : a.eval s = v)
    (hown : W.ownsRow base 37 2 v l.length (flatP l)) (ad : Addr) (c d : Int) (hx : a.eval x = .slice (some ad) 1 1)
    (hnew : ∀ j u, [Value.int .i64 c, Value.int .i64 d][j]? = some u → W.cell? (ad.add j) = some u) (hl : l.length ≤ 1000000000) (hbase : base ≤ W.heap.size)
    (h : ∀ v' w', w'.ownsRow base 37 2 v' (l ++ [(c, d)]).length (flatP (l ++ [(c, d)])) → Below base W w' → W.grownBy w' v.ownBlock → wpList Try.prog ops Q rest (a.put o.dst v') w') :
    wpList Try.prog ops Q (o :: rest) a W := by
  obtain ⟨i0, hi, hz0, hz1, hz2⟩ := info_parts infoStp
  refine wpList_append_own _ hgd s x 22 ho base 37 i0 (.agg #[.int .i64 0, .int .i64 0]) 2 16 Try.underlying22 hi hz0 hz1 hz2 rfl (by decide) v l.length (flatP l) hs hown ad 1 1 [.int .i64 c, .int .i64 d] hx rfl
    hnew (fun u hu => by simp at hu; rcases hu with rfl | rfl <;> rfl) (by unfold maxLen; omega) (by omega) hbase ?_
  intro v' w' h1 h2 _
  refine h v' w' (by rw [flatP_snoc, List.length_append]; exact h1) ((Below.refl _ _).grown h2 hbase fun k hk => (hown.lt k hk).1) h2
set_option maxRecDepth 100000 in
set_option maxHeartbeats 3200000 in
theorem changed_grow (v : Value) (l : List (Int × Int)) (t n : Int) (w : World) (base : Nat) (hown : w.ownsRow base 37 2 v l.length (flatP l)) (hbase : base ≤ w.heap.size) (hlen : l.length ≤ 1000000) (hlast : ∀ p, l.getLast? = some p → p.1 ≠ t) :
    Calls Try.prog 53 #[v, .int .i64 t, .int .i64 n] w fun e w' => ∃ v', e = .returned v' ∧ w'.ownsRow base 37 2 v' (putL l t n).length (flatP (putL l t n)) ∧ Below base w w' ∧ w.grownBy w' v.ownBlock := by
  have HO := Lib.hid hown
  rcases List.eq_nil_or_concat l with rfl | ⟨m, q, rfl⟩
  · have hE := Lib.hid (putL_nil t n)
    rcases own_get hown with ⟨rfl, _⟩ | ⟨g, c, rfl, hbg, hg, _, _⟩
    all_goals
      clear hown
      go_enter Try.func53, Try.ntmps53
      go_wp2_with (at_builtin; refine append_stpG _ rfl _ _ rfl base _ [] rfl (World.ownsRow.alloc HO.out _) ⟨w.heap.size, 0, none⟩ t n rfl (cell_two_new _ _ _ _) ?_ ?_ ?_; (focus (first | (simp; done) | (simp; omega))); (focus go_size); intro v1 w1 hown1 hb1 hg1)
      go_ret
      exact ⟨_, rfl, by rw [hE.out]; exact hown1, ((Below.refl _ _).alloc hbase _).trans hb1, (World.grownBy_alloc w _ _).trans hg1⟩
  · rw [List.concat_eq_append] at *
    obtain ⟨x, y⟩ := q
    rcases own_get hown with ⟨_, h0⟩ | ⟨g, c, rfl, hbg, hg, hnc, hcell⟩
    · simp at h0
    · have hml : (m ++ [(x, y)]).length = m.length + 1 := by simp
      obtain ⟨k0, k1⟩ := flatP_get (m ++ [(x, y)]) m.length (x, y) (by simp)
      have d0 := hcell _ _ k0
      have d1 := hcell _ _ k1
      dsimp only at d0 d1
      have HO2 : Hid (w.ownsRow base 37 2 (.slice (some ⟨g, 0, none⟩) (m.length + 1) c) (m ++ [(x, y)]).length (flatP (m ++ [(x, y)]))) := Lib.hid (by
        have h := HO.out
        rwa [show Value.slice (some ⟨g, 0, none⟩) (m ++ [(x, y)]).length c = Value.slice (some ⟨g, 0, none⟩) (m.length + 1) c by rw [hml]] at h)
      rw [hml] at hnc hlen ⊢
      have i1 : IntKind.i64.wrap ((m.length : Int) + 1 - 1) = m.length := by rw [show (m.length : Int) + 1 - 1 = m.length by omega]; exact IntWalk.i64_in _ (by omega)
      have i7 : IntKind.i64.wrap (m.length : Int) = m.length := IntWalk.i64_in _ (by omega)
      have j2 : (0 : Int) ≤ (m.length : Int) := by omega
      have j3 : (m.length : Int) < (m.length : Int) + 1 := by omega
      have j4 : decide ((m.length : Int) + 1 > 0) = true := decide_eq_true (by omega)
      have j5 : decide ((m.length : Int) ≥ 0) = true := decide_eq_true (by omega)
      have hxt : (x == t) = false := by simpa using hlast (x, y) (by simp)
      clear hown hcell k0 k1 HO
      by_cases hyn : y = n
      · have hE := Lib.hid (putL_same (m := m) (x := x) t hyn)
        have hb : (y == n) = true := by simpa using hyn
        subst hyn
        go_enter Try.func53, Try.ntmps53
        go_wp2
        go_ret
        exact ⟨_, rfl, by rw [hE.out]; exact HO2.out, Below.refl _ _, ⟨rfl, rfl, rfl, Nat.le_refl _, fun _ _ _ => rfl⟩⟩
      · have hE := Lib.hid (putL_new (m := m) (x := x) t hyn)
        have hb : (y == n) = false := by simpa using hyn
        have HO := HO2
        go_enter Try.func53, Try.ntmps53
        go_wp2_with (at_builtin; refine append_stpG _ rfl _ _ rfl base _ (m ++ [(x, y)]) rfl (World.ownsRow.alloc HO.out _) ⟨w.heap.size, 0, none⟩ t n rfl (cell_two_new _ _ _ _) ?_ ?_ ?_; (focus (first | (simp; done) | (simp; omega))); (focus go_size); intro v1 w1 hown1 hb1 hg1)
        go_ret
        exact ⟨_, rfl, by rw [hE.out]; exact hown1, ((Below.refl _ _).alloc hbase _).trans hb1, (World.grownBy_alloc w _ _).trans hg1⟩
set_option maxRecDepth 100000 in
set_option maxHeartbeats 3200000 in
/-- The step at the first instant is replaced. -/
theorem changed_zeroG (v : Value) (y n : Int) (w : World) (base : Nat) (hown : w.ownsRow base 37 2 v [((0 : Int), y)].length (flatP [(0, y)])) (hbase : base ≤ w.heap.size) :
    Calls Try.prog 53 #[v, .int .i64 0, .int .i64 n] w fun e w' => ∃ v', e = .returned v' ∧ w'.ownsRow base 37 2 v' [((0 : Int), n)].length (flatP [(0, n)]) ∧ Below base w w' ∧ w.grownBy w' v.ownBlock := by
  rcases own_get hown with ⟨_, h0⟩ | ⟨g, c, rfl, hbg, hg, hnc, hcell⟩
  · simp at h0
  · have d0 : w.cell? ⟨g, 0, none⟩ = some (.int .i64 0) := hcell 0 _ rfl
    have d1 : w.cell? ⟨g, 1, none⟩ = some (.int .i64 y) := hcell 1 _ rfl
    have HC : Hid (w.ownsRow base 37 2 (.slice (some ⟨g, 0, none⟩) 0 c) ([] : List (Int × Int)).length (flatP [])) := Lib.hid (own_cut hown 0 (by omega))
    clear hown hcell
    have hnc1 : 1 ≤ c := hnc
    show Calls Try.prog 53 #[.slice (some ⟨g, 0, none⟩) 1 c, .int .i64 0, .int .i64 n] w _
    clear hnc
    go_enter Try.func53, Try.ntmps53
    go_wp2_with (at_builtin; refine append_stpG _ rfl _ _ rfl base _ [] rfl (World.ownsRow.alloc HC.out _) ⟨w.heap.size, 0, none⟩ 0 n rfl (cell_two_new _ _ _ _) ?_ ?_ ?_; (focus (first | (simp; done) | (simp; omega))); (focus go_size); intro v1 w1 hown1 hb1 hg1)
    go_ret
    exact ⟨_, rfl, hown1, ((Below.refl _ _).alloc hbase _).trans hb1, (World.grownBy_alloc w _ _).trans hg1⟩
/-- What the boxes of the sum hold: hv the value, hr the result. -/
structure BoxC (w : World) (hr hv h0 : Nat) (n : Int) (v : Value) (l : List (Int × Int)) : Prop where
  res : Own w hr 22 #[v]
  val : Own w hv 3 #[.int .i64 n]
  row : w.ownsRow h0 37 2 v l.length (flatP l)
theorem BoxC.below {w w' : World} {hr hv h0 : Nat} {n : Int} {v : Value} {l : List (Int × Int)} (h : BoxC w hr hv h0 n v l) (hb : Below w.heap.size w w') : BoxC w' hr hv h0 n v l :=
  ⟨h.res.below hb h.res.lt, h.val.below hb h.val.lt, own_below h.row hb⟩
theorem own_apart {w : World} {base e size n : Nat} {v : Value} {xs : List Value} (h : w.ownsRow base e size v n xs) {g : Nat} {t : TypeId} {cs : Array Value} (ho : Own w g t cs) (hne : e ≠ t) : v.ownBlock = none ∨ v.ownBlock ≠ some g := by
  rcases h.2 with ⟨rfl, _⟩ | ⟨g', cap, cur, rfl, _, hh, _⟩
  · exact .inl rfl
  · right
    intro e2
    have e3 : g' = g := by simpa [Value.ownBlock] using e2
    subst e3
    unfold Own at ho
    rw [ho] at hh
    injection hh with hh
    injection hh with _ hh
    exact hne hh.symm
theorem Own.grown {w w' : World} {g : Nat} {t : TypeId} {cs : Array Value} (h : Own w g t cs) {row : Option Nat} (hg : w.grownBy w' row) (hne : row = none ∨ row ≠ some g) : Own w' g t cs := by
  have hlt := h.lt
  unfold Own at h ⊢
  rw [hg.block g hlt (by rintro rfl; rcases hne with e | e <;> first | (cases e; done) | exact e rfl)]
  exact h
theorem own_setApart {w : World} {base e size n : Nat} {v : Value} {xs : List Value} (h : w.ownsRow base e size v n xs) {p : Addr} (hp : v.ownBlock = none ∨ v.ownBlock ≠ some p.block) (u : Value) : (w.setCell p u).ownsRow base e size v n xs := by
  refine ⟨h.1, ?_⟩
  rcases h.2 with h0 | ⟨g, cap, cur, rfl, hb, hh, hr⟩
  · exact .inl h0
  · refine .inr ⟨g, cap, cur, rfl, hb, (Below.heap_setCell w p u g ?_).trans hh, hr⟩
    rcases hp with hp | hp
    · cases hp
    · intro e; exact hp (by rw [e]; rfl)
/-- What a visit leaves. -/
def RetV (w : World) (hr hv h0 : Nat) (n : Int) (l : List (Int × Int)) (e : Ending) (w' : World) : Prop := e = .returned (.tuple #[]) ∧ ∃ v', BoxC w' hr hv h0 n v' l ∧ Below h0 w w'
def ChOk (h0 : Nat) (l : List (Int × Int)) (t n : Int) (l' : List (Int × Int)) : Prop := ∀ (v : Value) (W : World), W.ownsRow h0 37 2 v l.length (flatP l) → h0 ≤ W.heap.size → Calls Try.prog 53 #[v, .int .i64 t, .int .i64 n] W fun e w' => ∃ v', e = .returned v' ∧ w'.ownsRow h0 37 2 v' l'.length (flatP l') ∧ Below h0 W w' ∧ W.grownBy w' v.ownBlock
set_option maxRecDepth 100000 in
set_option maxHeartbeats 3200000 in
theorem visitC_any (t : Int) (va vb v : Value) (X Y : List Pc) (l l' : List (Int × Int)) (hr hv h0 : Nat) (n : Int) (w : World) (L L' : Nat) (hB : BoxC w hr hv h0 n v l) (hX : RdB w L h0 va X) (hY : RdB w L' h0 vb Y)
    (h1 : h0 ≤ hr) (h2 : h0 ≤ hv) (hne : hr ≠ hv) (hch : ChOk h0 l t (IntKind.i64.wrap (n + IntKind.i64.wrap (totW X - totW Y))) l') :
    Calls Try.prog 51 #[.int .i64 t, va, vb, .pointer (some ⟨hv, 0, none⟩), .pointer (some ⟨hr, 0, none⟩)] w (RetV w hr hv h0 (IntKind.i64.wrap (n + IntKind.i64.wrap (totW X - totW Y))) l') := by
  have lr := hB.res.lt
  have lv := hB.val.lt
  have HX := Lib.hid (fun (w' : World) (hb : Below w.heap.size w w') => total_any va X w' L ((hX.more (by omega) (Nat.le_refl _)).step hb (Nat.le_refl _)))
  have HY := Lib.hid (fun (w' : World) (hb : Below w.heap.size w w') => total_any vb Y w' L' ((hY.more (by omega) (Nat.le_refl _)).step hb (Nat.le_refl _)))
  have HB := Lib.hid hB
  have HC := Lib.hid hch
  obtain ⟨A, c, rfl, _, _⟩ := hX
  obtain ⟨A2, c2, rfl, _, _⟩ := hY
  obtain ⟨A3, n3, c3, rfl⟩ := own_slice hB.row
  generalize totW X = tx at *
  generalize totW Y = ty at *
  have e0 : w.cell? ⟨hv, 0, none⟩ = some (.int .i64 n) := hB.val.cell 0
  have e1 : w.cell? ⟨hr, 0, none⟩ = some (.slice A3 n3 c3) := hB.res.cell 0
  clear hB hch
  have e0d : w.drew.cell? ⟨hv, 0, none⟩ = some (.int .i64 n) := e0
  have f0 : w.frozen? ⟨hv, 0, none⟩ = false := HB.out.val.free 0
  have BX : Below w.heap.size w w.drew := Below.drew (Below.refl _ _)
  have fin : ∀ w3 : World, Below w.heap.size w w3 → BoxC (w3.setCell ⟨hv, 0, none⟩ (.int .i64 (IntKind.i64.wrap (n + IntKind.i64.wrap (tx - ty))))) hr hv h0 (IntKind.i64.wrap (n + IntKind.i64.wrap (tx - ty))) (.slice A3 n3 c3) l ∧ Below h0 w (w3.setCell ⟨hv, 0, none⟩ (.int .i64 (IntKind.i64.wrap (n + IntKind.i64.wrap (tx - ty))))) := fun w3 b3 =>
    have B := HB.out.below b3
    ⟨⟨B.res.far (by show hr ≠ hv; exact hne) _, B.val.store 0 _, own_setApart B.row (own_apart B.row B.val (by decide)) _⟩, (b3.mono (by omega)).setCell (by show h0 ≤ hv; omega) _⟩
  go_enter Try.func51, Try.ntmps51
  go_wp2
  refine wp_region_held_drew (S := fun _ => True) (by kernel_rfl) trivial (fun hHeld => ?_)
  (refine takeD (i := 1) (d := 9) (oi := _) (v := ?_) rfl rfl (by kernel_rfl) (by kernel_rfl) (by kernel_rfl) (fun _ _ _ h => h) (Or.inl ⟨by rfl, ?_⟩) (by assumption) ?_; rotate_left; (focus ((intro w hSw; (try dsimp only at hSw); go_simp) <;> (with_reducible rfl))); (try simp only [Act.put, List.setIfInBounds_toArray, List.set_cons_zero, List.set_cons_succ]))
  (refine takeD (i := 3) (d := 11) (oi := _) (v := ?_) rfl rfl (by kernel_rfl) (by kernel_rfl) (by kernel_rfl) (fun _ _ _ h => h) (Or.inl ⟨by rfl, ?_⟩) (by assumption) ?_; rotate_left; (focus ((intro w hSw; (try dsimp only at hSw); go_simp) <;> (with_reducible rfl))); (try simp only [Act.put, List.setIfInBounds_toArray, List.set_cons_zero, List.set_cons_succ]))
  refine wpAnyH_ready (rs := [0, 2]) (by kernel_rfl) (by simp) ?_
  refine AllReadyH.cons (o := _) rfl (fun K hK => ?_) (AllReadyH.cons (o := _) rfl (fun K hK => ?_) AllReadyH.nil)
  · skip
    go_simp
    skip
    refine hK.out _ _ (by (try dsimp only); all_goals trivial) (fun hHeld => ?_)
    clear hK
    (try simp only [Act.put, List.setIfInBounds_toArray, List.set_cons_zero, List.set_cons_succ])
    refine wpAnyH_ready (rs := [2]) (by kernel_rfl) (by simp) ?_
    refine AllReadyH.cons (o := _) rfl (fun K hK => ?_) AllReadyH.nil
    go_simp
    (go_at_call 52; refine (HX.out _ BX).mono ?_; rintro e w2 ⟨rfl, hb2⟩; have b2 : Below w.heap.size w w2 := BX.trans (hb2.mono (by have := (BX).size; omega)); have c2 : w2.cell? ⟨hv, 0, none⟩ = some (.int .i64 n) := (b2.cell (p := ⟨hv, 0, none⟩) lv).trans e0; go_wp2_with fail)
    refine hK.out _ _ (by (try dsimp only); all_goals trivial) (fun hHeld => ?_)
    clear hK
    (try simp only [Act.put, List.setIfInBounds_toArray, List.set_cons_zero, List.set_cons_succ])
    refine wpAnyH_ready (rs := [4]) (by kernel_rfl) (by simp) ?_
    refine AllReadyH.cons (o := _) rfl (fun K hK => ?_) AllReadyH.nil
    go_simp
    (go_at_call 52; refine (HY.out _ b2).mono ?_; rintro e w3 ⟨rfl, hb3⟩; have b3 : Below w.heap.size w w3 := b2.trans (hb3.mono b2.size); have c3 : w3.cell? ⟨hv, 0, none⟩ = some (.int .i64 n) := (b3.cell (p := ⟨hv, 0, none⟩) lv).trans e0; have f3 : w3.frozen? ⟨hv, 0, none⟩ = false := (b3.frozen (p := ⟨hv, 0, none⟩) lv).trans f0; go_wp2_with fail)
    refine hK.out _ _ (by (try dsimp only); all_goals trivial) (fun hHeld => ?_)
    clear hK
    (try simp only [Act.put, List.setIfInBounds_toArray, List.set_cons_zero, List.set_cons_succ])
    refine wpAnyH_ready (rs := [5]) (by kernel_rfl) (by simp) ?_
    refine AllReadyH.cons (o := _) rfl (fun K hK => ?_) AllReadyH.nil
    go_simp
    skip
    refine hK.out _ _ (by (try dsimp only); all_goals trivial) (fun hHeld => ?_)
    clear hK
    (try simp only [Act.put, List.setIfInBounds_toArray, List.set_cons_zero, List.set_cons_succ])
    refine wpAnyH_ready (rs := [6]) (by kernel_rfl) (by simp) ?_
    refine AllReadyH.cons (o := _) rfl (fun K hK => ?_) AllReadyH.nil
    go_simp
    skip
    refine hK.out _ _ (by (try dsimp only); all_goals trivial) (fun hHeld => ?_)
    clear hK
    (try simp only [Act.put, List.setIfInBounds_toArray, List.set_cons_zero, List.set_cons_succ])
    refine wpAnyH_ready (rs := [7]) (by kernel_rfl) (by simp) ?_
    refine AllReadyH.cons (o := _) rfl (fun K hK => ?_) AllReadyH.nil
    go_simp
    skip
    refine hK.out _ _ (by (try dsimp only); all_goals trivial) (fun hHeld => ?_)
    clear hK
    (try simp only [Act.put, List.setIfInBounds_toArray, List.set_cons_zero, List.set_cons_succ])
    refine wpAnyH_done (by kernel_rfl) ?_ _
    obtain ⟨R, RO⟩ := fin w3 b3
    have r1 := R.res.cell 0
    have r2 := R.res.free 0
    have r3 := R.val.cell 0
    have RD := R.row
    generalize w3.setCell ⟨hv, 0, none⟩ (.int .i64 (IntKind.i64.wrap (n + IntKind.i64.wrap (tx - ty)))) = W4 at *
    have HR := Lib.hid R
    have z4 := RO.size
    have zr := R.res.lt
    have zv := R.val.lt
    clear R e0 e0d f0 BX c2 c3 f3 b2 b3
    generalize IntKind.i64.wrap (n + IntKind.i64.wrap (tx - ty)) = n2 at *
    go_wp2_with (go_at_call 53; refine (HC.out _ _ RD (by omega)).mono ?_; rintro e w5 ⟨v5, rfl, hown5, hb5, hg5⟩; have q1 := HR.out.res.grown hg5 (own_apart HR.out.row HR.out.res (by decide)); have q2 := HR.out.val.grown hg5 (own_apart HR.out.row HR.out.val (by decide)); have a5 := own_apart hown5 q1 (by decide); have k1 := q1.cell 0; have k2 := q1.free 0; obtain ⟨A5, n5, c5, rfl⟩ := own_slice hown5)
    go_returns
    exact ⟨rfl, _, ⟨q1.store 0 _, q2.far (by show hv ≠ hr; omega) _, own_setApart hown5 a5 _⟩, (RO.trans hb5).setCell (by show h0 ≤ hr; omega) _⟩
  · skip
    go_simp
    (go_at_call 52; refine (HX.out _ BX).mono ?_; rintro e w2 ⟨rfl, hb2⟩; have b2 : Below w.heap.size w w2 := BX.trans (hb2.mono (by have := (BX).size; omega)); have c2 : w2.cell? ⟨hv, 0, none⟩ = some (.int .i64 n) := (b2.cell (p := ⟨hv, 0, none⟩) lv).trans e0; go_wp2_with fail)
    refine hK.out _ _ (by (try dsimp only); all_goals trivial) (fun hHeld => ?_)
    clear hK
    (try simp only [Act.put, List.setIfInBounds_toArray, List.set_cons_zero, List.set_cons_succ])
    refine wpAnyH_ready (rs := [0, 4]) (by kernel_rfl) (by simp) ?_
    refine AllReadyH.cons (o := _) rfl (fun K hK => ?_) (AllReadyH.cons (o := _) rfl (fun K hK => ?_) AllReadyH.nil)
    · skip
      go_simp
      skip
      refine hK.out _ _ (by (try dsimp only); all_goals trivial) (fun hHeld => ?_)
      clear hK
      (try simp only [Act.put, List.setIfInBounds_toArray, List.set_cons_zero, List.set_cons_succ])
      refine wpAnyH_ready (rs := [4]) (by kernel_rfl) (by simp) ?_
      refine AllReadyH.cons (o := _) rfl (fun K hK => ?_) AllReadyH.nil
      go_simp
      (go_at_call 52; refine (HY.out _ b2).mono ?_; rintro e w3 ⟨rfl, hb3⟩; have b3 : Below w.heap.size w w3 := b2.trans (hb3.mono b2.size); have c3 : w3.cell? ⟨hv, 0, none⟩ = some (.int .i64 n) := (b3.cell (p := ⟨hv, 0, none⟩) lv).trans e0; have f3 : w3.frozen? ⟨hv, 0, none⟩ = false := (b3.frozen (p := ⟨hv, 0, none⟩) lv).trans f0; go_wp2_with fail)
      refine hK.out _ _ (by (try dsimp only); all_goals trivial) (fun hHeld => ?_)
      clear hK
      (try simp only [Act.put, List.setIfInBounds_toArray, List.set_cons_zero, List.set_cons_succ])
      refine wpAnyH_ready (rs := [5]) (by kernel_rfl) (by simp) ?_
      refine AllReadyH.cons (o := _) rfl (fun K hK => ?_) AllReadyH.nil
      go_simp
      skip
      refine hK.out _ _ (by (try dsimp only); all_goals trivial) (fun hHeld => ?_)
      clear hK
      (try simp only [Act.put, List.setIfInBounds_toArray, List.set_cons_zero, List.set_cons_succ])
      refine wpAnyH_ready (rs := [6]) (by kernel_rfl) (by simp) ?_
      refine AllReadyH.cons (o := _) rfl (fun K hK => ?_) AllReadyH.nil
      go_simp
      skip
      refine hK.out _ _ (by (try dsimp only); all_goals trivial) (fun hHeld => ?_)
      clear hK
      (try simp only [Act.put, List.setIfInBounds_toArray, List.set_cons_zero, List.set_cons_succ])
      refine wpAnyH_ready (rs := [7]) (by kernel_rfl) (by simp) ?_
      refine AllReadyH.cons (o := _) rfl (fun K hK => ?_) AllReadyH.nil
      go_simp
      skip
      refine hK.out _ _ (by (try dsimp only); all_goals trivial) (fun hHeld => ?_)
      clear hK
      (try simp only [Act.put, List.setIfInBounds_toArray, List.set_cons_zero, List.set_cons_succ])
      refine wpAnyH_done (by kernel_rfl) ?_ _
      obtain ⟨R, RO⟩ := fin w3 b3
      have r1 := R.res.cell 0
      have r2 := R.res.free 0
      have r3 := R.val.cell 0
      have RD := R.row
      generalize w3.setCell ⟨hv, 0, none⟩ (.int .i64 (IntKind.i64.wrap (n + IntKind.i64.wrap (tx - ty)))) = W4 at *
      have HR := Lib.hid R
      have z4 := RO.size
      have zr := R.res.lt
      have zv := R.val.lt
      clear R e0 e0d f0 BX c2 c3 f3 b2 b3
      generalize IntKind.i64.wrap (n + IntKind.i64.wrap (tx - ty)) = n2 at *
      go_wp2_with (go_at_call 53; refine (HC.out _ _ RD (by omega)).mono ?_; rintro e w5 ⟨v5, rfl, hown5, hb5, hg5⟩; have q1 := HR.out.res.grown hg5 (own_apart HR.out.row HR.out.res (by decide)); have q2 := HR.out.val.grown hg5 (own_apart HR.out.row HR.out.val (by decide)); have a5 := own_apart hown5 q1 (by decide); have k1 := q1.cell 0; have k2 := q1.free 0; obtain ⟨A5, n5, c5, rfl⟩ := own_slice hown5)
      go_returns
      exact ⟨rfl, _, ⟨q1.store 0 _, q2.far (by show hv ≠ hr; omega) _, own_setApart hown5 a5 _⟩, (RO.trans hb5).setCell (by show h0 ≤ hr; omega) _⟩
    · skip
      go_simp
      (go_at_call 52; refine (HY.out _ b2).mono ?_; rintro e w3 ⟨rfl, hb3⟩; have b3 : Below w.heap.size w w3 := b2.trans (hb3.mono b2.size); have c3 : w3.cell? ⟨hv, 0, none⟩ = some (.int .i64 n) := (b3.cell (p := ⟨hv, 0, none⟩) lv).trans e0; have f3 : w3.frozen? ⟨hv, 0, none⟩ = false := (b3.frozen (p := ⟨hv, 0, none⟩) lv).trans f0; go_wp2_with fail)
      refine hK.out _ _ (by (try dsimp only); all_goals trivial) (fun hHeld => ?_)
      clear hK
      (try simp only [Act.put, List.setIfInBounds_toArray, List.set_cons_zero, List.set_cons_succ])
      (refine takeD (i := 5) (d := 13) (oi := _) (v := ?_) rfl rfl (by kernel_rfl) (by kernel_rfl) (by kernel_rfl) (fun _ _ _ h => h) (Or.inl ⟨by rfl, ?_⟩) (by assumption) ?_; rotate_left; (focus ((intro w hSw; (try dsimp only at hSw); go_simp) <;> (with_reducible rfl))); (try simp only [Act.put, List.setIfInBounds_toArray, List.set_cons_zero, List.set_cons_succ]))
      refine wpAnyH_ready (rs := [0]) (by kernel_rfl) (by simp) ?_
      refine AllReadyH.cons (o := _) rfl (fun K hK => ?_) AllReadyH.nil
      go_simp
      skip
      refine hK.out _ _ (by (try dsimp only); all_goals trivial) (fun hHeld => ?_)
      clear hK
      (try simp only [Act.put, List.setIfInBounds_toArray, List.set_cons_zero, List.set_cons_succ])
      refine wpAnyH_ready (rs := [6]) (by kernel_rfl) (by simp) ?_
      refine AllReadyH.cons (o := _) rfl (fun K hK => ?_) AllReadyH.nil
      go_simp
      skip
      refine hK.out _ _ (by (try dsimp only); all_goals trivial) (fun hHeld => ?_)
      clear hK
      (try simp only [Act.put, List.setIfInBounds_toArray, List.set_cons_zero, List.set_cons_succ])
      refine wpAnyH_ready (rs := [7]) (by kernel_rfl) (by simp) ?_
      refine AllReadyH.cons (o := _) rfl (fun K hK => ?_) AllReadyH.nil
      go_simp
      skip
      refine hK.out _ _ (by (try dsimp only); all_goals trivial) (fun hHeld => ?_)
      clear hK
      (try simp only [Act.put, List.setIfInBounds_toArray, List.set_cons_zero, List.set_cons_succ])
      refine wpAnyH_done (by kernel_rfl) ?_ _
      obtain ⟨R, RO⟩ := fin w3 b3
      have r1 := R.res.cell 0
      have r2 := R.res.free 0
      have r3 := R.val.cell 0
      have RD := R.row
      generalize w3.setCell ⟨hv, 0, none⟩ (.int .i64 (IntKind.i64.wrap (n + IntKind.i64.wrap (tx - ty)))) = W4 at *
      have HR := Lib.hid R
      have z4 := RO.size
      have zr := R.res.lt
      have zv := R.val.lt
      clear R e0 e0d f0 BX c2 c3 f3 b2 b3
      generalize IntKind.i64.wrap (n + IntKind.i64.wrap (tx - ty)) = n2 at *
      go_wp2_with (go_at_call 53; refine (HC.out _ _ RD (by omega)).mono ?_; rintro e w5 ⟨v5, rfl, hown5, hb5, hg5⟩; have q1 := HR.out.res.grown hg5 (own_apart HR.out.row HR.out.res (by decide)); have q2 := HR.out.val.grown hg5 (own_apart HR.out.row HR.out.val (by decide)); have a5 := own_apart hown5 q1 (by decide); have k1 := q1.cell 0; have k2 := q1.free 0; obtain ⟨A5, n5, c5, rfl⟩ := own_slice hown5)
      go_returns
      exact ⟨rfl, _, ⟨q1.store 0 _, q2.far (by show hv ≠ hr; omega) _, own_setApart hown5 a5 _⟩, (RO.trans hb5).setCell (by show h0 ≤ hr; omega) _⟩
end Go.Proofs.Ytbpjgipldddcfaa
