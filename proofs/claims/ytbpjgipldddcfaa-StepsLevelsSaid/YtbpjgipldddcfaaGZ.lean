import Derived.Test.YtbpjgipldddcfaaGY
import Derived.WalkKit
import Derived.WalkSpells
import Derived.WalkLawsBesides
import Derived.Deep.QuietTactic
import Derived.BigQuiet
import Derived.Handy
import Derived.Lib.Hide
/-
  Contract of the program's layers. Conditions: at most 1000 steps.
-/
namespace Go.Proofs.Ytbpjgipldddcfaa
set_option maxRecDepth 100000
set_option linter.unusedVariables false
set_option linter.unusedSimpArgs false
open Go.RowKit

theorem step_append_pc {ops : Array Oper} {o : Oper} {a : Act} {K : Act → World → Prop} {Q : Exit → Act → World → Prop} {E : Prop} (W : World) (hgd : o.guard = none) (s x : Operand)
    (ho : o.op = .call { callee := .builtin .append, args := #[s, x], argTypes := #[41, 41] }) (base : Nat) (v : Value) (l : List Pc) (hs : a.eval s = v)
    (hown : W.ownsRow base 44 3 v l.length (flatB l)) (ad : Addr) (p : Pc) (hx : a.eval x = .slice (some ad) 1 1)
    (hnew : ∀ j u, (encB p)[j]? = some u → W.cell? (ad.add j) = some u) (hl : l.length ≤ 1000000) (hbase : base ≤ W.heap.size) (H : Nat) (hH : W.heap.size = H)
    (h : ∀ g cap w', w'.ownsRow base 44 3 (.slice (some ⟨g, 0, none⟩) (l.length + 1) cap) (l ++ [p]).length (flatB (l ++ [p])) → Below base W w' → W.grownBy w' v.ownBlock → (v.ownBlock = some g ∨ g = H) → g < w'.heap.size → K (a.put o.dst (.slice (some ⟨g, 0, none⟩) (l.length + 1) cap)) w') :
    if Region.wanted o (yielded ops a.tmps) = true then Oper.wp Try.prog o a W K Q else E := by
  obtain ⟨i0, hi, hz0, hz1, hz2⟩ := info_parts infoPc
  refine step_append_lies W hgd s x 41 ho base 44 i0 (.agg #[.int .i64 0, .int .i64 0, .int .i64 0]) 3 24 Try.underlying41 hi hz0 hz1 hz2 rfl (by decide) v l.length (flatB l) hs hown ad 1 1 (encB p) hx rfl
    hnew (fun u hu => by simp [encB] at hu; rcases hu with rfl | rfl | rfl <;> rfl) (by decide) (by unfold maxLen; omega) (by omega) hbase H hH ?_
  intro g cap w' h1 h2 h3 h4
  have e : flatB (l ++ [p]) = flatB l ++ encB p := by rw [flatB_append]; simp [flatB]
  refine h g cap w' (by rw [e, List.length_append]; exact h1) ((Below.refl _ _).grown h2 hbase fun k hk => (hown.lt k hk).1) h2 h3 h4
theorem grown_drew {w w3 : World} {o : Obj} {row : Option Nat} (h : (w.alloc o).drew.grownBy w3 row) : w.grownBy w3 row :=
  (World.grownBy_alloc w o row).trans ⟨h.os, h.tape, h.output, h.size, h.block⟩
theorem set_last (O : List Pc) (f t N v : Int) : (flatB (O ++ [((f, t, N) : Pc)])).set (O.length * 3 + 2) (.int .i64 v) = flatB (O ++ [(f, t, v)]) := by
  rw [flatB_append, flatB_append, List.set_append_right _ _ (by rw [flatB_length]; omega), flatB_length, show O.length * 3 + 2 - O.length * 3 = 2 by omega]
  rfl
theorem lvRun_len (l : List (Int × Int)) : (lvRun l).1.length ≤ 1048576 := by
  have h : ∀ (l : List (Int × Int)) (S : List Int × List (Int × Int)), S.1.length ≤ 1048576 → (l.foldl lvStep S).1.length ≤ 1048576 := by
    intro l
    induction l with
    | nil => intro S h; exact h
    | cons p l ih =>
      intro S h
      refine ih _ ?_
      unfold lvStep
      have hc : cl p.2 ≤ 1048576 := by unfold cl; omega
      split
      · show (S.1.take _).length ≤ _
        rw [List.length_take]; omega
      · show (S.1 ++ List.replicate _ _).length ≤ _
        rw [List.length_append, List.length_replicate]; omega
  exact h l ([], []) (by simp)
def RetLay (w : World) (l : List (Int × Int)) (e : Ending) (w' : World) : Prop := ∃ v, e = .returned v ∧ ∃ M : List Pc, w'.ownsRow w.heap.size 44 3 v M.length (flatB M) ∧ M.length ≤ l.length ∧ (∀ c ∈ M, 0 < c.2.2 ∧ c.2.2 ≤ 1048576) ∧ (expC M).Perm (lvAll l) ∧ Below w.heap.size w w'
/-- What holds ahead of a step, and within the closing of levels. -/
structure LayInv (E : List Int) (out : List (Int × Int)) (x : Int) (O C : List Pc) (L : Nat) : Prop where
  op : opOk O
  top : ∀ c ∈ O ++ C, 0 < c.2.2 ∧ c.2.2 ≤ 1048576
  hO : expS O = E.take L
  hL : L ≤ E.length
  hC : (expC C).Perm (out ++ (E.drop L).map fun f => (f, x))
theorem layInv0 {l : List (Int × Int)} : LayInv (lvRun (l.take 0)).1 (lvRun (l.take 0)).2 0 [] [] (lvRun (l.take 0)).1.length := by
  refine ⟨fun c h => (by cases h), fun c h => (by cases h), rfl, Nat.le_refl _, ?_⟩
  exact List.Perm.refl _
theorem cl_eq (y : Int) : min (max y 0) 1048576 = ((cl y : Nat) : Int) := by unfold cl; omega
theorem cl_le (y : Int) : cl y ≤ 1048576 := by unfold cl; omega
theorem LayInv.here {E : List Int} {out : List (Int × Int)} {x : Int} {O C : List Pc} (h : LayInv E out x O C E.length) (x' : Int) : LayInv E out x' O C E.length := by
  refine ⟨h.op, h.top, h.hO, h.hL, ?_⟩
  have := h.hC
  rw [List.drop_length] at this ⊢
  exact this
theorem LayInv.last {E : List Int} {out : List (Int × Int)} {x : Int} {O C : List Pc} {L : Nat} (h : LayInv E out x O C L) (hL : 0 < L) : ∃ O' f N, O = O' ++ [(f, 1099511627776, N)] ∧ 0 < N ∧ N ≤ 1048576 := by
  rcases List.eq_nil_or_concat O with rfl | ⟨O', q, rfl⟩
  · have := congrArg List.length h.hO
    rw [List.length_take] at this
    have h2 := h.hL
    simp [expS] at this
    omega
  · rw [List.concat_eq_append] at *
    obtain ⟨f, t, N⟩ := q
    have h1 := h.op (f, t, N) (by simp)
    have h2 := h.top (f, t, N) (by simp)
    have ht : t = 1099511627776 := h1.2
    subst ht
    exact ⟨O', f, N, rfl, h2.1, h2.2⟩
theorem LayInv.pop {E : List Int} {out : List (Int × Int)} {x : Int} {O' C : List Pc} {f N : Int} {L : Nat} (h : LayInv E out x (O' ++ [(f, 1099511627776, N)]) C L) (hN : 0 < N) (hle : N ≤ L) : LayInv E out x O' (C ++ [(f, x, N)]) (L - N.toNat) := by
  have hO := h.hO
  rw [expS_append, expS_one] at hO
  obtain ⟨a, b⟩ := lay_step (e := N.toNat) hO h.hL h.hC (Nat.le_refl _)
  rw [Nat.sub_self, List.replicate_zero, List.append_nil] at a
  refine ⟨fun c hc => h.op c (by simp [hc]), fun c hc => ?_, a, by have := h.hL; omega, by rw [expC_append, expC_one]; exact b⟩
  rcases List.mem_append.1 hc with hc | hc
  · exact h.top c (by simp [hc])
  · rcases List.mem_append.1 hc with hc | hc
    · exact h.top c (by simp [hc])
    · simp at hc
      subst hc
      exact h.top (f, 1099511627776, N) (by simp)
theorem LayInv.part {E : List Int} {out : List (Int × Int)} {x : Int} {O' C : List Pc} {f N e : Int} {L : Nat} (h : LayInv E out x (O' ++ [(f, 1099511627776, N)]) C L) (he : 0 < e) (hN : e < N) (_hle : e ≤ L) : LayInv E out x (O' ++ [(f, 1099511627776, N - e)]) (C ++ [(f, x, e)]) (L - e.toNat) := by
  have hO := h.hO
  rw [expS_append, expS_one] at hO
  obtain ⟨a, b⟩ := lay_step (e := e.toNat) hO h.hL h.hC (show e.toNat ≤ N.toNat by omega)
  have hb := h.top (f, 1099511627776, N) (by simp)
  dsimp only at hb
  refine ⟨fun c hc => ?_, fun c hc => ?_, by rw [expS_append, expS_one, ← a]; congr 2; show (N - e).toNat = N.toNat - e.toNat; omega, by have := h.hL; omega, by rw [expC_append, expC_one]; exact b⟩
  · rcases List.mem_append.1 hc with hc | hc
    · exact h.op c (by simp [hc])
    · simp at hc
      subst hc
      exact ⟨by show 0 < N - e; omega, rfl⟩
  · rcases List.mem_append.1 hc with hc | hc
    · rcases List.mem_append.1 hc with hc | hc
      · exact h.top c (by simp [hc])
      · simp at hc
        subst hc
        exact ⟨by show 0 < N - e; omega, by show N - e ≤ _; omega⟩
    · rcases List.mem_append.1 hc with hc | hc
      · exact h.top c (by simp [hc])
      · simp at hc
        subst hc
        exact ⟨he, by show e ≤ _; omega⟩
theorem LayInv.push {E : List Int} {out : List (Int × Int)} {x : Int} {O C : List Pc} {n : Nat} (h : LayInv E out x O C E.length) (hn : E.length < n) (h20 : n ≤ 1048576) : LayInv (E ++ List.replicate (n - E.length) x) out 0 (O ++ [(x, 1099511627776, (n : Int) - E.length)]) C (E ++ List.replicate (n - E.length) x).length := by
  have hO := h.hO
  have hC := h.hC
  rw [List.take_length] at hO
  rw [List.drop_length] at hC
  refine ⟨fun c hc => ?_, fun c hc => ?_, ?_, Nat.le_refl _, by rw [List.drop_length]; exact hC⟩
  · rcases List.mem_append.1 hc with hc | hc
    · exact h.op c hc
    · simp at hc
      subst hc
      exact ⟨by show 0 < (n : Int) - E.length; omega, rfl⟩
  · rcases List.mem_append.1 hc with hc | hc
    · rcases List.mem_append.1 hc with hc | hc
      · exact h.top c (by simp [hc])
      · simp at hc
        subst hc
        exact ⟨by show 0 < (n : Int) - E.length; omega, by show (n : Int) - E.length ≤ _; omega⟩
    · exact h.top c (by simp [hc])
  · rw [List.take_length, expS_append, expS_one, hO]
    congr 2
    show ((n : Int) - E.length).toNat = n - E.length
    omega
theorem LayInv.done {E : List Int} {out : List (Int × Int)} {x : Int} {O C : List Pc} {n : Nat} (h : LayInv E out x O C n) : LayInv (E.take n) (out ++ (E.drop n).map fun f => (f, x)) 0 O C (E.take n).length := by
  refine ⟨h.op, h.top, by rw [List.take_length]; exact h.hO, Nat.le_refl _, by rw [List.drop_length, List.map_nil, List.append_nil]; exact h.hC⟩
theorem append_pcs {ops : Array Oper} {rest : List Oper} {o : Oper} {a : Act} {Q : Exit → Act → World → Prop} (W : World) (hgd : o.guard = none) (s x : Operand)
    (ho : o.op = .call { callee := .builtin .append, args := #[s, x], argTypes := #[41, 41] }) (base : Nat) (v : Value) (l : List Pc) (hs : a.eval s = v)
    (hown : W.ownsRow base 44 3 v l.length (flatB l)) (ad : Addr) (m : List Pc) (n c : Nat) (hn : n = m.length) (hx : a.eval x = .slice (some ad) n c)
    (hnew : ∀ j u, (flatB m)[j]? = some u → W.cell? (ad.add j) = some u) (hl : l.length + m.length ≤ 1000000) (hbase : base ≤ W.heap.size)
    (h : ∀ v' w', w'.ownsRow base 44 3 v' (l ++ m).length (flatB (l ++ m)) → Below base W w' → wpList Try.prog ops Q rest (a.put o.dst v') w') :
    wpList Try.prog ops Q (o :: rest) a W := by
  subst hn
  obtain ⟨i0, hi, hz0, hz1, hz2⟩ := info_parts infoPc
  refine wpList_append_own _ hgd s x 41 ho base 44 i0 (.agg #[.int .i64 0, .int .i64 0, .int .i64 0]) 3 24 Try.underlying41 hi hz0 hz1 hz2 rfl (by decide) v l.length (flatB l) hs hown ad m.length c (flatB m) hx (flatB_length m)
    hnew (flatB_one m) (by unfold maxLen; omega) (by omega) hbase ?_
  intro v' w' h1 h2 _
  refine h v' w' (by rw [flatB_append, List.length_append]; exact h1) ((Below.refl _ _).grown h2 hbase fun k hk => (hown.lt k hk).1)
theorem append_rdC {ops : Array Oper} {rest : List Oper} {o : Oper} {a : Act} {Q : Exit → Act → World → Prop} (W : World) (hgd : o.guard = none) (s x : Operand)
    (ho : o.op = .call { callee := .builtin .append, args := #[s, x], argTypes := #[41, 41] }) (base : Nat) (v : Value) (l : List Pc) (hs : a.eval s = v)
    (hown : W.ownsRow base 44 3 v l.length (flatB l)) (L B : Nat) (A : Option Addr) (m : List Pc) (n c : Nat) (hx : a.eval x = .slice A n c) (hr : RdB W L B (.slice A n c) m)
    (hl : l.length + m.length ≤ 1000000) (hbase : base ≤ W.heap.size)
    (h : ∀ v' w', w'.ownsRow base 44 3 v' (l ++ m).length (flatB (l ++ m)) → Below base W w' → wpList Try.prog ops Q rest (a.put o.dst v') w') :
    wpList Try.prog ops Q (o :: rest) a W := by
  have hr0 := hr
  obtain ⟨A', c', hv, _, _⟩ := hr
  injection hv with e1 e2 e3
  subst e1 e2
  cases A with
  | some ad =>
    refine append_pcs W hgd s x ho base v l hs hown ad m _ _ rfl hx (flatB_cell fun k p hk => ?_) hl hbase h
    obtain ⟨ad', e, _, _, k0⟩ := hr0.at hk
    injection e with e
    subst e
    exact k0
  | none =>
    have hm : m = [] := by
      cases m with
      | nil => rfl
      | cons p m => obtain ⟨ad', e, _⟩ := hr0.at (k := 0) (d := p) rfl; cases e
    subst hm
    obtain ⟨i0, hi, hz0, hz1, hz2⟩ := info_parts infoPc
    refine wpList_plain hgd fun K hK => ?_
    have hx' : a.eval x = .slice none 0 c := hx
    have hrun := run_append_nil W base 41 o.type 44 i0 3 Try.underlying41 hi v l.length (flatB l) hown c
    unfold Oper.wp
    simp only [execOp, ho, resolve, invoke, builtin, Sem.run_bind, Sem.run_pure, Result.andThen_ok, List.map_toArray, List.map_cons, List.map_nil, hs, hx', hrun]
    exact hK _ _ (h v W (by rw [List.append_nil]; exact hown) (Below.refl _ _))
set_option maxRecDepth 100000 in
set_option maxHeartbeats 6400000 in
theorem layers_any (v : Value) (l : List (Int × Int)) (w : World) (L0 : Nat) (hv : RdP w L0 w.heap.size v l) (hlen : l.length ≤ 1000) :
    Calls Try.prog 25 #[v] w (RetLay w l) := by
  have HV := Lib.hid hv
  obtain ⟨A, c, rfl, hl63, _⟩ := hv
  go_enter Try.func25, Try.ntmps25
  go_wp2
  go_loopw [3, 4, 5, 13] (fun o cl lv i wr => ∃ (k : Nat) (O C : List Pc), k ≤ l.length ∧ i = .int .i64 k ∧ lv = .int .i64 (lvRun (l.take k)).1.length ∧ wr.ownsRow w.heap.size 44 3 o O.length (flatB O) ∧ wr.ownsRow w.heap.size 44 3 cl C.length (flatB C) ∧ Apart2 o cl ∧ O.length + C.length ≤ k ∧ Hid (LayInv (lvRun (l.take k)).1 (lvRun (l.take k)).2 0 O C (lvRun (l.take k)).1.length) ∧ Below w.heap.size w wr) (fun _ _ _ i _ => l.length - (intOf i).toNat)
  case atStart => exact ⟨0, [], [], by omega, rfl, rfl, own_nilC _ _, own_nilC _ _, (fun g h => by cases h), by simp, Lib.hid layInv0, Below.refl _ _⟩
  case round =>
    obtain ⟨k, O, C, hk, rfl, rfl, hoo, hoc, hap, hnum, hI, hbr⟩ := hrel
    have hbz := hbr.size
    have OO := Lib.hid hoo
    have OC := Lib.hid hoc
    have AP := Lib.hid hap
    clear hoo hoc hap
    by_cases hlt : k < l.length
    · have hx := List.getElem?_eq_getElem hlt
      generalize l[k] = s at hx
      obtain ⟨x, y⟩ := s
      obtain ⟨ad, rfl, _, hab, c0, c1⟩ := (HV.out.below hbr).at hx
      dsimp only at c0 c1
      have hS := Lib.hid (lvRun_step hx)
      have hEl := lvRun_len (l.take k)
      have i2 : (0 : Int) ≤ (k : Int) := by omega
      have i3 : (k : Int) < (l.length : Int) := by omega
      clear hx
      generalize lvRun (l.take k) = S at *
      obtain ⟨E, out⟩ := S
      dsimp only at *
      have bW : Below wr.heap.size wr (wr.alloc (.cells #[.int .i64 x, .int .i64 y] 37)) := (Below.refl _ _).alloc (Nat.le_refl _) _
      have oW := Own.new wr 37 #[.int .i64 x, .int .i64 y]
      have OO1 := Lib.hid (own_below OO.out bW)
      have OC1 := Lib.hid (own_below OC.out bW)
      have hny := cl_eq y
      have hnl0 := cl_le y
      have BW := hbr.trans (bW.mono hbz)
      have zW : wr.heap.size < (wr.alloc (.cells #[.int .i64 x, .int .i64 y] 37)).heap.size := oW.lt
      generalize hsb : wr.heap.size = sb at *
      go_wp2
      clear hny
      generalize hcn : cl y = n at *
      generalize wr.alloc (.cells #[.int .i64 x, .int .i64 y] 37) = W1 at *
      clear OO OC bW hbr
      go_loopw [3, 4, 5] (fun o cl lv wx => ∃ (O C : List Pc) (L : Nat), lv = .int .i64 L ∧ wx.ownsRow w.heap.size 44 3 o O.length (flatB O) ∧ wx.ownsRow w.heap.size 44 3 cl C.length (flatB C) ∧ Apart2 o cl ∧ (n < L ∨ E.length < n → O.length + C.length ≤ k) ∧ O.length + C.length ≤ k + 1 ∧ (E.length < n → L = E.length) ∧ (n ≤ E.length → n ≤ L) ∧ Hid (LayInv E out x O C L) ∧ Own wx sb 37 #[.int .i64 x, .int .i64 y] ∧ Below w.heap.size w wx) (fun _ _ lv _ => (intOf lv).toNat)
      case atStart => exact ⟨O, C, E.length, rfl, OO1.out, OC1.out, AP.out, fun _ => hnum, by omega, fun _ => rfl, fun h => h, Lib.hid (hI.out.here x), oW, BW⟩
      case round =>
        clear OO1 OC1 AP oW BW hnum hI
        obtain ⟨O, C, L, rfl, hoo, hoc, hap, hnum, hnum2, hEn, hnL, hI, hob, hbr⟩ := hrel
        have hbz := hbr.size
        have OO := Lib.hid hoo
        have OC := Lib.hid hoc
        have AP := Lib.hid hap
        have OB := Lib.hid hob
        clear hoo hoc hap hob
        by_cases hnl : n < L
        · obtain ⟨O', f, N, rfl, hN0, hN1⟩ := hI.out.last (by omega)
          have hlen1 : (O' ++ [((f, 1099511627776, N) : Pc)]).length = O'.length + 1 := by simp
          rcases own_get OO.out with ⟨_, h0⟩ | ⟨g, c3, rfl, hbg, hg, hnc, hcell⟩
          · rw [hlen1] at h0; omega
          · obtain ⟨g0, g1, g2⟩ := flatB_get (O' ++ [((f, 1099511627776, N) : Pc)]) O'.length (f, 1099511627776, N) (by simp)
            have d0 := hcell _ _ g0
            have d1 := hcell _ _ g1
            have d2 := hcell _ _ g2
            dsimp only at d0 d1 d2
            have f2 := World.ownsRow.frozenAt OO.out (O'.length * 3 + 2)
            clear g0 g1 g2 hcell
            have e0 : wr.cell? ⟨sb, 0, none⟩ = some (.int .i64 x) := OB.out.cell 0
            have OO2 : Hid (wr.ownsRow w.heap.size 44 3 (.slice (some ⟨g, 0, none⟩) (O'.length + 1) c3) (O' ++ [((f, 1099511627776, N) : Pc)]).length (flatB (O' ++ [((f, 1099511627776, N) : Pc)]))) := Lib.hid (by
              have h := OO.out
              rwa [show Value.slice (some ⟨g, 0, none⟩) (O' ++ [((f, 1099511627776, N) : Pc)]).length c3 = Value.slice (some ⟨g, 0, none⟩) (O'.length + 1) c3 by rw [hlen1]] at h)
            rw [hlen1] at hnc hnum hnum2 ⊢
            have hOl := hnum (.inl hnl)
            have j2 : (0 : Int) ≤ (O'.length : Int) := by omega
            have j3 : (O'.length : Int) < (O'.length : Int) + 1 := by omega
            clear OO hlen1
            obtain ⟨ee, hee⟩ : ∃ ee : Int, ee = min N ((L : Int) - n) := ⟨_, rfl⟩
            have hw64 : wrap64 ((L : Int) - n) = (L : Int) - n := by have := hI.out.hL; unfold wrap64; omega
            have hmin : min N (wrap64 ((L : Int) - n)) = ee := by rw [hw64, hee]
            have he0 : 0 < ee := by omega
            have heN : ee ≤ N := by omega
            have heL : ee ≤ (L : Int) - n := by omega
            have HE2 := Lib.hid (show ee = N ∨ ee = (L : Int) - n by omega)
            have HSw : Hid (∀ w' : World, Below wr.heap.size wr w' → w'.cell? ⟨g, O'.length * 3, none⟩ = some (.int .i64 f) ∧ w'.cell? ⟨sb, 0, none⟩ = some (.int .i64 x)) := Lib.hid (fun w' hb => ⟨(hb.cell (p := ⟨g, O'.length * 3, none⟩) hg).trans d0, (hb.cell (p := ⟨sb, 0, none⟩) OB.out.lt).trans e0⟩)
            have hn4 : ∀ j, u4.ownBlock = some j → j < wr.heap.size := fun j hj => (OC.out.lt j hj).2
            have hgu : u4.ownBlock ≠ some g := AP.out g rfl
            have hsu : u4.ownBlock = none ∨ u4.ownBlock ≠ some sb := own_apart OC.out OB.out (by decide)
            have hsu2 : u4.ownBlock ≠ some sb := by
              rcases hsu with h | h
              · rw [h]; intro e; cases e
              · exact h
            have AP2 : Hid (Apart2 (.slice (some ⟨g, 0, none⟩) (O'.length + 1) c3) u4) := Lib.hid (fun j hj => AP.out j hj)
            have hwN : wrap64 (N - ee) = N - ee := by unfold wrap64; omega
            have hwL : wrap64 ((L : Int) - ee) = (L : Int) - ee := by have := hI.out.hL; unfold wrap64; omega
            have hgs : g ≠ sb := fun e => by
              have h1 := own_apart OO2.out OB.out (by decide)
              rcases h1 with h1 | h1
              · cases h1
              · exact h1 (by rw [← e]; rfl)
            clear hee hw64 AP
            go_wp2
            go_region_held3 (fun w' => w'.cell? ⟨g, O'.length * 3, none⟩ = some (.int .i64 f) ∧ w'.cell? ⟨sb, 0, none⟩ = some (.int .i64 x))
              (first | (with_reducible assumption) | exact HSw.out _ (by (repeat' (first | (with_reducible exact Below.refl _ _) | (with_reducible assumption) | (with_reducible refine Below.alloc ?_ ?_ _) | (with_reducible refine Below.drew ?_) | (with_reducible refine Below.setCell ?_ ?_ _) | (with_reducible refine Below.trans ?_ (Below.mono (by assumption) ?_)) | go_size))))
              ((refine step_append_pc _ (by rfl) _ _ (by rfl) w.heap.size _ C (by rfl) (World.ownsRow.alloc (World.ownsRow.drew OC.out) _) ⟨wr.heap.size, 0, none⟩ (f, x, ee) (by rfl) (World.news_of_block (heap_alloc_new _ _)) ?_ ?_ _ (by rfl) ?_; (focus omega); (focus go_size); intro g3 c4 w3 hown3 hb3 hg3 hlie3 hlt3; have G := grown_drew hg3; have s3 : w3.cell? ⟨g, O'.length * 3, none⟩ = some (.int .i64 f) ∧ w3.cell? ⟨sb, 0, none⟩ = some (.int .i64 x) := ⟨box_far G hg hgu d0, box_far G OB.out.lt hsu2 e0⟩))
            have k2 := box_far G hg hgu d2
            have kf : w3.frozen? ⟨g, O'.length * 3 + 2, none⟩ = false := (World.grownBy.frozen_far G ⟨g, O'.length * 3 + 2, none⟩ hg (fun e => hgu e.symm)).trans f2
            have OO3 := Lib.hid (OO2.out.kept G AP2.out.symm.row)
            have OC3 := Lib.hid hown3
            have OB3 := Lib.hid (OB.out.grown G hsu)
            have zG := G.size
            have AP3 : Hid (Apart2 (.slice (some ⟨g, 0, none⟩) (O'.length + 1) c3) (.slice (some ⟨g3, 0, none⟩) (C.length + 1) c4)) := Lib.hid (apart_lies (n := C.length + 1) (c := c4) AP2.out.symm hlie3 (fun j hj => by have e : g = j := (by simpa [Value.ownBlock] using hj); show j < (wr.alloc _).heap.size; rw [World.size_alloc]; omega)).symm
            have B3 : Below w.heap.size wr w3 := (((Below.refl w.heap.size wr).alloc hbz _).drew).trans hb3
            have OO4 : w3.ownsRow w.heap.size 44 3 (.slice (some ⟨g, 0, none⟩) (O'.length + 1) c3) (O'.length + 1) (flatB (O' ++ [((f, 1099511627776, N) : Pc)])) := by
              have h := OO3.out
              rwa [show (O' ++ [((f, 1099511627776, N) : Pc)]).length = O'.length + 1 by simp] at h
            have OOs := Lib.hid ((World.ownsRow.stored OO4 (O'.length * 3 + 2) (.int .i64 (N - ee))).1)
            rw [set_last] at OOs
            have OCs := Lib.hid (own_setApart (p := ⟨g, O'.length * 3 + 2, none⟩) OC3.out (.inr (fun e => AP3.out g rfl e)) (.int .i64 (N - ee)))
            have OBs := Lib.hid (OB3.out.far (p := ⟨g, O'.length * 3 + 2, none⟩) (fun e => hgs e.symm) (.int .i64 (N - ee)))
            have Bs := B3.setCell (p := ⟨g, O'.length * 3 + 2, none⟩) hbg (.int .i64 (N - ee))
            clear G hg3 hb3 hlie3 hown3 OO3 OO4 OC3 OB3 OO2 OC OB HSw d0 d1 d2 f2 e0 s3
            by_cases hz : N = ee
            · subst hz
              rw [Int.sub_self] at OOs OCs OBs Bs
              go_wp2
              go_roundw
              case rel =>
                have hI2 := hI.out.pop hN0 (by omega)
                have hcut : World.ownsRow (w3.setCell ⟨g, O'.length * 3 + 2, none⟩ (.int .i64 0)) w.heap.size 44 3 (.slice (some ⟨g, 0, none⟩) O'.length c3) O'.length (flatB O') := by
                  have h := own_cut OOs.out O'.length (by omega)
                  rw [flatB_append, List.take_left' (flatB_length O')] at h
                  exact h
                have hCl : (C ++ [((f, x, N) : Pc)]).length = C.length + 1 := by simp
                exact ⟨O', C ++ [(f, x, N)], L - N.toNat, congrArg (Value.int .i64) (by rw [hwL]; omega), hcut, OCs.out, fun j hj => AP3.out j hj, fun _ => by rw [hCl]; omega, by rw [hCl]; omega, fun h => by have := hI.out.hL; omega, fun h => by omega, Lib.hid hI2, OBs.out, hbr.trans Bs⟩
              case measure =>
                have hIL := hI.out.hL
                show (wrap64 ((L : Int) - N)).toNat < L
                rw [hwL]; omega
            · have hz2 : ee < N := by omega
              have hz3 : ¬ N - ee = 0 := by omega
              go_wp2
              go_roundw
              case rel =>
                have hL2 : ee = (L : Int) - n := by have := HE2.out; omega
                have hI2 := hI.out.part he0 hz2 (by omega)
                have hOl2 : (O' ++ [((f, 1099511627776, N - ee) : Pc)]).length = O'.length + 1 := by simp
                have hCl : (C ++ [((f, x, ee) : Pc)]).length = C.length + 1 := by simp
                exact ⟨O' ++ [(f, 1099511627776, N - ee)], C ++ [(f, x, ee)], L - ee.toNat, congrArg (Value.int .i64) (by rw [hwL]; omega), by rw [hOl2]; exact OOs.out, OCs.out, fun j hj => AP3.out j hj, fun h => by have := hI.out.hL; omega, by rw [hOl2, hCl]; omega, fun h => by have := hI.out.hL; omega, fun h => by omega, Lib.hid hI2, OBs.out, hbr.trans Bs⟩
              case measure =>
                have hIL := hI.out.hL
                show (wrap64 ((L : Int) - ee)).toNat < L
                rw [hwL]; omega
        · have hnl2 : ¬ (n : Int) < (L : Int) := by omega
          by_cases hlt2 : L < n
          · have hEL := hEn (by have := hI.out.hL; omega)
            subst hEL
            have hOl := hnum (.inr hlt2)
            have e0 : wr.cell? ⟨sb, 0, none⟩ = some (.int .i64 x) := OB.out.cell 0
            have hsu : u3.ownBlock = none ∨ u3.ownBlock ≠ some sb := own_apart OO.out OB.out (by decide)
            have hw64 : wrap64 ((n : Int) - E.length) = (n : Int) - E.length := by unfold wrap64; omega
            have hlt3 : (E.length : Int) < (n : Int) := by omega
            have HSw : Hid (∀ w' : World, Below wr.heap.size wr w' → w'.cell? ⟨sb, 0, none⟩ = some (.int .i64 x)) := Lib.hid (fun w' hb => (hb.cell (p := ⟨sb, 0, none⟩) OB.out.lt).trans e0)
            have hS2 : Hid (lvRun (l.take (k + 1)) = (E ++ List.replicate (n - E.length) x, out)) := Lib.hid (by rw [hS.out]; unfold lvStep; dsimp only; rw [hcn]; rw [if_neg (by omega)])
            go_wp2_with (at_builtin; refine append_pc _ rfl _ _ rfl w.heap.size _ O rfl (World.ownsRow.alloc OO.out _) ⟨wr.heap.size, 0, none⟩ (x, 1099511627776, (n : Int) - E.length) rfl (World.news_of_block (heap_alloc_new _ _)) ?_ ?_ _ rfl ?_; (focus omega); (focus go_size); intro g3 c3 w3 hown3 hb3 hg3 hlie3 hlt4; (try dsimp only [Act.eval, Act.put] at hg3 hlie3))
            go_roundw
            case rel =>
              have hg4 : (wr.alloc (.cells #[.int .i64 x, .int .i64 1099511627776, .int .i64 ((n : Int) - E.length)] 44)).grownBy w3 u3.ownBlock := hg3
              have L3 : u3.ownBlock = some g3 ∨ g3 = (wr.alloc (.cells #[.int .i64 x, .int .i64 1099511627776, .int .i64 ((n : Int) - E.length)] 44)).heap.size := hlie3
              have hOl : (O ++ [((x, 1099511627776, (n : Int) - E.length) : Pc)]).length = O.length + 1 := by simp
              have hI2 := hI.out.push hlt2 hnl0
              refine ⟨k + 1, O ++ [(x, 1099511627776, (n : Int) - E.length)], C, by omega, by go_num, ?_, hown3, ?_, apart_lies (n := O.length + 1) (c := c3) AP.out L3 (fun j hj => by have := (OC.out.lt j hj).2; rw [World.size_alloc]; omega), by rw [hOl]; omega, Lib.hid (by rw [hS2.out]; exact hI2), hbr.trans (((Below.refl _ _).alloc hbz _).trans hb3)⟩
              · rw [hS2.out]
                exact congrArg (Value.int .i64) (by rw [List.length_append, List.length_replicate]; omega)
              · exact ((OC.out.alloc _).kept hg4 AP.out.row)
            case measure => simp [intOf]; omega
          · have hnL2 : L = n := by omega
            subst hnL2
            have hS2 : Hid (lvRun (l.take (k + 1)) = (E.take L, out ++ (E.drop L).map fun f => (f, x))) := Lib.hid (by rw [hS.out]; unfold lvStep; dsimp only; rw [hcn]; rw [if_pos hI.out.hL])
            go_wp2
            go_roundw
            case rel =>
              refine ⟨k + 1, O, C, by omega, by go_num, ?_, OO.out, OC.out, AP.out, by omega, Lib.hid (by rw [hS2.out]; exact hI.out.done), hbr⟩
              rw [hS2.out]
              exact congrArg (Value.int .i64) (by have := hI.out.hL; rw [List.length_take]; omega)
            case measure => simp [intOf]; omega
    · have hkl : k = l.length := by omega
      subst hkl
      have hT : l.take l.length = l := List.take_length
      rw [hT] at hI ⊢
      have hd : ¬ ((l.length : Nat) : Int) < l.length := by omega
      have hR : Hid ((expC (C ++ O)).Perm (lvAll l)) := Lib.hid (by
        have h := hI.out
        have hO := h.hO
        have hC := h.hC
        rw [List.take_length] at hO
        rw [List.drop_length, List.map_nil, List.append_nil] at hC
        rw [expC_append, expC_open h.op, hO]
        exact hC.append_right _)
      have hQ : Hid (∀ c ∈ C ++ O, 0 < c.2.2 ∧ c.2.2 ≤ 1048576) := Lib.hid (fun c hc => hI.out.top c (by rcases List.mem_append.1 hc with h | h <;> simp [h]))
      have RO := Lib.hid (RdB.of_ownC OO.out (by omega))
      obtain ⟨A3, n3, c3, hu3⟩ := own_slice OO.out
      subst hu3
      generalize (lvRun l).1.length = LL at *
      go_wp2_with (at_builtin; refine append_rdC _ rfl _ _ rfl w.heap.size _ C rfl OC.out _ _ _ O _ _ rfl RO.out ?_ ?_ ?_; (focus omega); (focus exact hbz); intro v1 w1 hown1 hb1)
      go_ret
      exact ⟨_, rfl, C ++ O, hown1, by rw [List.length_append]; omega, hQ.out, hR.out, hbr.trans hb1⟩
end Go.Proofs.Ytbpjgipldddcfaa
