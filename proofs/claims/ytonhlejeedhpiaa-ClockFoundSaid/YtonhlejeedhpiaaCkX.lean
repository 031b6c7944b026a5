/-
  Contracts of Shown, of the program and of the reference: the periods in which a reading may have been shown. Conditions: none.
-/
import Derived.Test.YtonhlejeedhpiaaCkJ
import Derived.Laws.OwnMore
import Derived.Deep.RegionHeld3
import Derived.StillTailTactics
import Derived.Deep.DeepCutAuto
import Derived.WalkKit
import Derived.WalkSpells
import Derived.WalkLawsBesides
import Derived.Deep.QuietTactic
import Derived.BigQuiet
import Derived.Handy
import Derived.Lib.Hide
namespace Go.Proofs.Ytonhlejeedhpiaa
open Go.RowKit

theorem takeD {P : Program} {md : Region.Mode} {ops : Array Oper} {Q : Exit → Act → World → Prop} {S : World → Prop} {i d : Nat} {oi : Oper} {v : Value} {fuel : Nat} {listed : Array Bool} {a : Act} {w : World} (hi : ops[i]? = some oi) (hd : oi.dst = some d)
    (hs : Region.noSelect ops = true) (hf : Region.free md ops listed i = true) (hr : (Region.ready md ops listed).contains i = true)
    (hQ : ∀ c a w, Q (.panic c) (a.put oi.dst v) w → Q (.panic c) a w) (hy : YieldsIf P ops S oi v a) (hS : S w)
    (h : wpAnyH P md ops Q S fuel (listed.setIfInBounds i true) (a.put (some d) v) w) : wpAnyH P md ops Q S (fuel + 1) listed a w :=
  wpAnyH_take hi hs hf hr hQ hy hS (by rw [hd]; exact h)
theorem append_perG {ops : Array Oper} {rest : List Oper} {o : Oper} {a : Act} {Q : Exit → Act → World → Prop} (W : World) (hgd : o.guard = none) (s x : Operand)
    (ho : o.op = .call { callee := .builtin .append, args := #[s, x], argTypes := #[42, 42] }) (base : Nat) (v : Value) (l : List (Int × Int)) (hs : a.eval s = v)
    (hown : W.ownsRow base 49 2 v l.length (flatP l)) (ad : Addr) (c d : Int) (hx : a.eval x = .slice (some ad) 1 1)
    (hnew : ∀ j u, [Value.int .i64 c, Value.int .i64 d][j]? = some u → W.cell? (ad.add j) = some u) (hl : l.length ≤ 2199023255552) (hbase : base ≤ W.heap.size)
    (h : ∀ v' w', w'.ownsRow base 49 2 v' (l ++ [(c, d)]).length (flatP (l ++ [(c, d)])) → Below base W w' → wpList Try.prog ops Q rest (a.put o.dst v') w') :
    wpList Try.prog ops Q (o :: rest) a W := by
  obtain ⟨i0, hi, hz0, hz1, hz2⟩ := info_parts infoPer
  refine wpList_append_own _ hgd s x 42 ho base 49 i0 (.agg #[.int .i64 0, .int .i64 0]) 2 16 Try.underlying42 hi hz0 hz1 hz2 rfl (by decide) v l.length (flatP l) hs hown ad 1 1 [.int .i64 c, .int .i64 d] hx rfl
    hnew (fun u hu => by simp at hu; rcases hu with rfl | rfl <;> rfl) (by unfold maxLen; omega) (by omega) hbase ?_
  intro v' w' h1 h2 _
  refine h v' w' (by rw [flatP_snoc, List.length_append]; exact h1) ((Below.refl _ _).grown h2 hbase fun k hk => (hown.lt k hk).1)
theorem flatP_set (m : List (Int × Int)) (x y b : Int) : (flatP (m ++ [(x, y)])).set (m.length * 2 + 1) (.int .i64 b) = flatP (m ++ [(x, b)]) := by
  rw [flatP_append, flatP_append, List.set_append, if_neg (by rw [flatP_length]; omega), flatP_length, show m.length * 2 + 1 - m.length * 2 = 1 by omega]
  rfl
theorem adj_last {x y t u : Int} (h0 : 0 ≤ x) (h1 : x < y) (h2 : y ≤ t) (h3 : t < u) (h4 : u ≤ 1099511627776) : adj x y t u = decide (y = t) := by
  have hv1 : vld x y = true := by simp [vld]; omega
  have hv2 : vld t u = true := by simp [vld]; omega
  have hn : (u == x) = false := by simp; omega
  unfold adj
  rw [hv1, hv2, hn]
  simp only [Bool.true_and, Bool.or_false]
  rfl
theorem add_add (ad : Addr) (j k : Nat) : (ad.add j).add k = ad.add (j + k) := by
  unfold Addr.add
  by_cases h1 : j = 0
  · subst h1; simp
  · by_cases h2 : k = 0
    · subst h2; simp [h1]
    · simp [h1, h2, Nat.add_assoc]
theorem RdP.drop {w : World} {L B : Nat} {ad : Addr} {n c : Nat} {l : List (Int × Int)} (h : RdP w L B (.slice (some ad) n c) l) (j m d : Nat) (hm : m = l.length - j) : RdP w L B (.slice (some (ad.add (j * 2))) m d) (l.drop j) := by
  have hl : l.length ≤ 9223372036854775807 := by obtain ⟨_, _, _, h2, _⟩ := h; exact h2
  refine ⟨some (ad.add (j * 2)), d, by rw [hm, List.length_drop], by rw [List.length_drop]; omega, fun k p hk => ?_⟩
  rw [List.getElem?_drop] at hk
  obtain ⟨ad', e, h1, h2, h3, h4⟩ := h.at hk
  injection e with e
  subst e
  refine ⟨ad.add (j * 2), rfl, by rw [add_block]; exact h1, by rw [add_block]; exact h2, ?_, ?_⟩
  · rw [add_add, ← Nat.add_mul]; exact h3
  · rw [add_add, ← Nat.add_mul]; exact h4

theorem RdP.dropIf {w : World} {L B : Nat} {ad : Addr} {n c : Nat} {l : List (Int × Int)} (h : RdP w L B (.slice (some ad) n c) l) (hc : l.length ≤ c) (j m d : Nat) (hm : m = l.length - j) : RdP w L B (.slice (if c = j then some ad else some (ad.add (j * 2))) m d) (l.drop j) := by
  by_cases hj : c = j
  · rw [if_pos hj]
    have hn : l.drop j = [] := List.drop_eq_nil_of_le (by omega)
    rw [hn, show m = 0 by omega]
    exact RdP.nil _ _ _ _ _
  · rw [if_neg hj]
    exact RdP.drop h j m d hm

set_option maxRecDepth 100000 in
set_option maxHeartbeats 12800000 in
theorem pShown_any (v : Value) (l : List (Int × Int)) (wall : Int) (w : World) (L : Nat) (hv : RdP w L w.heap.size v l) :
    Calls Try.prog 23 #[v, .int .i64 wall] w (RetPers w (shL l wall)) := by
  have hv0 := hv
  have hc := pCheck_any v l w L hv
  obtain ⟨A, c, rfl, hlen, _⟩ := hv
  by_cases h0 : chk 0 l = 0
  · cases hw : inst wall
    · rw [shL_wall hw]
      have hi := pInst_any wall
      rw [hw] at hi
      rw [h0] at hc
      go_enter Try.func23, Try.ntmps23
      go_wp2_with fail
      refine hc.mono ?_
      rintro e w1 ⟨rfl, hb1⟩
      go_wp2_with fail
      refine (hi _).mono ?_
      rintro e w2 ⟨rfl, hb2⟩
      go_wp2
      go_ret
      exact ⟨_, rfl, RdP.nil _ _ _ _ _, hb1.trans (hb2.mono hb1.size)⟩
    · rw [shL_ok h0 hw]
      have hcl := chk_len l 0 (by omega) h0
      have hA := asc_of l 0 0 (by omega) (by omega) h0
      have hi := pInst_any wall
      rw [hw] at hi
      rw [h0] at hc
      go_enter Try.func23, Try.ntmps23
      go_wp2_with fail
      refine hc.mono ?_
      rintro e w1 ⟨rfl, hb1⟩
      have z1 := hb1.size
      go_wp2_with fail
      refine (hi _).mono ?_
      rintro e w2 ⟨rfl, hb2⟩
      have z2 := hb2.size
      have B2 := hb1.trans (hb2.mono z1)
      clear hb1 hb2
      go_wp2_with fail
      have b3 : Below w2.heap.size w2 (w2.alloc (.cells #[.int .i64 0, .int .i64 0] 34)) := (Below.refl _ _).alloc (Nat.le_refl _) _
      have b4 : Below w2.heap.size w2 ((w2.alloc (.cells #[.int .i64 0, .int .i64 0] 34)).alloc (.cells #[.slice (some ⟨w2.heap.size, 0, none⟩) 1 1, .slice A l.length c] 30)) := b3.alloc (by simp) _
      have hr0 : RdP ((w2.alloc (.cells #[.int .i64 0, .int .i64 0] 34)).alloc (.cells #[.slice (some ⟨w2.heap.size, 0, none⟩) 1 1, .slice A l.length c] 30)) 0 ((w2.alloc (.cells #[.int .i64 0, .int .i64 0] 34)).alloc (.cells #[.slice (some ⟨w2.heap.size, 0, none⟩) 1 1, .slice A l.length c] 30)).heap.size (.slice (some ⟨w2.heap.size, 0, none⟩) 1 1) [(0, 0)] := by
        refine ⟨_, 1, rfl, by decide, fun k p hk => ?_⟩
        cases k with
        | zero =>
          simp at hk
          subst hk
          refine ⟨_, rfl, Nat.zero_le _, by simp; omega, ?_, ?_⟩
          · exact ((Own.new w2 34 #[.int .i64 0, .int .i64 0]).alloc _).cell 0
          · exact ((Own.new w2 34 #[.int .i64 0, .int .i64 0]).alloc _).cell 1
        | succ k => simp at hk
      have hcc := concat_any (.slice (some ⟨w2.heap.size, 0, none⟩) 1 1) (.slice A l.length c) [(0, 0)] l (w2.heap.size + 1) _ 0 L (by simp) ((own_two (w := w2) (t := 30) (cs := #[.slice (some ⟨w2.heap.size, 0, none⟩) 1 1, .slice A l.length c]) (.cells #[.int .i64 0, .int .i64 0] 34)).cell 0) ((own_two (w := w2) (t := 30) (cs := #[.slice (some ⟨w2.heap.size, 0, none⟩) 1 1, .slice A l.length c]) (.cells #[.int .i64 0, .int .i64 0] 34)).cell 1) hr0 ((hv0.below (B2.trans (b4.mono B2.size))).more (B2.trans (b4.mono B2.size)).size (Nat.le_refl _)) (by decide) (by omega)
      refine hcc.mono ?_
      rintro e w4 ⟨v4, rfl, hown4, hb4⟩
      have B4 := B2.trans ((b4.trans (hb4.mono b4.size)).mono B2.size)
      have z4 := B4.size
      have hcp : ∀ A4 n4 c4, v4 = .slice A4 n4 c4 → ((0, 0) :: l).length ≤ c4 := by
        intro A4 n4 c4 he
        rcases own_get hown4 with ⟨_, h0⟩ | ⟨g, c', he', _, _, hn, _⟩
        · simp at h0
        · rw [he] at he'
          injection he' with _ _ e3
          rw [e3]
          exact hn
      have hr4 : RdP w4 w.heap.size w4.heap.size v4 ((0, 0) :: l) := (RdP.of_ownS hown4 (by simp; omega)).more (Nat.le_refl _) (Nat.le_trans B2.size b4.size)
      clear hcc hown4 hb4 b3 b4 hr0 hv0 z2 B2 z1
      have hAl : ((0, 0) :: l).length = l.length + 1 := rfl
      have hcl2 : ((0, 0) :: l).length ≤ 1099511627776 := by rw [hAl]; omega
      clear hcl
      generalize ((0, 0) :: l : List (Int × Int)) = AL at *
      have hr5 := hr4
      obtain ⟨A4, c4, rfl, _, _⟩ := hr4
      have hc4 := hcp _ _ _ rfl
      clear hcp
      have HAL := Lib.hid hAl
      have HR := Lib.hid hr5
      have HA := Lib.hid hA
      clear hAl hr5 hA hc hi
      go_wp2
      go_loopw [6, 26] (fun o i wr => ∃ k : Nat, k ≤ AL.length ∧ i = .int .i64 k ∧ wr.ownsRow w4.heap.size 49 2 o (shS AL wall k).length (flatP (shS AL wall k)) ∧ Below w4.heap.size w4 wr) (fun _ i _ => AL.length - (intOf i).toNat)
      case atStart => exact ⟨0, by omega, rfl, own_nilP _ _, Below.refl _ _⟩
      case round =>
        obtain ⟨k, hk, rfl, hown, hbr⟩ := hrel
        have hbz := hbr.size
        have hle := shS_len AL wall k
        have HO := Lib.hid hown
        clear hown
        by_cases hlt : k < AL.length
        · have hx := List.getElem?_eq_getElem hlt
          generalize AL[k] = p at hx
          obtain ⟨t, r⟩ := p
          have hLast := fun q hq => shS_last HA.out wall k q (by omega) hq
          have hAk := HA.out k _ hx
          rw [hx] at hLast
          simp only [endO] at hLast
          dsimp only at hAk
          obtain ⟨ad, rfl, _, hab, c0, c1⟩ := (HR.out.below hbr).at hx
          dsimp only at c0 c1
          have HRw := Lib.hid ((HR.out.step hbr (Nat.le_refl _)).dropIf hc4 (k + 1) (AL.length - (k + 1)) (c4 - (k + 1)) rfl)
          have hsa : saP t r (AL.drop (k + 1)) wall = if mayB r (AL[k + 1]?.map (·.2)) wall then (t, endO AL[k + 1]?) else (0, 0) := by unfold saP; rw [List.head?_drop]
          have i1 : IntKind.i64.wrap ((k : Int) + 1) = (k : Int) + 1 := IntWalk.i64_in _ (by omega)
          have i2 : (0 : Int) ≤ (k : Int) := by omega
          have i3 : (k : Int) < (AL.length : Int) := by omega
          have i4 : (0 : Int) ≤ (k : Int) + 1 := by omega
          have i5 : (k : Int) + 1 ≤ (AL.length : Int) := by omega
          have i6 : ((k : Int) + 1).toNat = k + 1 := by omega
          go_wp2
          have oX := Own.new wr 34 #[.int .i64 t, .int .i64 r]
          have bX : Below wr.heap.size wr (wr.alloc (.cells #[.int .i64 t, .int .i64 r] 34)) := (Below.refl _ _).alloc (Nat.le_refl _) _
          have HOX := Lib.hid (World.ownsRow.alloc HO.out (.cells #[.int .i64 t, .int .i64 r] 34))
          have HRX := Lib.hid (HRw.out.step bX (Nat.le_refl _))
          have BX : Below w4.heap.size w4 (wr.alloc (.cells #[.int .i64 t, .int .i64 r] 34)) := hbr.trans (bX.mono hbz)
          have zX : wr.heap.size < (wr.alloc (.cells #[.int .i64 t, .int .i64 r] 34)).heap.size := by simp
          generalize wr.alloc (.cells #[.int .i64 t, .int .i64 r] 34) = W at *
          have hPQ : ∃ P1 P2, saP t r (AL.drop (k + 1)) wall = (P1, P2) := ⟨_, _, rfl⟩
          obtain ⟨P1, P2, hPQ⟩ := hPQ
          have HPA : Hid (∀ V : Value, V = .slice (if c4 = k + 1 then some ad else some (ad.add ((k + 1) * 2))) (AL.length - (k + 1)) (c4 - (k + 1)) → ∀ w' : World, Below W.heap.size W w' → Calls Try.prog 36 #[.agg #[.int .i64 t, .int .i64 r], V, .int .i64 wall] w' fun e w'' => e = .returned (.agg #[.int .i64 P1, .int .i64 P2]) ∧ Below w'.heap.size w' w'') := Lib.hid (fun V hV w' hb => by
            subst hV
            have h := pAfter_any t r wall _ _ w' _ (HRX.out.step hb (Nat.le_refl _))
            rw [hPQ] at h
            exact h)
          have hS0 : W.cell? ⟨wr.heap.size, 0, none⟩ = some (.int .i64 t) := oX.cell 0
          have hS1 : W.cell? ⟨wr.heap.size, 1, none⟩ = some (.int .i64 r) := oX.cell 1
          have lX := oX.lt
          have HS : Hid (∀ w' : World, Below W.heap.size W w' → Below W.heap.size W w' ∧ w'.cell? ⟨wr.heap.size, 0, none⟩ = some (.int .i64 t) ∧ w'.cell? ⟨wr.heap.size, 1, none⟩ = some (.int .i64 r)) := Lib.hid (fun w' hb => ⟨hb, (hb.cell (p := ⟨wr.heap.size, 0, none⟩) lX).trans hS0, (hb.cell (p := ⟨wr.heap.size, 1, none⟩) lX).trans hS1⟩)
          clear c0 c1 HRw HRX bX
          have HAk := Lib.hid hAk
          have HLast := Lib.hid hLast
          have HX := Lib.hid hx
          clear hAk hLast hx
          go_cut [9] (fun s9 x => ∃ g9 : Nat, s9 = .pointer (some ⟨g9, 0, none⟩) ∧ W.heap.size ≤ g9 ∧ Own x g9 49 #[.int .i64 P1, .int .i64 P2] ∧ Below W.heap.size W x)
          case first =>
            refine wp_region_held_drew (S := fun w' => w'.cell? ⟨wr.heap.size, 0, none⟩ = some (.int .i64 t) ∧ w'.cell? ⟨wr.heap.size, 1, none⟩ = some (.int .i64 r)) (by kernel_rfl) ⟨hS0, hS1⟩ (fun hHeld => ?_)
            (refine takeD (i := 0) (d := 31) (oi := _) (v := ?_) rfl rfl (by kernel_rfl) (by kernel_rfl) (by kernel_rfl) (fun _ _ _ h => h) (Or.inl ⟨by rfl, ?_⟩) (by assumption) ?_; rotate_left; (focus ((intro w hSw; (try dsimp only at hSw); go_simp) <;> (with_reducible rfl))); (try simp only [Act.put, List.setIfInBounds_toArray, List.set_cons_zero, List.set_cons_succ]))
            (refine takeD (i := 1) (d := 32) (oi := _) (v := ?_) rfl rfl (by kernel_rfl) (by kernel_rfl) (by kernel_rfl) (fun _ _ _ h => h) (Or.inl ⟨by rfl, ?_⟩) (by assumption) ?_; rotate_left; (focus ((intro w hSw; (try dsimp only at hSw); go_simp) <;> (with_reducible rfl))); (try simp only [Act.put, List.setIfInBounds_toArray, List.set_cons_zero, List.set_cons_succ]))
            (refine takeD (i := 2) (d := 33) (oi := _) (v := ?_) rfl rfl (by kernel_rfl) (by kernel_rfl) (by kernel_rfl) (fun _ _ _ h => h) (Or.inl ⟨by rfl, ?_⟩) (by assumption) ?_; rotate_left; (focus ((intro w hSw; (try dsimp only at hSw); go_simp) <;> (with_reducible rfl))); (try simp only [Act.put, List.setIfInBounds_toArray, List.set_cons_zero, List.set_cons_succ]))
            (refine takeD (i := 3) (d := 34) (oi := _) (v := ?_) rfl rfl (by kernel_rfl) (by kernel_rfl) (by kernel_rfl) (fun _ _ _ h => h) (Or.inl ⟨by rfl, ?_⟩) (by assumption) ?_; rotate_left; (focus ((intro w hSw; (try dsimp only at hSw); go_simp) <;> (with_reducible rfl))); (try simp only [Act.put, List.setIfInBounds_toArray, List.set_cons_zero, List.set_cons_succ]))
            (refine takeD (i := 4) (d := 35) (oi := _) (v := ?_) rfl rfl (by kernel_rfl) (by kernel_rfl) (by kernel_rfl) (fun _ _ _ h => h) (Or.inl ⟨by rfl, ?_⟩) (by assumption) ?_; rotate_left; (focus ((intro w hSw; (try dsimp only at hSw); go_simp) <;> (with_reducible rfl))); (try simp only [Act.put, List.setIfInBounds_toArray, List.set_cons_zero, List.set_cons_succ]))
            (refine takeD (i := 5) (d := 36) (oi := _) (v := ?_) rfl rfl (by kernel_rfl) (by kernel_rfl) (by kernel_rfl) (fun _ _ _ h => h) (Or.inl ⟨by rfl, ?_⟩) (by assumption) ?_; rotate_left; (focus ((intro w hSw; (try dsimp only at hSw); go_simp) <;> (with_reducible rfl))); (try simp only [Act.put, List.setIfInBounds_toArray, List.set_cons_zero, List.set_cons_succ]))
            generalize (if c4 = k + 1 then some ad else some (ad.add ((k + 1) * 2))) = AQ at *
            refine wpAnyH_ready (rs := [6, 7]) (by kernel_rfl) (by simp) ?_
            refine AllReadyH.cons (o := _) rfl (fun K hK => ?_) (AllReadyH.cons (o := _) rfl (fun K hK => ?_) AllReadyH.nil)
            · skip
              go_simp
              (go_at_call 36; refine (HPA.out _ rfl W.drew (Below.drew (Below.refl _ _))).mono ?_; rintro e w3 ⟨rfl, hb3⟩; have bq : Below W.heap.size W w3 := ((Below.drew (Below.refl _ _)).trans hb3); have zq3 := bq.size; have d0 := (HS.out w3 bq).2.1; have d1 := (HS.out w3 bq).2.2; go_wp2_with fail)
              refine hK.out _ _ (by (try dsimp only); exact ⟨d0, d1⟩) (fun hHeld => ?_)
              clear hK
              (try simp only [Act.put, List.setIfInBounds_toArray, List.set_cons_zero, List.set_cons_succ])
              refine wpAnyH_ready (rs := [7]) (by kernel_rfl) (by simp) ?_
              refine AllReadyH.cons (o := _) rfl (fun K hK => ?_) AllReadyH.nil
              go_simp
              skip
              refine hK.out _ _ (by (try dsimp only); (first | exact ⟨d0, d1⟩ | exact (HS.out _ (by (repeat' (first | (with_reducible exact Below.refl _ _) | (with_reducible assumption) | (with_reducible refine Below.alloc ?_ ?_ _) | (with_reducible refine Below.drew ?_) | (with_reducible refine Below.setCell ?_ ?_ _) | (with_reducible refine Below.trans ?_ (Below.mono (by assumption) ?_)) | go_size)))).2)) (fun hHeld => ?_)
              clear hK
              (try simp only [Act.put, List.setIfInBounds_toArray, List.set_cons_zero, List.set_cons_succ])
              refine wpAnyH_ready (rs := [8]) (by kernel_rfl) (by simp) ?_
              refine AllReadyH.cons (o := _) rfl (fun K hK => ?_) AllReadyH.nil
              go_simp
              skip
              refine hK.out _ _ (by (try dsimp only); (first | exact ⟨d0, d1⟩ | exact (HS.out _ (by (repeat' (first | (with_reducible exact Below.refl _ _) | (with_reducible assumption) | (with_reducible refine Below.alloc ?_ ?_ _) | (with_reducible refine Below.drew ?_) | (with_reducible refine Below.setCell ?_ ?_ _) | (with_reducible refine Below.trans ?_ (Below.mono (by assumption) ?_)) | go_size)))).2)) (fun hHeld => ?_)
              clear hK
              (try simp only [Act.put, List.setIfInBounds_toArray, List.set_cons_zero, List.set_cons_succ])
              refine wpAnyH_done (by kernel_rfl) ?_ _
              all_goals
                go_wp2_with fail
                go_meet
                exact ⟨_, rfl, by omega, Own.new _ _ _, bq.alloc (by omega) _⟩
            · skip
              go_simp
              skip
              refine hK.out _ _ (by (try dsimp only); (first | exact (HS.out _ (by (repeat' (first | (with_reducible exact Below.refl _ _) | (with_reducible assumption) | (with_reducible refine Below.alloc ?_ ?_ _) | (with_reducible refine Below.drew ?_) | (with_reducible refine Below.setCell ?_ ?_ _) | (with_reducible refine Below.trans ?_ (Below.mono (by assumption) ?_)) | go_size)))).2)) (fun hHeld => ?_)
              clear hK
              (try simp only [Act.put, List.setIfInBounds_toArray, List.set_cons_zero, List.set_cons_succ])
              refine wpAnyH_ready (rs := [6]) (by kernel_rfl) (by simp) ?_
              refine AllReadyH.cons (o := _) rfl (fun K hK => ?_) AllReadyH.nil
              go_simp
              (go_at_call 36; refine (HPA.out _ rfl (W.drew.alloc (.cells #[.int .i64 0, .int .i64 0] 49)) ((Below.drew (Below.refl _ _)).alloc (by simp) _)).mono ?_; rintro e w3 ⟨rfl, hb3⟩; have v1 := Own.below (show Own (World.alloc W.drew (.cells #[.int .i64 0, .int .i64 0] 49)) W.heap.size _ _ from Own.new _ _ _) hb3 (by simp); have bq : Below W.heap.size W w3 := (((Below.drew (Below.refl _ _)).alloc (by simp) _).trans (hb3.mono (by simp))); have zq3 := bq.size; have d0 := (HS.out w3 bq).2.1; have d1 := (HS.out w3 bq).2.2; have k0 : w3.cell? ⟨W.heap.size, 0, none⟩ = some (.int .i64 0) := (v1.cell 0); have k1 : w3.cell? ⟨W.heap.size, 1, none⟩ = some (.int .i64 0) := (v1.cell 1); have k2 := v1.free 0; have k3 := v1.free 1; go_wp2_with fail)
              refine hK.out _ _ (by (try dsimp only); exact ⟨d0, d1⟩) (fun hHeld => ?_)
              clear hK
              (try simp only [Act.put, List.setIfInBounds_toArray, List.set_cons_zero, List.set_cons_succ])
              refine wpAnyH_ready (rs := [8]) (by kernel_rfl) (by simp) ?_
              refine AllReadyH.cons (o := _) rfl (fun K hK => ?_) AllReadyH.nil
              go_simp
              skip
              refine hK.out _ _ (by (try dsimp only); (first | exact ⟨d0, d1⟩ | exact (HS.out _ (by (repeat' (first | (with_reducible exact Below.refl _ _) | (with_reducible assumption) | (with_reducible refine Below.alloc ?_ ?_ _) | (with_reducible refine Below.drew ?_) | (with_reducible refine Below.setCell ?_ ?_ _) | (with_reducible refine Below.trans ?_ (Below.mono (by assumption) ?_)) | go_size)))).2)) (fun hHeld => ?_)
              clear hK
              (try simp only [Act.put, List.setIfInBounds_toArray, List.set_cons_zero, List.set_cons_succ])
              refine wpAnyH_done (by kernel_rfl) ?_ _
              all_goals
                go_wp2_with fail
                go_meet
                exact ⟨_, rfl, by omega, (v1.store 0 _).store 1 _, (bq.setCell (by simp) _).setCell (by simp) _⟩
          case rest =>
            obtain ⟨g9, rfl, hg9, o9, hbc⟩ := hcut
            have L9 := o9.lt
            have zc := hbc.size
            have HOC := Lib.hid (own_below HOX.out hbc)
            have BC : Below w4.heap.size w4 wc := BX.trans (hbc.mono (by omega))
            clear HPA HS hS0 hS1 hbc HOX HO oX
            have p0 : wc.cell? ⟨g9, 0, none⟩ = some (.int .i64 P1) := o9.cell 0
            have p1 : wc.cell? ⟨g9, 1, none⟩ = some (.int .i64 P2) := o9.cell 1
            cases hm : mayB r (AL[k + 1]?.map (·.2)) wall
            · rw [hm, if_neg (by decide)] at hsa
              rw [hsa] at hPQ
              injection hPQ with e1 e2
              subst e1 e2
              have HS2 := Lib.hid (shS_no HX.out hm)
              clear hsa hm
              go_wp2
              go_roundw
              case rel => exact ⟨k + 1, by omega, by go_num, by rw [HS2.out]; exact HOC.out, BC⟩
              case measure => simp [intOf]; omega
            · rw [hm, if_pos rfl] at hsa
              rw [hsa] at hPQ
              have HS2 := Lib.hid (shS_yes HX.out hm)
              generalize hu : endO AL[k + 1]? = u at *
              injection hPQ with e1 e2
              subst e1 e2
              have hAk := HAk.out
              have hz0 : (u == 0) = false := by simp; omega
              have hz1 : (t == 0 && u == 0) = false := by rw [hz0, Bool.and_false]
              clear hsa hm hu
              generalize shS AL wall k = R at *
              have hRl : R.length ≤ 1099511627776 := by omega
              rcases List.eq_nil_or_concat R with rfl | ⟨m, q, rfl⟩
              · have hS3 := Lib.hid (HS2.out.trans (gst_nil (t, u)))
                have hgt := own_get HOC.out
                clear HS2
                rcases hgt with ⟨rfl, _⟩ | ⟨g, cc, rfl, hbg, hg, hnc, _⟩
                all_goals
                  go_wp2
                  (refine wp_region_after (by kernel_rfl) (by kernel_rfl) ?_; (repeat (go_big_quiet_step (fail))); refine wpQuiet_nil ?_; intro wq hw0; obtain ⟨⟨wq0, hbq⟩, hw1⟩ := hw0; subst hw1; (try dsimp only))
                  have zq := hbq.size
                  have HXq := Lib.hid (own_below HOC.out hbq)
                  have oN := Own.below o9 hbq L9
                  have n0 : wq.cell? ⟨g9, 0, none⟩ = some (.int .i64 t) := oN.cell 0
                  have n1 : wq.cell? ⟨g9, 1, none⟩ = some (.int .i64 u) := oN.cell 1
                  go_wp2_with (at_builtin; refine append_perG _ rfl _ _ rfl w4.heap.size _ [] rfl (World.ownsRow.alloc HXq.out _) ⟨wq.heap.size, 0, none⟩ t u rfl (cell_two _ _ _ _) ?_ ?_ ?_; (focus (simp)); (focus go_size); intro v1 w6 hown1 hb1)
                  go_roundw
                  case rel => exact ⟨k + 1, by omega, by go_num, by rw [hS3.out]; exact hown1, (BC.trans (hbq.mono (by omega))).trans (((Below.refl w4.heap.size wq).alloc (by omega) _).trans hb1)⟩
                  case measure => simp [intOf]; omega
              · rw [List.concat_eq_append] at *
                obtain ⟨x, y⟩ := q
                have hL := HLast.out (x, y) (by simp)
                dsimp only at hL
                have hadj := adj_last hL.1 hL.2.1 hL.2.2 hAk.2.1 hAk.2.2
                have hgt := own_get HOC.out
                rcases hgt with ⟨_, h0⟩ | ⟨g, cc, rfl, hbg, hg, hnc, hcell⟩
                · simp at h0
                · have hml : (m ++ [(x, y)]).length = m.length + 1 := by simp
                  obtain ⟨k0, k1⟩ := flatP_get (m ++ [(x, y)]) m.length (x, y) (by simp)
                  have d0 := hcell _ _ k0
                  have d1 := hcell _ _ k1
                  dsimp only at d0 d1
                  have HOV : Hid (wc.ownsRow w4.heap.size 49 2 (.slice (some ⟨g, 0, none⟩) (m.length + 1) cc) (m ++ [(x, y)]).length (flatP (m ++ [(x, y)]))) := Lib.hid (by
                    have h := HOC.out
                    rwa [show Value.slice (some ⟨g, 0, none⟩) (m ++ [(x, y)]).length cc = Value.slice (some ⟨g, 0, none⟩) (m.length + 1) cc by rw [hml]] at h)
                  rw [hml] at hRl hnc hle
                  rw [hml]
                  have i1 : IntKind.i64.wrap ((m.length : Int) + 1 - 1) = m.length := by rw [show (m.length : Int) + 1 - 1 = m.length by omega]; exact IntWalk.i64_in _ (by omega)
                  have i7 : IntKind.i64.wrap (m.length : Int) = m.length := IntWalk.i64_in _ (by omega)
                  have j2 : (0 : Int) ≤ (m.length : Int) := by omega
                  have j3 : (m.length : Int) < (m.length : Int) + 1 := by omega
                  have j4 : decide ((m.length : Int) ≥ 0) = true := by simp
                  clear hcell k0 k1 HOC hml hL HLast
                  have f0 : ∀ p : After wc, p.w.cell? ⟨g9, 0, none⟩ = some (.int .i64 t) := after_cell L9 p0
                  have f1 : ∀ p : After wc, p.w.cell? ⟨g9, 1, none⟩ = some (.int .i64 u) := after_cell L9 p1
                  have f2 : ∀ p : After wc, p.w.cell? ⟨g, m.length * 2, none⟩ = some (.int .i64 x) := after_cell hg d0
                  have f3 : ∀ p : After wc, p.w.cell? ⟨g, m.length * 2 + 1, none⟩ = some (.int .i64 y) := after_cell hg d1
                  by_cases hyt : y = t
                  · have hS3 := Lib.hid (HS2.out.trans (gst_glue hyt))
                    rw [decide_eq_true hyt] at hadj
                    clear HS2 hAk
                    subst hyt
                    have hAA := adjacent_any x y y u
                    rw [hadj] at hAA
                    clear hadj
                    go_wp2
                    (refine wp_region_after (by kernel_rfl) (by kernel_rfl) ?_; (repeat (go_big_quiet_step ((go_at_call 37; exact calls_after (hAA _))))); refine wpQuiet_nil ?_; intro wq hw0; obtain ⟨⟨wq0, hbq⟩, hw1⟩ := hw0; subst hw1; (try dsimp only))
                    have zq := hbq.size
                    have HXq := Lib.hid (own_below HOV.out hbq)
                    have oN := Own.below o9 hbq L9
                    have n0 : wq.cell? ⟨g9, 0, none⟩ = some (.int .i64 y) := oN.cell 0
                    have n1 : wq.cell? ⟨g9, 1, none⟩ = some (.int .i64 u) := oN.cell 1
                    have BQ : Below w4.heap.size w4 wq := BC.trans (hbq.mono (by omega))
                    have hml : (m ++ [(x, y)]).length = m.length + 1 := by simp
                    have HX2 : Hid (wq.ownsRow w4.heap.size 49 2 (.slice (some ⟨g, 0, none⟩) (m.length + 1) cc) (m.length + 1) (flatP (m ++ [(x, y)]))) := Lib.hid (by have h := HXq.out; rwa [hml] at h)
                    have q1 : wq.cell? ⟨g, m.length * 2 + 1, none⟩ = some (.int .i64 y) := f3 ⟨wq, hbq⟩
                    have fr := World.ownsRow.frozenAt HX2.out (m.length * 2 + 1)
                    have hst := Lib.hid (World.ownsRow.stored HX2.out (m.length * 2 + 1) (.int .i64 u))
                    clear f0 f1 f2 f3 hml
                    go_wp2
                    go_roundw
                    case rel => exact ⟨k + 1, by omega, by go_num, by rw [hS3.out, List.length_append, List.length_singleton, ← flatP_set m x y u]; exact hst.out.1, BQ.setCell (by show w4.heap.size ≤ g; omega) _⟩
                    case measure => simp [intOf]; omega
                  · have hS3 := Lib.hid (HS2.out.trans (gst_far hyt))
                    rw [decide_eq_false hyt] at hadj
                    have hAA := adjacent_any x y t u
                    rw [hadj] at hAA
                    clear hadj HS2 hAk
                    go_wp2
                    (refine wp_region_after (by kernel_rfl) (by kernel_rfl) ?_; (repeat (go_big_quiet_step ((go_at_call 37; exact calls_after (hAA _))))); refine wpQuiet_nil ?_; intro wq hw0; obtain ⟨⟨wq0, hbq⟩, hw1⟩ := hw0; subst hw1; (try dsimp only))
                    have zq := hbq.size
                    have HXq := Lib.hid (own_below HOV.out hbq)
                    have oN := Own.below o9 hbq L9
                    have n0 : wq.cell? ⟨g9, 0, none⟩ = some (.int .i64 t) := oN.cell 0
                    have n1 : wq.cell? ⟨g9, 1, none⟩ = some (.int .i64 u) := oN.cell 1
                    have BQ : Below w4.heap.size w4 wq := BC.trans (hbq.mono (by omega))
                    go_wp2_with (at_builtin; refine append_perG _ rfl _ _ rfl w4.heap.size _ (m ++ [(x, y)]) rfl (World.ownsRow.alloc HXq.out _) ⟨wq.heap.size, 0, none⟩ t u rfl (cell_two _ _ _ _) ?_ ?_ ?_; (focus (rw [List.length_append, List.length_singleton]; omega)); (focus go_size); intro v1 w6 hown1 hb1)
                    go_roundw
                    case rel => exact ⟨k + 1, by omega, by go_num, by rw [hS3.out]; exact hown1, BQ.trans (((Below.refl w4.heap.size wq).alloc (by omega) _).trans hb1)⟩
                    case measure => simp [intOf]; omega
        · have hT : k = l.length + 1 := by have := HAL.out; omega
          subst hT
          have hd : ¬ ((l.length + 1 : Nat) : Int) < AL.length := by have := HAL.out; omega
          have hle2 : (shS AL wall (l.length + 1)).length ≤ 9223372036854775807 := by omega
          clear HAL
          go_wp2
          go_ret
          exact ⟨_, rfl, (RdP.of_own HO.out hle2).more (Nat.le_refl _) z4, B4.trans (hbr.mono z4)⟩
  · rw [shL_bad h0]
    have hne : (chk 0 l != 0) = true := by simpa using h0
    generalize chk 0 l = ee at hc hne
    go_enter Try.func23, Try.ntmps23
    go_wp2_with fail
    refine hc.mono ?_
    rintro e w1 ⟨rfl, hb1⟩
    go_wp2
    go_ret
    exact ⟨_, rfl, RdP.nil _ _ _ _ _, hb1⟩
end Go.Proofs.Ytonhlejeedhpiaa
