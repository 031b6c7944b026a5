/-
  Contracts of Replay, of the program and of the reference: the stamps of successive readings, or the first error. Conditions: none.
-/
import Derived.Test.YtonhlejeedhpiaaCkS
import Derived.Test.YtonhlejeedhpiaaQui
import Derived.WalkKit
import Derived.WalkSpells
import Derived.WalkLawsBesides
import Derived.Deep.QuietTactic
import Derived.BigQuiet
import Derived.Handy
import Derived.Lib.Hide
namespace Go.Proofs.Ytonhlejeedhpiaa
open Go.RowKit

theorem infoStp : (Try.prog.info? 34).map (fun i => (i.zero, i.size, i.bytes)) = some (some (.agg #[.int .i64 0, .int .i64 0]), 2, 16) := by kernel_rfl
theorem append_st {ops : Array Oper} {rest : List Oper} {o : Oper} {a : Act} {Q : Exit → Act → World → Prop} (W : World) (hgd : o.guard = none) (s x : Operand)
    (ho : o.op = .call { callee := .builtin .append, args := #[s, x], argTypes := #[30, 30] }) (base : Nat) (v : Value) (l : List (Int × Int)) (hs : a.eval s = v)
    (hown : W.ownsRow base 34 2 v l.length (flatP l)) (ad : Addr) (c d : Int) (hx : a.eval x = .slice (some ad) 1 1)
    (hnew : ∀ j u, [Value.int .i64 c, Value.int .i64 d][j]? = some u → W.cell? (ad.add j) = some u) (hl : l.length ≤ 2199023255552) (hbase : base ≤ W.heap.size)
    (h : ∀ v' w', w'.ownsRow base 34 2 v' (l ++ [(c, d)]).length (flatP (l ++ [(c, d)])) → Below base W w' → W.grownBy w' v.ownBlock → wpList Try.prog ops Q rest (a.put o.dst v') w') :
    wpList Try.prog ops Q (o :: rest) a W := by
  obtain ⟨i0, hi, hz0, hz1, hz2⟩ := info_parts infoStp
  refine wpList_append_own _ hgd s x 30 ho base 34 i0 (.agg #[.int .i64 0, .int .i64 0]) 2 16 Try.underlying30 hi hz0 hz1 hz2 rfl (by decide) v l.length (flatP l) hs hown ad 1 1 [.int .i64 c, .int .i64 d] hx rfl
    hnew (fun u hu => by simp at hu; rcases hu with rfl | rfl <;> rfl) (by unfold maxLen; omega) (by omega) hbase ?_
  intro v' w' h1 h2 _
  refine h v' w' (by rw [flatP_snoc, List.length_append]; exact h1) ((Below.refl _ _).grown h2 hbase fun k hk => (hown.lt k hk).1) h2
theorem own_nilS (W : World) (base : Nat) : W.ownsRow base 34 2 (.slice none 0 0) ([] : List (Int × Int)).length (flatP []) := World.ownsRow_nil W base _ 2
theorem RdP.of_ownS {w : World} {base : Nat} {v : Value} {l : List (Int × Int)} (h : w.ownsRow base 34 2 v l.length (flatP l)) (hl : l.length ≤ 9223372036854775807) : RdP w base w.heap.size v l := by
  rcases own_get h with ⟨rfl, h0⟩ | ⟨g, c, rfl, hb, hg, _, hc⟩
  · obtain rfl := List.eq_nil_of_length_eq_zero h0
    exact RdP.nil _ _ _ _ _
  · refine ⟨_, c, rfl, hl, fun k p hk => ⟨_, rfl, hb, hg, ?_⟩⟩
    obtain ⟨h1, h2⟩ := flatP_get l k p hk
    rw [plain_add]
    exact ⟨hc _ _ h1, hc _ _ h2⟩
theorem cell_two (W : World) (x y : Value) (t : TypeId) : ∀ j u, [x, y][j]? = some u → (W.alloc (.cells #[x, y] t)).cell? ((⟨W.heap.size, 0, none⟩ : Addr).add j) = some u := by
  intro j u hu
  match j, hu with
  | 0, hu => simp at hu; subst hu; simp [Addr.add]
  | 1, hu => simp at hu; subst hu; simp [Addr.add]
  | j + 2, hu => simp at hu

theorem own_setCell {w : World} {base e size n : Nat} {v : Value} {xs : List Value} (h : w.ownsRow base e size v n xs) {p : Addr} (hp : p.block < base) (u : Value) : (w.setCell p u).ownsRow base e size v n xs := by
  refine ⟨h.1, ?_⟩
  rcases h.2 with h0 | ⟨g, cap, cur, hv, hb, hh, hr⟩
  · exact .inl h0
  · exact .inr ⟨g, cap, cur, hv, hb, (Below.heap_setCell w p u g (by omega)).trans hh, hr⟩
/-- What a replay returns. -/
def repL (l : List Int) : List (Int × Int) := if rpE 0 l = 0 then rpl 0 l else []
theorem repL_no {l : List Int} (h : ¬ rpE 0 l = 0) : repL l = [] := by unfold repL; rw [if_neg h]
theorem repL_ok {l : List Int} (h : rpE 0 l = 0) : repL l = rpl 0 l := by unfold repL; rw [if_pos h]
def RetRep (w : World) (l : List Int) (e : Ending) (w' : World) : Prop := ∃ v, e = .returned (.tuple #[v, .int .i64 (rpE 0 l)]) ∧ RdP w' w.heap.size w'.heap.size v (repL l) ∧ Below w.heap.size w w'
theorem ret_no {l : List Int} {w w' : World} {c : Int} (h : rpE 0 l = c) (hc : ¬ c = 0) (hb : Below w.heap.size w w') : RetRep w l (.returned (.tuple #[.slice none 0 0, .int .i64 c])) w' :=
  ⟨_, by rw [h], by rw [repL_no (by rw [h]; exact hc)]; exact RdP.nil _ _ _ _ _, hb⟩
theorem ret_yes {l : List Int} {w w' : World} {v : Value} (h : rpE 0 l = 0) (hr : RdP w' w.heap.size w'.heap.size v (rpl 0 l)) (hb : Below w.heap.size w w') : RetRep w l (.returned (.tuple #[v, .int .i64 0])) w' :=
  ⟨_, by rw [h], by rw [repL_ok h]; exact hr, hb⟩
/-- What holds before round k. -/
def RpS (l : List Int) (k : Nat) (x y : Int) : Prop := k ≤ l.length ∧ x = lstT 0 (l.take k) ∧ cok x y = true ∧ rpE x (l.drop k) = rpE 0 l
theorem RpS.start (l : List Int) : RpS l 0 0 0 := ⟨by omega, rfl, by decide, rfl⟩
theorem RpS.len {l : List Int} {k : Nat} {x y : Int} (h : RpS l k x y) : (rpl 0 (l.take k)).length ≤ 2199023255552 := by
  obtain ⟨h1, h2, h3, _⟩ := h
  have h4 := lstT_ge 0 (l.take k)
  rw [← h2] at h4
  have h5 := (cok_iff.1 h3).2.2
  rw [rpl_len]
  omega
theorem RpS.bad {l : List Int} {k : Nat} {x y r : Int} (h : RpS l k x y) (hr : l[k]? = some r) (hn : ¬ nxE x y r = 0) : rpE 0 l = nxE x y r := by
  obtain ⟨h1, h2, h3, h4⟩ := h
  rw [← h4]
  unfold nxE at hn ⊢
  rw [h3] at hn ⊢
  rw [if_neg (by decide)] at hn ⊢
  cases h5 : inst r
  · rw [if_pos rfl]; exact rpE_six hr h5
  · rw [h5, if_neg (by decide)] at hn
    rw [if_neg (by decide)]
    cases h6 : inst (nxT x r)
    · rw [if_pos rfl]; exact rpE_clk hr h5 h6
    · rw [h6] at hn; exact absurd rfl hn
theorem RpS.next {l : List Int} {k : Nat} {x y r : Int} (h : RpS l k x y) (hr : l[k]? = some r) (hn : nxE x y r = 0) : RpS l (k + 1) (nxT x r) r ∧ rpl 0 (l.take (k + 1)) = rpl 0 (l.take k) ++ [(nxT x r, r)] := by
  obtain ⟨h1, h2, h3, h4⟩ := h
  obtain ⟨_, h5, h6⟩ := nxE_zero.1 hn
  have hk := (List.getElem?_eq_some_iff.1 hr).1
  refine ⟨⟨by omega, ?_, cok_next h3 h5 h6, ?_⟩, ?_⟩
  · rw [lstT_step hr, h2]
  · rw [← h4]; exact (rpE_step hr h5 h6).symm
  · rw [rpl_step hr, h2]
theorem RpS.end {l : List Int} {k : Nat} {x y : Int} (h : RpS l k x y) (hk : l.length ≤ k) : rpE 0 l = 0 ∧ l.take k = l := ⟨by rw [← h.2.2.2]; exact rpE_end hk, List.take_of_length_le hk⟩

set_option maxRecDepth 100000 in
set_option maxHeartbeats 3200000 in
theorem pReplay_any (v : Value) (l : List Int) (w : World) (L : Nat) (hv : RdI w L w.heap.size v l) :
    Calls Try.prog 25 #[v] w (RetRep w l) := by
  have hv0 := hv
  obtain ⟨A, c, rfl, hlen, _⟩ := hv
  go_enter Try.func25, Try.ntmps25
  go_wp2
  have oW := Own.new w 23 #[.int .i64 0, .int .i64 0]
  have bW : Below w.heap.size w (w.alloc (.cells #[.int .i64 0, .int .i64 0] 23)) := (Below.refl _ _).alloc (Nat.le_refl _) _
  have zW := bW.size
  go_loopw [5, 13] (fun o i wr => ∃ (k : Nat) (x y : Int), Hid (RpS l k x y) ∧ i = .int .i64 k ∧ Own wr w.heap.size 23 #[.int .i64 x, .int .i64 y] ∧ wr.ownsRow (w.heap.size + 1) 34 2 o (rpl 0 (l.take k)).length (flatP (rpl 0 (l.take k))) ∧ Below w.heap.size w wr) (fun _ i _ => l.length - (intOf i).toNat)
  case atStart => exact ⟨0, 0, 0, Lib.hid (RpS.start l), rfl, oW, own_nilS _ _, bW⟩
  case round =>
    obtain ⟨k, x, y, hS, rfl, hO, hown, hbr⟩ := hrel
    clear oW bW zW
    have hbz := hbr.size
    have hgl := hO.lt
    have HO := Lib.hid hown
    clear hown
    have hll := hS.out.len
    have hkl : k ≤ l.length := hS.out.1
    have g0 : wr.cell? ⟨w.heap.size, 0, none⟩ = some (.int .i64 x) := hO.cell 0
    have g1 : wr.cell? ⟨w.heap.size, 1, none⟩ = some (.int .i64 y) := hO.cell 1
    by_cases hlt : k < l.length
    · have hx := List.getElem?_eq_getElem hlt
      generalize l[k] = r at hx
      obtain ⟨ad, rfl, _, hab, c0⟩ := (hv0.below hbr).at hx
      have i2 : (0 : Int) ≤ (k : Int) := by omega
      have i3 : (k : Int) < (l.length : Int) := by omega
      have hn := pNext_any x y r wr
      by_cases hz : nxE x y r = 0
      · rw [nxV_ok hz] at hn
        have HN := Lib.hid (hS.out.next hx hz)
        clear hz hx
        generalize nxT x r = nx at hn HN
        go_wp2_with fail
        refine hn.mono ?_
        rintro e w2 ⟨rfl, hb2⟩
        have z2 := hb2.size
        have o2 := (hO.below hb2 hgl).alloc (.cells #[.int .i64 nx, .int .i64 r] 23)
        have oN := Own.new w2 23 #[.int .i64 nx, .int .i64 r]
        have B2 : Below w.heap.size w (w2.alloc (.cells #[.int .i64 nx, .int .i64 r] 23)) := (hbr.trans (hb2.mono hbz)).alloc (by omega) _
        have HO2 := Lib.hid (World.ownsRow.alloc (own_below HO.out hb2) (.cells #[.int .i64 nx, .int .i64 r] 23))
        have hfar : ∀ q, Value.ownBlock u5 = some q → q ≠ w2.heap.size := fun q hq => by have := (HO.out.lt q hq).2; omega
        have HF := Lib.hid hfar
        have z3 : (w2.alloc (.cells #[.int .i64 nx, .int .i64 r] 23)).heap.size = w2.heap.size + 1 := by simp
        clear hfar HO hb2 hO g0 g1 c0
        go_wp2_with fail
        refine (pStamp_any _ _ _).mono ?_
        rintro e w3 ⟨rfl, hb3⟩
        have z4 := hb3.size
        have o3 := o2.below hb3 (by omega)
        have oN3 := oN.below hb3 (by omega)
        have B3 := B2.trans (hb3.mono (by omega))
        have HO3 := Lib.hid (own_below HO2.out hb3)
        clear o2 oN B2 HO2 hb3
        go_wp2_with (at_builtin; refine append_st _ rfl _ _ rfl (w.heap.size + 1) _ (rpl 0 (l.take k)) rfl (World.ownsRow.alloc HO3.out _) ⟨w3.heap.size, 0, none⟩ nx r rfl (cell_two _ _ _ _) ?_ ?_ ?_; (focus exact hll); (focus go_size); intro v3 w5 hown3 hb5 hg5; have o5 : Own w5 w.heap.size 23 #[.int .i64 x, .int .i64 y] := ((o3.alloc _).below hb5 (by omega)); have oN5 : Own w5 w2.heap.size 23 #[.int .i64 nx, .int .i64 r] := ((hg5.block _ (by simp; omega) (fun e => HF.out _ e.symm rfl)).trans (oN3.alloc _)); have z5 := (hb5.size); have B5 : Below w.heap.size w w5 := ((B3.alloc (by omega) _).trans (hb5.mono (by omega))); clear o3 oN3 B3 hb5 hg5; have g0 : w5.cell? ⟨w.heap.size, 0, none⟩ = some (.int .i64 x) := (o5.cell 0); have g1 : w5.cell? ⟨w.heap.size, 1, none⟩ = some (.int .i64 y) := (o5.cell 1); have e0 := (o5.free 0); have e1 := (o5.free 1); have n0 : w5.cell? ⟨w2.heap.size, 0, none⟩ = some (.int .i64 nx) := (oN5.cell 0); have n1 : w5.cell? ⟨w2.heap.size, 1, none⟩ = some (.int .i64 r) := (oN5.cell 1))
        go_roundw
        case rel => exact ⟨k + 1, nx, r, Lib.hid HN.out.1, by go_num, (o5.store 0 _).store 1 _, by rw [HN.out.2]; exact own_setCell (own_setCell hown3 (by simp) _) (by simp) _, by (repeat' (first | (with_reducible exact Below.refl _ _) | (with_reducible assumption) | (with_reducible refine Below.alloc ?_ ?_ _) | (with_reducible refine Below.drew ?_) | (with_reducible refine Below.setCell ?_ ?_ _) | (with_reducible refine Below.trans ?_ (Below.mono (by assumption) ?_)) | go_size))⟩
        case measure => simp [intOf]; omega
      · rw [nxV_no hz] at hn
        have hE := Lib.hid (hS.out.bad hx hz)
        generalize nxE x y r = ee at *
        clear hx
        have hne : (ee != 0) = true := by simpa using hz
        go_wp2_with fail
        refine hn.mono ?_
        rintro e w2 ⟨rfl, hb2⟩
        go_wp2
        go_ret2
        refine ret_no hE.out hz (hbr.trans ?_)
        have z2 := hb2.size
        have hb2 := hb2.mono hbz
        (repeat' (first | (with_reducible exact Below.refl _ _) | (with_reducible assumption) | (with_reducible refine Below.alloc ?_ ?_ _) | (with_reducible refine Below.drew ?_) | (with_reducible refine Below.setCell ?_ ?_ _) | (with_reducible refine Below.trans ?_ (Below.mono (by assumption) ?_)) | go_size))
    · obtain ⟨hE, hT⟩ := hS.out.end (by omega)
      rw [hT] at HO hll
      have hd : ¬ (k : Int) < l.length := by omega
      clear hT
      go_wp2
      go_ret2
      exact ret_yes hE ((RdP.of_ownS HO.out (by omega)).more (Nat.le_refl _) (by omega)) hbr
set_option maxRecDepth 100000 in
set_option maxHeartbeats 3200000 in
theorem rReplay_any (v : Value) (l : List Int) (w : World) (L : Nat) (hv : RdI w L w.heap.size v l) :
    Calls Try.prog 26 #[v] w (RetRep w l) := by
  have hv0 := hv
  obtain ⟨A, c, rfl, hlen, _⟩ := hv
  go_enter Try.func26, Try.ntmps26
  go_wp2
  have oW := Own.new w 23 #[.int .i64 0, .int .i64 0]
  have bW : Below w.heap.size w (w.alloc (.cells #[.int .i64 0, .int .i64 0] 23)) := (Below.refl _ _).alloc (Nat.le_refl _) _
  have zW := bW.size
  go_loopw [4, 14] (fun o i wr => ∃ (k : Nat) (x y : Int), Hid (RpS l k x y) ∧ i = .int .i64 k ∧ Own wr w.heap.size 23 #[.int .i64 x, .int .i64 y] ∧ wr.ownsRow (w.heap.size + 1) 34 2 o (rpl 0 (l.take k)).length (flatP (rpl 0 (l.take k))) ∧ Below w.heap.size w wr) (fun _ i _ => l.length - (intOf i).toNat)
  case atStart => exact ⟨0, 0, 0, Lib.hid (RpS.start l), rfl, oW, own_nilS _ _, bW⟩
  case round =>
    obtain ⟨k, x, y, hS, rfl, hO, hown, hbr⟩ := hrel
    clear oW bW zW
    have hbz := hbr.size
    have hgl := hO.lt
    have HO := Lib.hid hown
    clear hown
    have hll := hS.out.len
    have hkl : k ≤ l.length := hS.out.1
    have g0 : wr.cell? ⟨w.heap.size, 0, none⟩ = some (.int .i64 x) := hO.cell 0
    have g1 : wr.cell? ⟨w.heap.size, 1, none⟩ = some (.int .i64 y) := hO.cell 1
    by_cases hlt : k < l.length
    · have hx := List.getElem?_eq_getElem hlt
      generalize l[k] = r at hx
      obtain ⟨ad, rfl, _, hab, c0⟩ := (hv0.below hbr).at hx
      have i2 : (0 : Int) ≤ (k : Int) := by omega
      have i3 : (k : Int) < (l.length : Int) := by omega
      have hn := rNext_any x y r wr
      by_cases hz : nxE x y r = 0
      · rw [nxV_ok hz] at hn
        have HN := Lib.hid (hS.out.next hx hz)
        clear hz hx
        generalize nxT x r = nx at hn HN
        go_wp2_with fail
        refine hn.mono ?_
        rintro e w2 ⟨rfl, hb2⟩
        have z2 := hb2.size
        have o2 := (hO.below hb2 hgl).alloc (.cells #[.int .i64 nx, .int .i64 r] 23)
        have oN := Own.new w2 23 #[.int .i64 nx, .int .i64 r]
        have B2 : Below w.heap.size w (w2.alloc (.cells #[.int .i64 nx, .int .i64 r] 23)) := (hbr.trans (hb2.mono hbz)).alloc (by omega) _
        have HO2 := Lib.hid (World.ownsRow.alloc (own_below HO.out hb2) (.cells #[.int .i64 nx, .int .i64 r] 23))
        have z3 : (w2.alloc (.cells #[.int .i64 nx, .int .i64 r] 23)).heap.size = w2.heap.size + 1 := by simp
        clear HO hb2 hO g0 g1 c0
        have g0 : (w2.alloc (.cells #[.int .i64 nx, .int .i64 r] 23)).cell? ⟨w.heap.size, 0, none⟩ = some (.int .i64 x) := o2.cell 0
        have g1 : (w2.alloc (.cells #[.int .i64 nx, .int .i64 r] 23)).cell? ⟨w.heap.size, 1, none⟩ = some (.int .i64 y) := o2.cell 1
        have e0 := o2.free 0
        have e1 := o2.free 1
        have n0 : (w2.alloc (.cells #[.int .i64 nx, .int .i64 r] 23)).cell? ⟨w2.heap.size, 0, none⟩ = some (.int .i64 nx) := oN.cell 0
        have n1 : (w2.alloc (.cells #[.int .i64 nx, .int .i64 r] 23)).cell? ⟨w2.heap.size, 1, none⟩ = some (.int .i64 r) := oN.cell 1
        have o3 : Own (((w2.alloc (.cells #[.int .i64 nx, .int .i64 r] 23)).setCell ⟨w.heap.size, 0, none⟩ (.int .i64 nx)).setCell ⟨w.heap.size, 1, none⟩ (.int .i64 r)) w.heap.size 23 #[.int .i64 nx, .int .i64 r] := (o2.store 0 _).store 1 _
        have B3 : Below w.heap.size w (((w2.alloc (.cells #[.int .i64 nx, .int .i64 r] 23)).setCell ⟨w.heap.size, 0, none⟩ (.int .i64 nx)).setCell ⟨w.heap.size, 1, none⟩ (.int .i64 r)) := (B2.setCell (Nat.le_refl _) _).setCell (Nat.le_refl _) _
        have HO3 := Lib.hid (own_setCell (own_setCell HO2.out (p := ⟨w.heap.size, 0, none⟩) (by simp) (.int .i64 nx)) (p := ⟨w.heap.size, 1, none⟩) (by simp) (.int .i64 r))
        clear o2 oN B2 HO2
        generalize hW3 : (((w2.alloc (.cells #[.int .i64 nx, .int .i64 r] 23)).setCell ⟨w.heap.size, 0, none⟩ (.int .i64 nx)).setCell ⟨w.heap.size, 1, none⟩ (.int .i64 r)) = W3 at o3 B3 HO3
        have zW3 : W3.heap.size = w2.heap.size + 1 := by rw [← hW3]; simp
        have hnS : ∀ j u, [Value.int .i64 nx, Value.int .i64 r][j]? = some u → (W3.alloc (.cells #[.int .i64 nx, .int .i64 r] 34)).cell? ((⟨w2.heap.size + 1, 0, none⟩ : Addr).add j) = some u := by rw [← zW3]; exact cell_two _ _ _ _
        go_wp2_with (at_builtin; refine append_st _ rfl _ _ rfl (w.heap.size + 1) _ (rpl 0 (l.take k)) rfl (World.ownsRow.alloc HO3.out _) ⟨w2.heap.size + 1, 0, none⟩ nx r rfl hnS ?_ ?_ ?_; (focus exact hll); (focus go_size); intro v3 w5 hown3 hb5 hg5; have o5 : Own w5 w.heap.size 23 #[.int .i64 nx, .int .i64 r] := ((o3.alloc _).below hb5 (by omega)); have z5 := (hb5.size); have B5 : Below w.heap.size w w5 := ((B3.alloc (by omega) _).trans (hb5.mono (by omega))))
        go_roundw
        case rel => exact ⟨k + 1, nx, r, Lib.hid HN.out.1, by go_num, o5, by rw [HN.out.2]; exact hown3, B5⟩
        case measure => simp [intOf]; omega
      · rw [nxV_no hz] at hn
        have hE := Lib.hid (hS.out.bad hx hz)
        generalize nxE x y r = ee at *
        clear hx
        have hne : (ee != 0) = true := by simpa using hz
        go_wp2_with fail
        refine hn.mono ?_
        rintro e w2 ⟨rfl, hb2⟩
        go_wp2
        go_ret2
        refine ret_no hE.out hz (hbr.trans ?_)
        have z2 := hb2.size
        have hb2 := hb2.mono hbz
        (repeat' (first | (with_reducible exact Below.refl _ _) | (with_reducible assumption) | (with_reducible refine Below.alloc ?_ ?_ _) | (with_reducible refine Below.drew ?_) | (with_reducible refine Below.setCell ?_ ?_ _) | (with_reducible refine Below.trans ?_ (Below.mono (by assumption) ?_)) | go_size))
    · obtain ⟨hE, hT⟩ := hS.out.end (by omega)
      rw [hT] at HO hll
      have hd : ¬ (k : Int) < l.length := by omega
      clear hT
      go_wp2
      go_ret2
      exact ret_yes hE ((RdP.of_ownS HO.out (by omega)).more (Nat.le_refl _) (by omega)) hbr
end Go.Proofs.Ytonhlejeedhpiaa
