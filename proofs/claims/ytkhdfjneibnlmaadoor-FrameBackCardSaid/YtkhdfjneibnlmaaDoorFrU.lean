/-
  appended of the statements: the frames of bodies one behind the other, and the offsets after each. Conditions: lengths; the table lies as the rows say.
-/
import Derived.Test.YtkhdfjneibnlmaaDoorFrL
import Derived.Test.YtkhdfjneibnlmaaDoorFrG
import Derived.Deep.AppendLies
import Derived.OwnWalk
import Derived.WalkKit
import Derived.WalkSpells
import Derived.WalkLawsBesides
import Derived.Deep.QuietTactic
import Derived.BigQuiet
import Derived.Handy
import Derived.Lib.Hide
namespace Go.Proofs.YtkhdfjneibnlmaaDoor
open Go.RowKit

/-- A slice of slices of bytes that came in: a nil slice has no room. -/
def RdZ (w : World) (v : Value) (ms : List (List UInt8)) : Prop :=
  ∃ A c, v = .slice A ms.length c ∧ (ms.length ≤ 9223372036854775807 ∧ ms.length ≤ c) ∧ ∀ (k : Nat) (p : List UInt8), ms[k]? = some p → ∃ (ad : Addr) (u : Value), A = some ad ∧ w.cell? (ad.add k) = some u ∧ RdB w 0 w.heap.size u p ∧ ∀ n c, u = .slice none n c → c = 0
theorem RdZ.step {w w' : World} {v : Value} {ms : List (List UInt8)} (h : RdZ w v ms) (hb : Below w.heap.size w w') : RdZ w' v ms := by
  obtain ⟨A, c, hv, hl, hx⟩ := h
  refine ⟨A, c, hv, hl, fun k p hk => ?_⟩
  obtain ⟨ad, u, h1, h2, h3, h4⟩ := hx k p hk
  exact ⟨ad, u, h1, (hb.cell (cell_ltB h2)).trans h2, h3.step hb (Nat.le_refl _), h4⟩
theorem RdZ.rd {w : World} {v : Value} {ms : List (List UInt8)} (h : RdZ w v ms) : RdS w 0 w.heap.size v ms := by
  obtain ⟨A, c, hv, hl, hx⟩ := h
  exact ⟨A, c, hv, hl.1, fun k p hk => let ⟨ad, u, h1, h2, h3, _⟩ := hx k p hk; ⟨ad, u, h1, h2, h3⟩⟩
/-- The offsets after the first k frames. -/
def endsV (ms : List (List UInt8)) (k : Nat) : List Value := (List.range k).map fun i => .int .i64 ((encs (ms.take (i + 1))).length : Nat)
theorem endsV_len (ms : List (List UInt8)) (k : Nat) : (endsV ms k).length = k := by unfold endsV; rw [List.length_map, List.length_range]
theorem endsV_succ (ms : List (List UInt8)) (k : Nat) : endsV ms (k + 1) = endsV ms k ++ [.int .i64 ((encs (ms.take (k + 1))).length : Nat)] := by unfold endsV; rw [List.range_succ, List.map_append]; rfl
theorem infoI : (Tryd.prog.info? 3).map (fun i => (i.zero, i.size, i.bytes)) = some (some (.int .i64 0), 1, 8) := by kernel_rfl
theorem append_e {ops : Array Oper} {rest : List Oper} {o : Oper} {a : Act} {Q : Exit → Act → World → Prop} (W : World) (hgd : o.guard = none) (s x : Operand)
    (ho : o.op = .call { callee := .builtin .append, args := #[s, x], argTypes := #[41, 41] }) (base : Nat) (v : Value) (k : Nat) (xs : List Value) (hs : a.eval s = v)
    (hown : W.ownsRow base 3 1 v k xs) (h0 c : Nat) (n : Int) (hx : a.eval x = .slice (some ⟨h0, 0, none⟩) 1 c) (hcell : W.cell? ⟨h0, 0, none⟩ = some (.int .i64 n)) (hl : k ≤ 1000000) (hbase : base ≤ W.heap.size)
    (h : ∀ v' w', w'.ownsRow base 3 1 v' (k + 1) (xs ++ [.int .i64 n]) → Below base W w' → W.grownBy w' v.ownBlock → (∀ g, v'.ownBlock = some g → v.ownBlock = some g ∨ g = W.heap.size) → wpList Tryd.prog ops Q rest (a.put o.dst v') w') :
    wpList Tryd.prog ops Q (o :: rest) a W := by
  obtain ⟨i0, hi, hz0, hz1, hz2⟩ := info_partsB infoI
  refine wpList_append_lies W hgd s x 41 ho base 3 i0 (.int .i64 0) 1 8 Tryd.underlying41 hi hz0 hz1 hz2 rfl (by decide) v k xs hs hown ⟨h0, 0, none⟩ 1 c [.int .i64 n] hx rfl
    ?_ (fun u hu => by simp at hu; subst hu; rfl) (by decide) (by unfold maxLen; omega) (by omega) hbase W.heap.size rfl ?_
  · intro j u hj
    have hj0 : j = 0 := by have := (List.getElem?_eq_some_iff.1 hj).1; simp at this; omega
    subst hj0
    have hv : Value.int .i64 n = u := by simpa using hj
    subst hv
    exact hcell
  · intro g cap w' h1 h2 h3 _
    exact h _ _ h1 ((Below.refl _ _).grown h2 hbase fun k hk => (hown.lt k hk).1) h2 (fun g' hg' => by
      have : g = g' := Option.some.inj hg'
      subst this
      exact h3)
theorem fa_old {w : World} {L B g : Nat} {u : Value} {m : List UInt8} (h : RdB w L B u m) (hg : B ≤ g) : Fa g u := by
  obtain ⟨A, c, rfl, _, _, hx⟩ := h
  intro ad n c' e
  injection e with e1 e2 e3
  subst e1 e2
  cases m with
  | nil => exact .inl rfl
  | cons b t =>
    obtain ⟨ad2, e4, _, h2, _⟩ := hx 0 b rfl
    injection e4 with e4; subst e4
    exact .inr (by omega)
set_option maxRecDepth 100000 in
set_option maxHeartbeats 6400000 in
theorem appended_any (v : Value) (ms : List (List UInt8)) (w : World) (henv : Env w) (hv : RdZ w v ms) (hm : ∀ m ∈ ms, m.length ≤ 1048576) (hn : ms.length ≤ 1000000) (hE : (encs ms).length ≤ 1000000) :
    Calls Tryd.prog 23 #[v] w fun e w' => ∃ vb ve, e = .returned (.tuple #[vb, ve, .bool true]) ∧ RdB w' 0 w'.heap.size vb (encs ms) ∧ w'.ownsRow w.heap.size 3 1 ve ms.length (endsV ms ms.length) ∧ Below w.heap.size w w' := by
  have hv0 := hv
  obtain ⟨A, c, rfl, ⟨hl63, _⟩, hc⟩ := hv
  have HC := Lib.hid hc
  clear hc hv0
  go_enter Tryd.func23, Tryd.ntmps23
  go_wp2
  go_loopw [5, 6, 13] (fun vo ve i wr => ∃ k : Nat, k ≤ ms.length ∧ i = .int .i64 k ∧ Hid (RdB wr 0 wr.heap.size vo (encs (ms.take k))) ∧ Hid (wr.ownsRow w.heap.size 3 1 ve k (endsV ms k)) ∧ Hid (∀ g, ve.ownBlock = some g → Fa g vo) ∧ Below w.heap.size w wr) (fun _ _ i _ => ms.length - (intOf i).toNat)
  case atStart => exact ⟨0, Nat.zero_le _, rfl, Lib.hid (rdB_nil _ _ _), Lib.hid (World.ownsRow_nil _ _ _ 1), Lib.hid (fun g h => by cases h), Below.refl _ _⟩
  case round =>
    obtain ⟨k, hk, rfl, HO, HE, HF, hbr⟩ := hrel
    have hbz := hbr.size
    by_cases hlt : k < ms.length
    · have hki : (k : Int) < ms.length := by omega
      have hmk := hm _ (List.getElem_mem hlt)
      obtain ⟨ad, u, rfl, c1, r1, n1⟩ := HC.out k _ (List.getElem?_eq_getElem hlt)
      have hen := encs_succ ms k hlt
      have hle := encs_mono ms (k + 1) ms.length (by omega)
      rw [List.take_of_length_le (Nat.le_refl ms.length)] at hle
      have hle2 := encs_mono ms k (k + 1) (by omega)
      have hp := pAppend_any _ u _ ms[k] wr 0 0 (henv.step hbr) HO.out (r1.step hbr (Nat.le_refl _)) (by omega) hmk n1
      rw [frmL_enc, ← hen] at hp
      have HP := Lib.hid hp
      have hcw : wr.cell? (ad.add k) = some u := (hbr.cell (cell_ltB c1)).trans c1
      have HS := Lib.hid (endsV_succ ms k)
      have hLs : (encs (ms.take (k + 1))).length ≤ 1000000 := by omega
      generalize hnx : encs (ms.take (k + 1)) = nx at *
      have HNX := Lib.hid hnx
      obtain ⟨A2, c2, hu2⟩ : ∃ A2 c2, u = .slice A2 (ms[k]).length c2 := by obtain ⟨A2, c2, h, _⟩ := r1; exact ⟨A2, c2, h⟩
      subst hu2
      have HLS := Lib.hid hLs
      clear hp hen hle hle2 r1 n1 c1 hmk hLs hnx
      go_wp2_with fail
      with_reducible refine HP.out.mono ?_
      clear HP
      rintro e w1 ⟨v1, rfl, ho1, hb1⟩
      have B1 := hbr.trans (hb1.mono hbz)
      have z1 := B1.size
      have hb1z := hb1.size
      have hr1 := RdB.of_own ho1 (by have := HLS.out; omega)
      have hv1 := ho1.2
      obtain ⟨A3, c3, hv3⟩ : ∃ A3 c3, v1 = .slice A3 nx.length c3 := by obtain ⟨A3, c3, h, _⟩ := hr1; exact ⟨A3, c3, h⟩
      subst hv3
      have HE1 := Lib.hid (own_below HE.out hb1)
      have hflt : ∀ g, _ = some g → g < wr.heap.size := fun g hg => (HE.out.lt g hg).2
      have HFL := Lib.hid hflt
      have b2 := (Below.refl w1.heap.size w1).alloc (Nat.le_refl _) (.cells #[.int .i64 (nx.length : Nat)] 3)
      have z2 := b2.size
      have HE2 := Lib.hid (own_below HE1.out b2)
      have HR1 := Lib.hid hr1
      have HR2 := Lib.hid ((hr1.more (Nat.le_refl _) (Nat.zero_le _)).step b2 (Nat.le_refl _))
      have HCU := Lib.hid (show (w1.alloc (.cells #[.int .i64 (nx.length : Nat)] 3)).cell? ⟨w1.heap.size, 0, none⟩ = some (.int .i64 (nx.length : Nat)) from (Own.new w1 3 #[.int .i64 (nx.length : Nat)]).cell 0)
      clear hr1 hflt ho1 HE HE1 HF HO hv1 hcw
      go_wp2_with (at_builtin; refine append_e _ rfl _ _ rfl w.heap.size _ k (endsV ms k) rfl HE2.out w1.heap.size 1 (nx.length : Nat) rfl HCU.out (by omega) (Nat.le_trans z1 z2) ?_; intro v4 w4 ho4 hb4 hg4 hl4)
      have B4 := B1.trans ((b2.mono z1).trans hb4)
      have hr4 := rdB_grown hg4 HR2.out (fun g hg => fa_new HR1.out (HFL.out g hg))
      go_round
      case rel => exact ⟨k + 1, by omega, by go_num, Lib.hid (by rw [HNX.out]; exact hr4), Lib.hid (by rw [HS.out]; exact ho4), Lib.hid (fun g hg => by
        rcases hl4 g hg with h5 | h5
        · exact fa_new HR1.out (HFL.out g h5)
        · exact fa_old HR2.out (by omega)), B4⟩
      case measure => simp [intOf]; omega
    · have hki : ¬ (k : Int) < ms.length := by omega
      have hkk : k = ms.length := by omega
      subst hkk
      rw [List.take_of_length_le (Nat.le_refl _)] at HO
      go_wp2
      go_ret3
      exact ⟨_, _, rfl, HO.out, HE.out, hbr⟩
end Go.Proofs.YtkhdfjneibnlmaaDoor
