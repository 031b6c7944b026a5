import Derived.Test.YteihjneeiojgaaaMT
import Derived.Test.YteihjneeiojgaaaQS
import Derived.WalkKit
import Derived.WalkSpells
import Derived.WalkLawsBesides
import Derived.Deep.QuietTactic
import Derived.BigQuiet
import Derived.Handy
import Derived.Lib.Hide
import Derived.ArgAppend
/-
  The kind that results from several kinds: the program's common, the reference's Join and all. Conditions: none.
-/
namespace Go.Proofs.Yteihjneeiojgaaa
set_option maxRecDepth 100000
set_option linter.unusedVariables false
set_option linter.unusedSimpArgs false
open Go.RowKit

def joinK : Int → List Int → Option Int
  | r, [] => some r
  | r, k :: l => if k = 0 then joinK r l else if r ≠ 0 ∧ k ≠ r then none else joinK k l
def kRes (o : Option Int) : Value := .tuple #[.int .i64 (o.getD 0), .bool o.isSome]
def allK (kd : Int) (l : List Int) : Bool := l.all fun z => z == kd || z == 0
theorem allK_drop (kd : Int) (zs : List Int) (k : Nat) (z : Int) (hz : zs[k]? = some z) : allK kd (zs.drop k) = ((z == kd || z == 0) && allK kd (zs.drop (k + 1))) := by
  obtain ⟨h1, rfl⟩ := List.getElem?_eq_some_iff.1 hz
  rw [List.drop_eq_getElem_cons h1]
  rfl
theorem joinK_drop (r : Int) (zs : List Int) (k : Nat) (z : Int) (hz : zs[k]? = some z) : joinK r (zs.drop k) = if z = 0 then joinK r (zs.drop (k + 1)) else if r ≠ 0 ∧ z ≠ r then none else joinK z (zs.drop (k + 1)) := by
  obtain ⟨h1, rfl⟩ := List.getElem?_eq_some_iff.1 hz
  rw [List.drop_eq_getElem_cons h1]
  rfl
theorem joinK_end (r : Int) (zs : List Int) (k : Nat) (h : ¬ k < zs.length) : joinK r (zs.drop k) = some r := by
  rw [List.drop_eq_nil_of_le (by omega)]; rfl
set_option maxRecDepth 100000 in
set_option maxHeartbeats 6400000 in
theorem pCommon_any (v : Value) (zs : List Int) (w : World) (L : Nat) (hv : RdI w L w.heap.size v zs) :
    Calls Try.prog 80 #[v] w fun e w' => e = .returned (kRes (joinK 0 zs)) ∧ Below w.heap.size w w' := by
  obtain ⟨A, c, rfl, hl, hc⟩ := hv
  have HC := Lib.hid hc
  clear hc
  go_enter Try.func80, Try.ntmps80
  go_wp2
  go_loopw [4, 6, 9] (fun r _ i wr => ∃ (k : Nat) (q : Int), k ≤ zs.length ∧ i = .int .i64 k ∧ r = .int .i64 q ∧ Hid (joinK 0 zs = joinK q (zs.drop k)) ∧ Below w.heap.size w wr) (fun _ _ i _ => zs.length - (intOf i).toNat)
  case atStart => exact ⟨0, 0, Nat.zero_le _, rfl, rfl, Lib.hid rfl, Below.refl _ _⟩
  case round =>
    obtain ⟨k, q, hk, rfl, rfl, HR, hbr⟩ := hrel
    have hbz := hbr.size
    by_cases hlt : k < zs.length
    · have hki : (k : Int) < zs.length := by omega
      obtain ⟨ad, rfl, _, hab, c0⟩ := HC.out k _ (List.getElem?_eq_getElem hlt)
      have d0 := (hbr.cell (p := ad.add k) (by rw [add_block]; exact hab)).trans c0
      have hj := joinK_drop q zs k _ (List.getElem?_eq_getElem hlt)
      rw [← HR.out] at hj
      have HJ := Lib.hid hj
      clear hj c0 HR
      generalize zs[k] = z at *
      by_cases z0 : z = 0
      · subst z0
        have HF := Lib.hid (by simpa using HJ.out : joinK 0 zs = joinK q (zs.drop (k + 1)))
        clear HJ
        go_wp2
        go_round
        case rel => exact ⟨k + 1, q, by omega, by go_num, rfl, HF, hbr⟩
        case measure => simp [intOf]; omega
      · by_cases q0 : q = 0
        · subst q0
          have HF := Lib.hid (by have := HJ.out; rw [if_neg z0, if_neg (by simp)] at this; exact this : joinK 0 zs = joinK z (zs.drop (k + 1)))
          clear HJ
          go_wp2
          go_round
          case rel => exact ⟨k + 1, z, by omega, by go_num, rfl, HF, hbr⟩
          case measure => simp [intOf]; omega
        · have e1 : (q != 0) = true := by simp [q0]
          by_cases qz : z = q
          · subst qz
            have e2 : (z != z) = false := by simp
            have HF := Lib.hid (by have := HJ.out; rw [if_neg z0, if_neg (by simp)] at this; exact this : joinK 0 zs = joinK z (zs.drop (k + 1)))
            clear HJ
            go_wp2
            go_round
            case rel => exact ⟨k + 1, z, by omega, by go_num, rfl, HF, hbr⟩
            case measure => simp [intOf]; omega
          · have e2 : (z != q) = true := by simp [qz]
            have HF := Lib.hid (by have := HJ.out; rw [if_neg z0, if_pos ⟨q0, qz⟩] at this; exact this : joinK 0 zs = none)
            clear HJ qz
            go_wp2
            go_ret2
            exact ⟨by rw [HF.out]; rfl, hbr⟩
    · have hki : ¬ (k : Int) < zs.length := by omega
      have HF := Lib.hid (HR.out.trans (joinK_end _ _ _ hlt))
      clear HR
      go_wp2
      go_ret2
      exact ⟨by rw [HF.out]; rfl, hbr⟩
end Go.Proofs.Yteihjneeiojgaaa
/-
  The kind of a result, by the program: resultKind. Conditions: lengths.
-/
namespace Go.Proofs.Yteihjneeiojgaaa
set_option maxRecDepth 100000
set_option linter.unusedVariables false
set_option linter.unusedSimpArgs false
open Go.RowKit

/-- What an operator makes of arguments of these kinds, and the error. -/
def resK (op : Int) (zs : List Int) : Int × Int :=
  if op = 22 ∧ joinK 0 [zs.headD 0, 3] = none then (0, 7) else
  match joinK 0 ((if op = 22 then zs.drop 1 else zs) ++ [opAr op]) with
  | none => (0, 7)
  | some k => if opRs op = 0 then (k, 0) else (opRs op, 0)
def resV (p : Int × Int) : Value := .tuple #[.int .i64 p.1, .int .i64 p.2]
theorem append_full {ops : Array Oper} {rest : List Oper} {o : Oper} {a : Act} {Q : Exit → Act → World → Prop} (W : World) (hgd : o.guard = none) (s x : Operand)
    (ho : o.op = .call { callee := .builtin .append, args := #[s, x], argTypes := #[23, 23] }) (A : Option Addr) (zs : List Int) (L : Nat) (hs : a.eval s = .slice A zs.length zs.length)
    (hr : RdI W L W.heap.size (.slice A zs.length zs.length) zs) (h0 c : Nat) (z : Int) (hx : a.eval x = .slice (some ⟨h0, 0, none⟩) 1 c) (hcell : W.cell? ⟨h0, 0, none⟩ = some (.int .i64 z))
    (hl : zs.length ≤ 1099511627776)
    (h : ∀ v' w', RdI w' W.heap.size w'.heap.size v' (zs ++ [z]) → Below W.heap.size W w' → wpList Try.prog ops Q rest (a.put o.dst v') w') :
    wpList Try.prog ops Q (o :: rest) a W := by
  obtain ⟨i0, hi, hz0, hz1, hz2⟩ := info_partsB infoI13
  obtain ⟨A', c', hv, _, hc⟩ := hr
  injection hv with e1 e2 e3
  subst e1
  refine wpList_append_grows (P := Try.prog) W hgd s x 23 ho 3 i0 (.int .i64 0) 1 8 Try.underlying23 hi hz0 hz1 hz2 rfl (by decide) A zs.length zs.length (zs.map (Value.int .i64)) hs ?_ (by simp) ?_ ⟨h0, 0, none⟩ 1 c [.int .i64 z] hx rfl ?_ ?_ (by omega) (by unfold maxLen; omega) (by omega) ?_
  · intro hA
    rcases zs with _ | ⟨z1, l⟩
    · exact ⟨rfl, rfl⟩
    · obtain ⟨ad, h1, _⟩ := hc 0 z1 rfl
      rw [hA] at h1; cases h1
  · intro b hb j u hj
    rw [List.getElem?_map] at hj
    cases hz : zs[j]? with
    | none => rw [hz] at hj; cases hj
    | some q =>
      rw [hz] at hj
      simp only [Option.map_some, Option.some.injEq] at hj
      obtain ⟨ad, h1, _, _, h4⟩ := hc j q hz
      rw [hb] at h1
      injection h1 with h1
      subst h1
      rw [h4, hj]
  · intro j v hj
    have hj0 : j = 0 := by have := (List.getElem?_eq_some_iff.1 hj).1; simp at this; omega
    subst hj0
    have hv : Value.int .i64 z = v := by simpa using hj
    subst hv
    exact hcell
  · intro v hv
    simp at hv
    subst hv
    rfl
  · intro v' w' h1 h2
    refine h v' w' ?_ ((Below.refl _ _).grown h2 (Nat.le_refl _) (fun k hk => by cases hk))
    have e : zs.map (Value.int .i64) ++ [Value.int .i64 z] = (zs ++ [z]).map (Value.int .i64) := by simp
    rw [e, show zs.length + 1 = (zs ++ [z]).length by simp] at h1
    have h2 := h1
    rcases h1.2 with ⟨rfl, h0⟩ | ⟨g, cap, cur, rfl, hb, _⟩
    · simp at h0
    · exact ⟨some ⟨g, 0, none⟩, cap, rfl, by simp; omega, fun k q hk => ⟨⟨g, 0, none⟩, rfl, hb, (h2.lt g rfl).2, World.ownsRow.cells h2 rfl k _ (by rw [List.getElem?_map, hk]; rfl)⟩⟩
theorem rdI_two (w : World) (a b : Int) : RdI (w.alloc (.cells #[.int .i64 a, .int .i64 b] 3)) 0 (w.alloc (.cells #[.int .i64 a, .int .i64 b] 3)).heap.size (.slice (some ⟨w.heap.size, 0, none⟩) 2 2) [a, b] := by
  refine ⟨_, _, rfl, by simp, fun k z hk => ⟨_, rfl, Nat.zero_le _, by simp, ?_⟩⟩
  rw [addZ13, (Own.new w 3 #[.int .i64 a, .int .i64 b]).cell k]
  rcases k with _ | _ | k <;> simp at hk ⊢ <;> exact hk
theorem shape_cells {w : World} {a b d r : Value} {o : Obj} : ((w.alloc (.cells #[a, b, d, r] 96)).alloc o).cell? ⟨w.heap.size, 3, none⟩ = some r := ((Own.new w 96 #[a, b, d, r]).alloc o).cell 3
/-- What is left of the function behind its test of a condition. -/
def resT (d r : Int) (zs : List Int) : Int × Int :=
  match joinK 0 (zs ++ [d]) with
  | none => (0, 7)
  | some k => if r = 0 then (k, 0) else (r, 0)
set_option maxRecDepth 100000 in
set_option maxHeartbeats 6400000 in
theorem pResK_any (op : Int) (A : Option Addr) (zs : List Int) (w : World) (L : Nat) (o : ¬ op = 22) (hl : zs.length ≤ 1099511627776) (hv : RdI w L w.heap.size (.slice A zs.length zs.length) zs) :
    Calls Try.prog 72 #[.int .i64 op, .slice A zs.length zs.length] w fun e w' => e = .returned (resV (resT (opAr op) (opRs op) zs)) ∧ Below w.heap.size w w' := by
  have hS := fun W => pShape_any op W
  have HS := Lib.hid hS
  have HV := Lib.hid hv
  generalize opLo op = a at *
  generalize opHi op = b at *
  generalize opAr op = d at *
  generalize opRs op = r at *
  generalize knw op = kn at *
  clear hS hv
  unfold resT
  cases hj : joinK 0 (zs ++ [d])
  · have HC := Lib.hid (show ∀ (v : Value) (W : World) (L : Nat), RdI W L W.heap.size v (zs ++ [d]) → Calls Try.prog 80 #[v] W fun e w' => e = .returned (.tuple #[.int .i64 0, .bool false]) ∧ Below W.heap.size W w' from fun v W L h => by have h2 := pCommon_any v _ W L h; rw [hj] at h2; exact h2)
    dsimp only
    unfold resV
    clear hj
    go_enter Try.func72, Try.ntmps72
    go_wp2_with fail
    with_reducible refine (HS.out _).mono ?_
    rintro e w1 ⟨rfl, hb1⟩
    have bX := bel_mk w1 (.cells #[.int .i64 a, .int .i64 b, .int .i64 d, .int .i64 r] 96)
    have bY := bel_mk (w1.alloc (.cells #[.int .i64 a, .int .i64 b, .int .i64 d, .int .i64 r] 96)) (.cells #[.int .i64 d] 3)
    have bXY := hb1.trans ((bX.trans (bY.mono bX.size)).mono hb1.size)
    have RX := HV.out.step bXY (Nat.le_refl _)
    have cD : ((w1.alloc (.cells #[.int .i64 a, .int .i64 b, .int .i64 d, .int .i64 r] 96)).alloc (.cells #[.int .i64 d] 3)).cell? ⟨w1.heap.size + 1, 0, none⟩ = some (.int .i64 d) := by
      have h := (Own.new (w1.alloc (.cells #[.int .i64 a, .int .i64 b, .int .i64 d, .int .i64 r] 96)) 3 #[.int .i64 d]).cell 0
      rw [World.size_alloc] at h; exact h
    have HRX := Lib.hid RX
    have HCD := Lib.hid cD
    have HBXY := Lib.hid bXY
    have hz := bXY.size
    clear hb1 bX bY bXY RX cD
    go_wp2_with (first | (at_builtin; refine append_full _ rfl _ _ rfl A zs L rfl HRX.out (w1.heap.size + 1) 1 d rfl HCD.out hl ?_; intro v2 w2 hr2 hb2) | (go_at_call 80; refine (HC.out _ _ _ hr2).mono ?_; rintro e w3 ⟨rfl, hb3⟩))
    go_ret2
    exact ⟨rfl, HBXY.out.trans ((hb2.trans (hb3.mono hb2.size)).mono hz)⟩
  · rename_i k
    have HC := Lib.hid (show ∀ (v : Value) (W : World) (L : Nat), RdI W L W.heap.size v (zs ++ [d]) → Calls Try.prog 80 #[v] W fun e w' => e = .returned (.tuple #[.int .i64 k, .bool true]) ∧ Below W.heap.size W w' from fun v W L h => by have h2 := pCommon_any v _ W L h; rw [hj] at h2; exact h2)
    dsimp only
    clear hj
    by_cases hr : r = 0
    · subst hr
      rw [if_pos rfl]
      unfold resV
      go_enter Try.func72, Try.ntmps72
      go_wp2_with fail
      with_reducible refine (HS.out _).mono ?_
      rintro e w1 ⟨rfl, hb1⟩
      have bX := bel_mk w1 (.cells #[.int .i64 a, .int .i64 b, .int .i64 d, .int .i64 0] 96)
      have bY := bel_mk (w1.alloc (.cells #[.int .i64 a, .int .i64 b, .int .i64 d, .int .i64 0] 96)) (.cells #[.int .i64 d] 3)
      have bXY := hb1.trans ((bX.trans (bY.mono bX.size)).mono hb1.size)
      have RX := HV.out.step bXY (Nat.le_refl _)
      have cD : ((w1.alloc (.cells #[.int .i64 a, .int .i64 b, .int .i64 d, .int .i64 0] 96)).alloc (.cells #[.int .i64 d] 3)).cell? ⟨w1.heap.size + 1, 0, none⟩ = some (.int .i64 d) := by
        have h := (Own.new (w1.alloc (.cells #[.int .i64 a, .int .i64 b, .int .i64 d, .int .i64 0] 96)) 3 #[.int .i64 d]).cell 0
        rw [World.size_alloc] at h; exact h
      have cR := shape_cells (w := w1) (a := .int .i64 a) (b := .int .i64 b) (d := .int .i64 d) (r := .int .i64 0) (o := .cells #[.int .i64 d] 3)
      have HRX := Lib.hid RX
      have HCD := Lib.hid cD
      have HBXY := Lib.hid bXY
      have hz := bXY.size
      have hs : w1.heap.size < ((w1.alloc (.cells #[.int .i64 a, .int .i64 b, .int .i64 d, .int .i64 0] 96)).alloc (.cells #[.int .i64 d] 3)).heap.size := by simp; omega
      clear hb1 bX bY bXY RX cD
      go_wp2_with (first | (at_builtin; refine append_full _ rfl _ _ rfl A zs L rfl HRX.out (w1.heap.size + 1) 1 d rfl HCD.out hl ?_; intro v2 w2 hr2 hb2) | (go_at_call 80; refine (HC.out _ _ _ hr2).mono ?_; rintro e w3 ⟨rfl, hb3⟩; have cR3 := ((hb2.trans (hb3.mono hb2.size)).cell (p := ⟨w1.heap.size, 3, none⟩) hs).trans cR))
      go_ret2
      exact ⟨rfl, HBXY.out.trans ((hb2.trans (hb3.mono hb2.size)).mono hz)⟩
    · rw [if_neg hr]
      unfold resV
      go_enter Try.func72, Try.ntmps72
      go_wp2_with fail
      with_reducible refine (HS.out _).mono ?_
      rintro e w1 ⟨rfl, hb1⟩
      have bX := bel_mk w1 (.cells #[.int .i64 a, .int .i64 b, .int .i64 d, .int .i64 r] 96)
      have bY := bel_mk (w1.alloc (.cells #[.int .i64 a, .int .i64 b, .int .i64 d, .int .i64 r] 96)) (.cells #[.int .i64 d] 3)
      have bXY := hb1.trans ((bX.trans (bY.mono bX.size)).mono hb1.size)
      have RX := HV.out.step bXY (Nat.le_refl _)
      have cD : ((w1.alloc (.cells #[.int .i64 a, .int .i64 b, .int .i64 d, .int .i64 r] 96)).alloc (.cells #[.int .i64 d] 3)).cell? ⟨w1.heap.size + 1, 0, none⟩ = some (.int .i64 d) := by
        have h := (Own.new (w1.alloc (.cells #[.int .i64 a, .int .i64 b, .int .i64 d, .int .i64 r] 96)) 3 #[.int .i64 d]).cell 0
        rw [World.size_alloc] at h; exact h
      have cR := shape_cells (w := w1) (a := .int .i64 a) (b := .int .i64 b) (d := .int .i64 d) (r := .int .i64 r) (o := .cells #[.int .i64 d] 3)
      have HRX := Lib.hid RX
      have HCD := Lib.hid cD
      have HBXY := Lib.hid bXY
      have hz := bXY.size
      have hs : w1.heap.size < ((w1.alloc (.cells #[.int .i64 a, .int .i64 b, .int .i64 d, .int .i64 r] 96)).alloc (.cells #[.int .i64 d] 3)).heap.size := by simp; omega
      clear hb1 bX bY bXY RX cD
      go_wp2_with (first | (at_builtin; refine append_full _ rfl _ _ rfl A zs L rfl HRX.out (w1.heap.size + 1) 1 d rfl HCD.out hl ?_; intro v2 w2 hr2 hb2) | (go_at_call 80; refine (HC.out _ _ _ hr2).mono ?_; rintro e w3 ⟨rfl, hb3⟩; have cR3 := ((hb2.trans (hb3.mono hb2.size)).cell (p := ⟨w1.heap.size, 3, none⟩) hs).trans cR))
      go_ret2
      exact ⟨rfl, HBXY.out.trans ((hb2.trans (hb3.mono hb2.size)).mono hz)⟩
end Go.Proofs.Yteihjneeiojgaaa
/-
  The kind of a result of OpIf, by the program. Conditions: lengths.
-/
namespace Go.Proofs.Yteihjneeiojgaaa
set_option maxRecDepth 100000
set_option linter.unusedVariables false
set_option linter.unusedSimpArgs false
open Go.RowKit

def resI (z1 z2 z3 : Int) : Int × Int := if joinK 0 [z1, 3] = none then (0, 7) else resT 0 0 [z2, z3]
theorem rdI_three {w : World} {L g : Nat} {z1 z2 z3 : Int} (h : RdI w L w.heap.size (.slice (some ⟨g, 0, none⟩) 3 3) [z1, z2, z3]) : w.cell? ⟨g, 0, none⟩ = some (.int .i64 z1) ∧ RdI w L w.heap.size (.slice (some ⟨g, 1, none⟩) 2 2) [z2, z3] := by
  obtain ⟨A, c, hv, hl, hc⟩ := h
  injection hv with e1 e2 e3
  subst e1
  obtain ⟨a0, f0, g0, k0, c0⟩ := hc 0 z1 rfl
  obtain ⟨a1, f1, g1, k1, c1⟩ := hc 1 z2 rfl
  obtain ⟨a2, f2, g2, k2, c2⟩ := hc 2 z3 rfl
  injection f0 with f0
  injection f1 with f1
  injection f2 with f2
  subst f0 f1 f2
  rw [addZ13] at c0 c1 c2
  refine ⟨c0, ⟨_, _, rfl, by simp, fun k z hk => ⟨_, rfl, g0, k0, ?_⟩⟩⟩
  rcases k with _ | _ | k
  · simp at hk; subst hk; simpa [Addr.add] using c1
  · simp at hk; subst hk; simpa [Addr.add] using c2
  · simp at hk
set_option maxRecDepth 100000 in
set_option maxHeartbeats 6400000 in
theorem pResI_any (g : Nat) (z1 z2 z3 : Int) (w : World) (L : Nat) (hv : RdI w L w.heap.size (.slice (some ⟨g, 0, none⟩) 3 3) [z1, z2, z3]) :
    Calls Try.prog 72 #[.int .i64 22, .slice (some ⟨g, 0, none⟩) 3 3] w fun e w' => e = .returned (resV (resI z1 z2 z3)) ∧ Below w.heap.size w w' := by
  have hS : ∀ W, Calls Try.prog 62 #[.int .i64 22] W fun e w' => e = .returned (.tuple #[.agg #[.int .i64 3, .int .i64 3, .int .i64 0, .int .i64 0], .bool true]) ∧ Below W.heap.size W w' := fun W => pShape_any 22 W
  have HS := Lib.hid hS
  obtain ⟨c0, h2⟩ := rdI_three hv
  have b0 := bel_mk w (.cells #[.int .i64 z1, .int .i64 3] 3)
  have R1 := rdI_two w z1 3
  have HB0 := Lib.hid b0
  have HR1 := Lib.hid R1
  have H2 := Lib.hid h2
  clear hS hv b0 R1 h2
  unfold resI
  cases hj : joinK 0 [z1, 3]
  · have HC := Lib.hid (show ∀ (v : Value) (W : World) (L : Nat), RdI W L W.heap.size v [z1, 3] → Calls Try.prog 80 #[v] W fun e w' => e = .returned (.tuple #[.int .i64 0, .bool false]) ∧ Below W.heap.size W w' from fun v W L h => by have h2 := pCommon_any v _ W L h; rw [hj] at h2; exact h2)
    rw [if_pos rfl]
    unfold resV
    clear hj
    go_enter Try.func72, Try.ntmps72
    go_wp2_with (go_at_call 80; refine (HC.out _ _ _ HR1.out).mono ?_; rintro e w3 ⟨rfl, hb3⟩)
    go_ret2
    exact ⟨rfl, HB0.out.trans (hb3.mono HB0.out.size)⟩
  · rename_i q
    have HC := Lib.hid (show ∀ (v : Value) (W : World) (L : Nat), RdI W L W.heap.size v [z1, 3] → Calls Try.prog 80 #[v] W fun e w' => e = .returned (.tuple #[.int .i64 q, .bool true]) ∧ Below W.heap.size W w' from fun v W L h => by have h2 := pCommon_any v _ W L h; rw [hj] at h2; exact h2)
    rw [if_neg (by simp)]
    clear hj
    have HD : Hid (∃ p : Int × Bool, (if p.2 then (p.1, 0) else (0, 7)) = resT 0 0 [z2, z3] ∧ ∀ (v : Value) (W : World) (L : Nat), RdI W L W.heap.size v ([z2, z3] ++ [0]) → Calls Try.prog 80 #[v] W fun e w' => e = .returned (.tuple #[.int .i64 p.1, .bool p.2]) ∧ Below W.heap.size W w') := Lib.hid (by
      unfold resT
      cases hk : joinK 0 ([z2, z3] ++ [0]) with
      | none => exact ⟨(0, false), rfl, fun v W L h => by have h2 := pCommon_any v _ W L h; rw [hk] at h2; exact h2⟩
      | some k => exact ⟨(k, true), rfl, fun v W L h => by have h2 := pCommon_any v _ W L h; rw [hk] at h2; exact h2⟩)
    obtain ⟨⟨p, b⟩, hp, hd⟩ := HD.out
    dsimp only at hp hd
    rw [← hp]
    have HD2 := Lib.hid hd
    clear hd hp HD
    unfold resV
    go_enter Try.func72, Try.ntmps72
    go_wp2_with fail
    with_reducible refine (HC.out _ _ _ HR1.out).mono ?_
    rintro e w3 ⟨rfl, hb3⟩
    have hz0 := HB0.out.size
    have hz3 := hb3.size
    have B3 := HB0.out.trans (hb3.mono hz0)
    have HB3 := Lib.hid B3
    clear hb3 B3
    go_wp2_with fail
    with_reducible refine (HS.out _).mono ?_
    rintro e w1 ⟨rfl, hb1⟩
    have bX := bel_mk w1 (.cells #[.int .i64 3, .int .i64 3, .int .i64 0, .int .i64 0] 96)
    have bY := bel_mk (w1.alloc (.cells #[.int .i64 3, .int .i64 3, .int .i64 0, .int .i64 0] 96)) (.cells #[.int .i64 0] 3)
    have bXY := HB3.out.trans ((hb1.trans ((bX.trans (bY.mono bX.size)).mono hb1.size)).mono HB3.out.size)
    have RX := H2.out.step bXY (Nat.le_refl _)
    have cD : ((w1.alloc (.cells #[.int .i64 3, .int .i64 3, .int .i64 0, .int .i64 0] 96)).alloc (.cells #[.int .i64 0] 3)).cell? ⟨w1.heap.size + 1, 0, none⟩ = some (.int .i64 0) := by
      have h := (Own.new (w1.alloc (.cells #[.int .i64 3, .int .i64 3, .int .i64 0, .int .i64 0] 96)) 3 #[.int .i64 0]).cell 0
      rw [World.size_alloc] at h; exact h
    have cR := shape_cells (w := w1) (a := .int .i64 3) (b := .int .i64 3) (d := .int .i64 0) (r := .int .i64 0) (o := .cells #[.int .i64 0] 3)
    have HRX := Lib.hid RX
    have HCD := Lib.hid cD
    have HBXY := Lib.hid bXY
    have hz := bXY.size
    have hs : w1.heap.size < ((w1.alloc (.cells #[.int .i64 3, .int .i64 3, .int .i64 0, .int .i64 0] 96)).alloc (.cells #[.int .i64 0] 3)).heap.size := by simp; omega
    clear hb1 bX bY bXY RX cD
    cases b
    all_goals
      go_wp2_with (first | (at_builtin; refine append_full _ rfl _ _ rfl (some ⟨g, 1, none⟩) [z2, z3] L rfl HRX.out (w1.heap.size + 1) 1 0 rfl HCD.out (by simp) ?_; intro v2 w2 hr2 hb2) | (go_at_call 80; refine (HD2.out _ _ _ hr2).mono ?_; rintro e w3 ⟨rfl, hb4⟩; have cR3 := ((hb2.trans (hb4.mono hb2.size)).cell (p := ⟨w1.heap.size, 3, none⟩) hs).trans cR))
      go_ret2
      exact ⟨rfl, HBXY.out.trans ((hb2.trans (hb4.mono hb2.size)).mono hz)⟩
end Go.Proofs.Yteihjneeiojgaaa
