import Derived.Test.YtpiadcfejbnonaaQM
import Derived.WalkKit
import Derived.WalkSpells
import Derived.WalkLawsBesides
import Derived.Deep.QuietTactic
import Derived.BigQuiet
import Derived.Handy
import Derived.Lib.Hide
/-
  Check, Depth of the program. Conditions: lengths, a bounded depth.
-/
namespace Go.Proofs.Ytpiadcfejbnonaa
set_option linter.unusedVariables false
set_option linter.unusedSimpArgs false
set_option linter.unusedVariables false
set_option linter.unusedSimpArgs false
set_option linter.unusedVariables false
set_option linter.unusedSimpArgs false
set_option maxRecDepth 100000
open Go.RowKit

/-- What Check answers. -/
def chkT (zs : List Int) (d : Nat) (e : Ex) : Int × Int := if 24 < depE d e then (0, 26) else kndE zs d e
set_option maxRecDepth 100000 in
set_option maxHeartbeats 3200000 in
theorem pDepth_any (d : Nat) (e : Ex) (A : Option Addr) (c : Nat) (w : World) (L : Nat) (h : RdE w L w.heap.size d (.slice A e.args.length c) e.args) :
    Calls Try.prog 24 #[exV e (.slice A e.args.length c)] w fun e' w' => e' = .returned (.int .i64 (min (depE d e) 25 : Nat)) ∧ Below w.heap.size w w' := by
  have b1 := bel_mk w (.cells (exA e (.slice A e.args.length c)) 26)
  unfold exA at b1
  have hcall := pLim_any d e (.slice A e.args.length c) 25 _ L (h.step b1 (Nat.le_refl _)) (by omega) (by omega)
  rw [show ((25 : Nat) : Int) = 25 from rfl] at hcall
  unfold exV at *
  have HC := Lib.hid hcall
  have HB := Lib.hid b1
  clear hcall b1 h
  go_enter Try.func24, Try.ntmps24
  go_wp2_with fail
  with_reducible refine HC.out.mono ?_
  rintro e w3 ⟨rfl, hb3⟩
  go_wp2
  go_ret
  exact ⟨rfl, HB.out.trans (hb3.mono HB.out.size)⟩
set_option maxRecDepth 100000 in
set_option maxHeartbeats 3200000 in
theorem pCheck_any (v : Value) (zs : List Int) (d : Nat) (e : Ex) (A : Option Addr) (c : Nat) (w : World) (L L2 : Nat) (h : RdE w L w.heap.size d (.slice A e.args.length c) e.args) (hz : RdI w L2 w.heap.size v zs) :
    Calls Try.prog 9 #[exV e (.slice A e.args.length c), v] w fun e' w' => e' = .returned (resV (chkT zs d e)) ∧ Below w.heap.size w w' := by
  have b1 := bel_mk w (.cells (exA e (.slice A e.args.length c)) 26)
  have o1 := Own.new w 26 (exA e (.slice A e.args.length c))
  unfold exA at b1 o1
  have hdep := pDepth_any d e A c _ L (h.step b1 (Nat.le_refl _))
  unfold exV at *
  have HD := Lib.hid hdep
  have HB := Lib.hid b1
  have HO := Lib.hid o1
  have HK := Lib.hid (fun (W : World) (hb : Below w.heap.size w W) => pKnd_any v zs d e (.slice A e.args.length c) W L L2 (h.step hb (Nat.le_refl _)) (hz.step hb (Nat.le_refl _)))
  clear hdep b1 o1 h hz
  unfold chkT
  by_cases hd : 24 < depE d e
  · have hm : (24 : Int) < ((min (depE d e) 25 : Nat) : Int) := by omega
    rw [if_pos hd]
    unfold resV
    generalize ((min (depE d e) 25 : Nat) : Int) = q at *
    clear hd HK
    go_enter Try.func9, Try.ntmps9
    go_wp2_with fail
    with_reducible refine HD.out.mono ?_
    rintro e w3 ⟨rfl, hb3⟩
    go_wp2
    go_ret2
    exact ⟨rfl, HB.out.trans (hb3.mono HB.out.size)⟩
  · have hm : ¬ (24 : Int) < ((min (depE d e) 25 : Nat) : Int) := by omega
    rw [if_neg hd]
    unfold resV exV at *
    generalize ((min (depE d e) 25 : Nat) : Int) = q at *
    generalize kndE zs d e = P at *
    clear hd
    go_enter Try.func9, Try.ntmps9
    go_wp2_with fail
    with_reducible refine HD.out.mono ?_
    rintro e w3 ⟨rfl, hb3⟩
    have o3 := HO.out.below hb3 HO.out.lt
    have x0 := o3.cell 0
    have x1 := o3.cell 1
    have x2 := o3.cell 2
    have x3 := o3.cell 3
    have x4 := o3.cell 4
    have x5 := o3.cell 5
    have x6 := o3.cell 6
    have HB3 := Lib.hid (HB.out.trans (hb3.mono HB.out.size))
    have hk := HK.out w3 HB3.out
    have HK2 := Lib.hid hk
    clear hb3 o3 hk HK
    go_wp2_with fail
    with_reducible refine HK2.out.mono ?_
    rintro e w4 ⟨rfl, hb4⟩
    go_wp2
    go_ret2
    exact ⟨rfl, HB3.out.trans (hb4.mono HB3.out.size)⟩
end Go.Proofs.Ytpiadcfejbnonaa
/-
  The kind of a result, by the reference: result. Conditions: lengths.
-/
namespace Go.Proofs.Ytpiadcfejbnonaa
set_option linter.unusedVariables false
set_option linter.unusedSimpArgs false
set_option linter.unusedVariables false
set_option linter.unusedSimpArgs false
set_option linter.unusedVariables false
set_option linter.unusedSimpArgs false
set_option maxRecDepth 100000
open Go.RowKit

/-- The kind of a result, and whether the arguments' kinds are as the operator asks. -/
def resX (op : Int) (zs : List Int) : Int × Bool :=
  if op = 4 ∨ op = 5 ∨ op = 6 then (3, allK 3 zs)
  else if op = 7 ∨ op = 8 ∨ op = 9 ∨ op = 10 ∨ op = 11 ∨ op = 12 then (3, (joinK 0 zs).isSome)
  else if op = 13 ∨ op = 14 ∨ op = 15 ∨ op = 16 ∨ op = 17 ∨ op = 18 then (1, allK 1 zs)
  else if op = 19 then (2, allK 2 zs)
  else if op = 20 then (1, allK 2 zs)
  else if op = 21 then (3, true)
  else if op = 22 then ((joinK 0 (zs.drop 1)).getD 0, (joinK 0 (zs.drop 1)).isSome && allK 3 (zs.take 1))
  else if op = 23 then ((joinK 0 zs).getD 0, (joinK 0 zs).isSome)
  else (3, allK 1 zs)
def finX (p : Int × Bool) : Int × Int := if p.2 then (p.1, 0) else (0, 7)
theorem join_to (a : Int) (ha : a ≠ 0) : ∀ (zs : List Int) (r : Int), joinK r (zs ++ [a]) = if (r = 0 ∨ r = a) ∧ allK a zs = true then some a else none
  | [], r => by
    show joinK r [a] = _
    unfold joinK
    rw [if_neg ha]
    by_cases h0 : r = 0
    · subst h0; simp [allK, joinK]
    · by_cases h1 : r = a
      · subst h1; simp [allK, joinK]
      · rw [if_pos ⟨h0, fun h => h1 h.symm⟩, if_neg (fun h => by rcases h.1 with h | h; exact h0 h; exact h1 h)]
  | z :: zs, r => by
    show joinK r (z :: (zs ++ [a])) = _
    unfold joinK
    have hk : allK a (z :: zs) = ((z == a || z == 0) && allK a zs) := rfl
    rw [hk]
    by_cases z0 : z = 0
    · subst z0
      rw [if_pos rfl, join_to a ha zs r]
      simp
    · rw [if_neg z0]
      by_cases hr : r ≠ 0 ∧ z ≠ r
      · rw [if_pos hr]
        rw [if_neg]
        rintro ⟨h1, h2⟩
        rcases h1 with h1 | h1
        · exact hr.1 h1
        · simp only [Bool.and_eq_true, Bool.or_eq_true, beq_iff_eq] at h2
          rcases h2.1 with h3 | h3
          · exact hr.2 (h3.trans h1.symm)
          · exact z0 h3
      · rw [if_neg hr, join_to a ha zs z]
        by_cases za : z = a
        · subst za
          have h1 : r = 0 ∨ r = z := by
            by_cases h0 : r = 0
            · exact .inl h0
            · by_cases h2 : z = r
              · exact .inr h2.symm
              · exact absurd ⟨h0, h2⟩ hr
          simp [h1]
        · have e1 : (z == a || z == 0) = false := by simp [za, z0]
          rw [e1, if_neg, if_neg]
          · rintro ⟨_, h2⟩; simp at h2
          · rintro ⟨h1, _⟩; rcases h1 with h1 | h1; exact z0 h1; exact za h1
theorem join_zero : ∀ (zs : List Int) (r : Int), joinK r (zs ++ [0]) = joinK r zs
  | [], r => by show joinK r [0] = _; unfold joinK; rw [if_pos rfl]; rfl
  | z :: zs, r => by
    show joinK r (z :: (zs ++ [0])) = joinK r (z :: zs)
    unfold joinK
    rw [join_zero zs r, join_zero zs z]
theorem resT_to (a r : Int) (ha : a ≠ 0) (hr : r ≠ 0) (zs : List Int) : resT a r zs = finX (r, allK a zs) := by
  unfold resT finX
  rw [join_to a ha zs 0]
  cases h : allK a zs
  · rw [if_neg (by simp)]; rfl
  · rw [if_pos ⟨.inl rfl, rfl⟩]; show (if r = 0 then (a, 0) else (r, 0)) = _; rw [if_neg hr]; rfl
theorem resT_any (r : Int) (zs : List Int) : resT 0 r zs = finX (if r = 0 then (joinK 0 zs).getD 0 else r, (joinK 0 zs).isSome) := by
  unfold resT finX
  rw [join_zero]
  cases joinK 0 zs with
  | none => rfl
  | some q => by_cases hr : r = 0 <;> simp [hr]
theorem knw_c {op : Int} (h : knw op = true) : op = 1 ∨ op = 2 ∨ (op = 4 ∨ op = 5 ∨ op = 6) ∨ (op = 7 ∨ op = 8 ∨ op = 9 ∨ op = 10 ∨ op = 11 ∨ op = 12) ∨ (op = 13 ∨ op = 14 ∨ op = 15 ∨ op = 16 ∨ op = 17 ∨ op = 18) ∨ op = 19 ∨ op = 20 ∨ op = 21 ∨ op = 22 ∨ op = 23 ∨ op = 24 := by
  simp only [knw, Bool.or_eq_true, beq_iff_eq] at h
  omega
theorem res_same {op : Int} {zs : List Int} (hk : knw op = true) (h1 : op ≠ 1) (h2 : op ≠ 2) (h21 : op = 21 → zs.length = 1) (h22 : op = 22 → zs.length = 3) : resG op zs = finX (resX op zs) := by
  have hc := knw_c hk
  rcases hc with rfl | rfl | h | h | h | rfl | rfl | rfl | rfl | rfl | rfl
  · exact absurd rfl h1
  · exact absurd rfl h2
  · unfold resX; rw [if_pos h]; unfold resG; rw [if_neg (by omega)]
    rw [show opAr op = 3 by rcases h with rfl | rfl | rfl <;> rfl, show opRs op = 3 by rcases h with rfl | rfl | rfl <;> rfl, resT_to 3 3 (by decide) (by decide)]
  · unfold resX; rw [if_neg (by omega), if_pos h]; unfold resG; rw [if_neg (by omega)]
    rw [show opAr op = 0 by rcases h with rfl | rfl | rfl | rfl | rfl | rfl <;> rfl, show opRs op = 3 by rcases h with rfl | rfl | rfl | rfl | rfl | rfl <;> rfl, resT_any, if_neg (by decide)]
  · unfold resX; rw [if_neg (by omega), if_neg (by omega), if_pos h]; unfold resG; rw [if_neg (by omega)]
    rw [show opAr op = 1 by rcases h with rfl | rfl | rfl | rfl | rfl | rfl <;> rfl, show opRs op = 1 by rcases h with rfl | rfl | rfl | rfl | rfl | rfl <;> rfl, resT_to 1 1 (by decide) (by decide)]
  · exact resT_to 2 2 (by decide) (by decide) zs
  · exact resT_to 2 1 (by decide) (by decide) zs
  · have h := h21 rfl
    match zs, h with
    | [z], _ =>
      show resT 0 3 [z] = _
      rw [resT_any, if_neg (by decide)]
      have : (joinK 0 [z]).isSome = true := by
        unfold joinK
        by_cases hz : z = 0
        · rw [if_pos hz]; rfl
        · rw [if_neg hz, if_neg (by simp)]; rfl
      rw [this]; rfl
  · have h := h22 rfl
    match zs, h with
    | [z1, z2, z3], _ =>
      show resI z1 z2 z3 = finX ((joinK 0 [z2, z3]).getD 0, (joinK 0 [z2, z3]).isSome && allK 3 [z1])
      unfold resI
      rw [show ([z1, 3] : List Int) = [z1] ++ [3] from rfl, join_to 3 (by decide) [z1] 0]
      cases h3 : allK 3 [z1]
      · rw [if_pos (by simp)]; simp [finX]
      · rw [if_neg (by simp), resT_any, if_pos rfl]; simp [finX]
  · show resT 0 0 zs = _
    rw [resT_any, if_pos rfl]; rfl
  · exact resT_to 1 3 (by decide) (by decide) zs
end Go.Proofs.Ytpiadcfejbnonaa
