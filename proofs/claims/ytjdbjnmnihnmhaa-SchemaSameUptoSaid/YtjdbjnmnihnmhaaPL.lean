import Derived.Test.YtjdbjnmnihnmhaaPF
import Derived.Test.YtjdbjnmnihnmhaaSW
import Derived.Deep.RegionHeld3
import Derived.WalkKit
import Derived.WalkSpells
import Derived.WalkLawsBesides
import Derived.Deep.QuietTactic
import Derived.BigQuiet
import Derived.Handy
import Derived.Lib.Hide
/-
  The walk of the statement SchemaSame. Conditions: the search's variable holds some number; lengths. (Written by mkSsL.py.)
-/
namespace Go.Proofs.Ytjdbjnmnihnmhaa
set_option maxRecDepth 100000
set_option linter.unusedVariables false
set_option linter.unusedSimpArgs false
open Go.RowKit

theorem sameL_of (f : Ex → Ex → Bool) : ∀ l : List Ex, (∀ a ∈ l, f a a = true) → sameL f l l = true
  | [], _ => rfl
  | a :: l, h => by
    unfold sameL
    rw [h a (List.mem_cons_self ..), sameL_of f l (fun b hb => h b (List.mem_cons_of_mem _ hb))]
    rfl
theorem sameE_self : ∀ (d : Nat) (e : Ex), Ex.Fin d e → sameE d e e = true
  | 0, _, h => h.elim
  | d + 1, e, h => by
    have hl : sameL (sameE d) e.args e.args = true := sameL_of _ _ fun a ha => sameE_self d a (h a ha)
    unfold sameE sameF
    simp [hl, Va.eqV]
theorem same_selfL (d : Nat) (l : List Ex) (h : ∀ a ∈ l, Ex.Fin d a) : sameL (sameE d) l l = true := sameL_of _ _ fun a ha => sameE_self d a (h a ha)
theorem fin_up2 : ∀ {d : Nat} {e : Ex}, Ex.Fin d e → Ex.Fin (d + 1) e
  | 0, _, h => h.elim
  | d + 1, _, h => fun a ha => fin_up2 (h a ha)
theorem same_all (na : ByteArray) (cs : List Cl) (zs : List Int) (fs : List Fk) (es : List Ex) (d : Nat) (h : ∀ a ∈ es, Ex.Fin d a) : (na.toList == na.toList && (twoL eqC cs cs && (twoL eqI zs zs && (twoL eqF fs fs && sameL (sameE d) es es)))) = true := by
  have e1 : twoL eqC cs cs = true := twoL_self _ (fun a => by simp [eqC]) _
  have e2 : ∀ zs : List Int, twoL eqI zs zs = true := fun zs => twoL_self _ (fun a => by simp [eqI]) _
  have e3 : twoL eqF fs fs = true := twoL_self _ (fun a => by unfold eqF; rw [e2]; simp) _
  rw [e1, e2, e3, same_selfL d es h]
  simp
set_option maxRecDepth 100000 in
set_option maxHeartbeats 12800000 in
theorem law_same (na nb : ByteArray) (u1 u2 u3 u4 v1 v2 v3 v4 : Value) (cs cs2 : List Cl) (zs zs2 : List Int) (fs fs2 : List Fk) (es es2 : List Ex) (d : Nat) (m : Int) (w : World) (hm : w.cell? ⟨0, 0, none⟩ = some (.int .i64 m))
    (h1 : RdK w 0 w.heap.size u1 cs) (h2 : RdI w 0 w.heap.size u2 zs) (h3 : RdF w 0 w.heap.size u3 fs) (h4 : RdE w 0 w.heap.size (d + 1) u4 es)
    (k1 : RdK w 0 w.heap.size v1 cs2) (k2 : RdI w 0 w.heap.size v2 zs2) (k3 : RdF w 0 w.heap.size v3 fs2) (k4 : RdE w 0 w.heap.size (d + 1) v4 es2)
    (l1 : cs.length ≤ 1099511627776) (l2 : zs.length ≤ 1099511627776) (l3 : fs.length ≤ 1099511627776) (l5 : ∀ f ∈ fs, f.1.length ≤ 1099511627776) :
    Calls Try.prog 3 #[.agg #[.string na, u1, u2, u3, u4], .agg #[.string nb, v1, v2, v3, v4]] w fun e w' => e = .returned (.bool true) ∧ Below w.heap.size w w' := by
  have hm0 := World.block_lt_of_cell? w _ hm
  have hfin : ∀ a ∈ es, Ex.Fin (d + 1) a := fun a ha => fin_up2 ((RdE.fin h4 a ha) a ha)
  have hsa := same_all na cs zs fs es (d + 1) hfin
  have TA := Lib.hid (fun (W : World) (hb : Below w.heap.size w W) => awake13_any m W ((hb.cell (p := ⟨0, 0, none⟩) hm0).trans hm))
  have T1 := Lib.hid (fun (W : World) (hb : Below w.heap.size w W) => pSameT_any na nb u1 u2 u3 u4 v1 v2 v3 v4 cs cs2 zs zs2 fs fs2 es es2 (d + 1) W (h1.step hb (Nat.le_refl _)) (h2.step hb (Nat.le_refl _)) (h3.step hb (Nat.le_refl _)) ((h4.step hb (Nat.le_refl _)).up1) (k1.step hb (Nat.le_refl _)) (k2.step hb (Nat.le_refl _)) (k3.step hb (Nat.le_refl _)) ((k4.step hb (Nat.le_refl _)).up1))
  have T2 := Lib.hid (fun (W : World) (hb : Below w.heap.size w W) => rSameT_any na nb u1 u2 u3 u4 v1 v2 v3 v4 cs cs2 zs zs2 fs fs2 es es2 (d + 1) W (h1.step hb (Nat.le_refl _)) (h2.step hb (Nat.le_refl _)) (h3.step hb (Nat.le_refl _)) ((h4.step hb (Nat.le_refl _)).up1) (k1.step hb (Nat.le_refl _)) (k2.step hb (Nat.le_refl _)) (k3.step hb (Nat.le_refl _)) ((k4.step hb (Nat.le_refl _)).up1))
  have T3 := Lib.hid (fun (W : World) (hb : Below w.heap.size w W) => by
    have h := pSameT_any na na u1 u2 u3 u4 u1 u2 u3 u4 cs cs zs zs fs fs es es (d + 1) W (h1.step hb (Nat.le_refl _)) (h2.step hb (Nat.le_refl _)) (h3.step hb (Nat.le_refl _)) ((h4.step hb (Nat.le_refl _)).up1) (h1.step hb (Nat.le_refl _)) (h2.step hb (Nat.le_refl _)) (h3.step hb (Nat.le_refl _)) ((h4.step hb (Nat.le_refl _)).up1)
    rw [hsa] at h
    exact h)
  have T4 := Lib.hid (fun (W : World) (hb : Below w.heap.size w W) => pCloT_any na u1 u2 u3 u4 cs zs fs es d W (h1.step hb (Nat.le_refl _)) (h2.step hb (Nat.le_refl _)) (h3.step hb (Nat.le_refl _)) (h4.step hb (Nat.le_refl _)) l1 l2 l3 l5)
  have T5 := Lib.hid (fun (W : World) (x1 x2 x3 x4 : Value) (hb : Below w.heap.size w W) (g1 : RdK W 0 W.heap.size x1 cs) (g2 : RdI W 0 W.heap.size x2 zs) (g3 : RdF W 0 W.heap.size x3 fs) (g4 : RdE W 0 W.heap.size (d + 2) x4 es) => by
    have h := rSameT_any na na x1 x2 x3 x4 u1 u2 u3 u4 cs cs zs zs fs fs es es (d + 1) W g1 g2 g3 g4 (h1.step hb (Nat.le_refl _)) (h2.step hb (Nat.le_refl _)) (h3.step hb (Nat.le_refl _)) ((h4.step hb (Nat.le_refl _)).up1)
    rw [hsa] at h
    exact h)
  generalize (na.toList == nb.toList && (twoL eqC cs cs2 && (twoL eqI zs zs2 && (twoL eqF fs fs2 && sameL (sameE (d + 1)) es es2)))) = R at *
  obtain ⟨A1, c1, e1⟩ := shK h1
  obtain ⟨A2, c2, e2⟩ := shI h2
  obtain ⟨A3, c3, e3⟩ := shF h3
  obtain ⟨A4, c4, e4, _⟩ := h4.slice
  obtain ⟨B1, d1, f1⟩ := shK k1
  obtain ⟨B2, d2, f2⟩ := shI k2
  obtain ⟨B3, d3, f3⟩ := shF k3
  obtain ⟨B4, d4, f4, _⟩ := k4.slice
  subst e1 e2 e3 e4 f1 f2 f3 f4
  clear h1 h2 h3 h4 k1 k2 k3 k4 hm hsa hfin l5
  have hb0 : Below w.heap.size w ((w.alloc (.cells #[.string na, .slice A1 cs.length c1, .slice A2 zs.length c2, .slice A3 fs.length c3, .slice A4 es.length c4] 27)).alloc (.cells #[.string nb, .slice B1 cs2.length d1, .slice B2 zs2.length d2, .slice B3 fs2.length d3, .slice B4 es2.length d4] 27)) := (bel_mk w _).trans ((bel_mk _ _).mono (by simp))
  have oA : Own ((w.alloc (.cells #[.string na, .slice A1 cs.length c1, .slice A2 zs.length c2, .slice A3 fs.length c3, .slice A4 es.length c4] 27)).alloc (.cells #[.string nb, .slice B1 cs2.length d1, .slice B2 zs2.length d2, .slice B3 fs2.length d3, .slice B4 es2.length d4] 27)) w.heap.size 27 #[.string na, .slice A1 cs.length c1, .slice A2 zs.length c2, .slice A3 fs.length c3, .slice A4 es.length c4] := (Own.new w _ _).alloc _
  have oB : Own ((w.alloc (.cells #[.string na, .slice A1 cs.length c1, .slice A2 zs.length c2, .slice A3 fs.length c3, .slice A4 es.length c4] 27)).alloc (.cells #[.string nb, .slice B1 cs2.length d1, .slice B2 zs2.length d2, .slice B3 fs2.length d3, .slice B4 es2.length d4] 27)) (w.heap.size + 1) 27 #[.string nb, .slice B1 cs2.length d1, .slice B2 zs2.length d2, .slice B3 fs2.length d3, .slice B4 es2.length d4] := own_two2 _
  have HOA := Lib.hid oA
  have HOB := Lib.hid oB
  have HB := Lib.hid hb0
  clear oA oB hb0
  go_enter Try.func3, Try.ntmps3
  go_upto_region 1 with fail
  generalize (w.alloc (.cells #[.string na, .slice A1 cs.length c1, .slice A2 zs.length c2, .slice A3 fs.length c3, .slice A4 es.length c4] 27)).alloc (.cells #[.string nb, .slice B1 cs2.length d1, .slice B2 zs2.length d2, .slice B3 fs2.length d3, .slice B4 es2.length d4] 27) = W at *
  have B5 := Lib.hid (HB.out.drew)
  have HS := Lib.hid (show ∀ w', Below W.drew.heap.size W.drew w' → (w'.cell? ⟨w.heap.size, 0, none⟩ = some (.string na) ∧ w'.cell? ⟨w.heap.size, 1, none⟩ = some (.slice A1 cs.length c1) ∧ w'.cell? ⟨w.heap.size, 2, none⟩ = some (.slice A2 zs.length c2) ∧ w'.cell? ⟨w.heap.size, 3, none⟩ = some (.slice A3 fs.length c3) ∧ w'.cell? ⟨w.heap.size, 4, none⟩ = some (.slice A4 es.length c4) ∧ w'.cell? ⟨w.heap.size + 1, 0, none⟩ = some (.string nb) ∧ w'.cell? ⟨w.heap.size + 1, 1, none⟩ = some (.slice B1 cs2.length d1) ∧ w'.cell? ⟨w.heap.size + 1, 2, none⟩ = some (.slice B2 zs2.length d2) ∧ w'.cell? ⟨w.heap.size + 1, 3, none⟩ = some (.slice B3 fs2.length d3) ∧ w'.cell? ⟨w.heap.size + 1, 4, none⟩ = some (.slice B4 es2.length d4)) from fun w' hb => have o := (show Own W.drew _ _ _ from HOA.out).below hb HOA.out.lt; have p := (show Own W.drew _ _ _ from HOB.out).below hb HOB.out.lt; ⟨o.cell 0, o.cell 1, o.cell 2, o.cell 3, o.cell 4, p.cell 0, p.cell 1, p.cell 2, p.cell 3, p.cell 4⟩)
  clear HOA HOB
  have hRR : (R == R) = true := by simp
  go_region_held3 (fun w' => w'.cell? ⟨w.heap.size, 0, none⟩ = some (.string na) ∧ w'.cell? ⟨w.heap.size, 1, none⟩ = some (.slice A1 cs.length c1) ∧ w'.cell? ⟨w.heap.size, 2, none⟩ = some (.slice A2 zs.length c2) ∧ w'.cell? ⟨w.heap.size, 3, none⟩ = some (.slice A3 fs.length c3) ∧ w'.cell? ⟨w.heap.size, 4, none⟩ = some (.slice A4 es.length c4) ∧ w'.cell? ⟨w.heap.size + 1, 0, none⟩ = some (.string nb) ∧ w'.cell? ⟨w.heap.size + 1, 1, none⟩ = some (.slice B1 cs2.length d1) ∧ w'.cell? ⟨w.heap.size + 1, 2, none⟩ = some (.slice B2 zs2.length d2) ∧ w'.cell? ⟨w.heap.size + 1, 3, none⟩ = some (.slice B3 fs2.length d3) ∧ w'.cell? ⟨w.heap.size + 1, 4, none⟩ = some (.slice B4 es2.length d4))
    (first | (with_reducible exact HS.out _ (Below.refl _ _)) | (with_reducible exact HS.out _ hb))
    ((first
      | (go_at_call 4; with_reducible refine (T1.out _ B5.out).mono ?_; rintro e1 x1 ⟨rfl, hb⟩)
      | (go_at_call 5; with_reducible refine (T2.out _ (B5.out.trans (hb.mono B5.out.size))).mono ?_; rintro e2 x2 ⟨rfl, hc⟩; have hb := hb.trans (hc.mono hb.size))
      | (go_at_call 4; with_reducible refine (T3.out _ (B5.out.trans (hb.mono B5.out.size))).mono ?_; rintro e3 x3 ⟨rfl, hc⟩; have hb := hb.trans (hc.mono hb.size))
      | (go_at_call 6; with_reducible refine (T4.out _ (B5.out.trans (hb.mono B5.out.size))).mono ?_; rintro e4 x4 ⟨y1, y2, y3, y4, rfl, g1, g2, g3, g4, hc⟩; have hb := hb.trans (hc.mono hb.size); obtain ⟨C1, q1, r1⟩ := shK g1; obtain ⟨C2, q2, r2⟩ := shI g2; obtain ⟨C3, q3, r3⟩ := shF g3; obtain ⟨C4, q4, r4, _⟩ := g4.slice; subst r1 r2 r3 r4; have G1 := Lib.hid g1; have G2 := Lib.hid g2; have G3 := Lib.hid g3; have G4 := Lib.hid g4; clear g1 g2 g3 g4)
      | (go_at_call 5; with_reducible refine (T5.out _ _ _ _ _ (B5.out.trans (hb.mono B5.out.size)) G1.out G2.out G3.out G4.out).mono ?_; rintro e5 x5 ⟨rfl, hc⟩; have hb := hb.trans (hc.mono hb.size))
      | (go_at_call 7; with_reducible refine (TA.out _ (B5.out.trans (hb.mono B5.out.size))).mono ?_; rintro e6 x6 ⟨rfl, hc⟩; have hb := hb.trans (hc.mono hb.size))))
  go_wp2
  go_ret
  exact ⟨rfl, B5.out.trans (hb.mono B5.out.size)⟩
end Go.Proofs.Ytjdbjnmnihnmhaa
