/-
  Contract of the reference's Satisfied. Conditions: none.
-/
import Derived.Test.YtekbndmibgjnpaaDoorRval
import Derived.Test.YtekbndmibgjnpaaDoorRin
import Derived.Test.YtekbndmibgjnpaaDoorSat
import Derived.Deep.RegionHeld3
import Derived.WalkKit
import Derived.WalkSpells
import Derived.WalkLawsBesides
import Derived.Deep.QuietTactic
import Derived.BigQuiet
import Derived.Handy
import Derived.Lib.Hide
namespace Go.Proofs.YtekbndmibgjnpaaDoor
open Go.RowKit

set_option maxRecDepth 100000 in
set_option maxHeartbeats 1600000 in
theorem rsat_any (u v : Value) (l : List (Int × Int)) (c : List Con) (w : World) (L L' : Nat) (hu : RdP w L w.heap.size u l) (hv : RdC w L' w.heap.size v c) :
    Calls Tryd.prog 29 #[u, v] w fun e w' => e = .returned (.bool (satB l c)) ∧ Below w.heap.size w w' := by
  have hu0 := hu
  have hv0 := hv
  obtain ⟨A, cc, rfl, hl, _⟩ := hu
  obtain ⟨A2, cc2, rfl, hl2, _⟩ := hv
  go_enter Tryd.func29, Tryd.ntmps29
  go_wp2
  go_loopw [5] (fun i wr => ∃ k : Nat, k ≤ l.length ∧ i = .int .i64 k ∧ vldL (l.take k) = true ∧ Below w.heap.size w wr) (fun i _ => l.length - (intOf i).toNat)
  case atStart => exact ⟨0, by omega, rfl, rfl, Below.refl _ _⟩
  case round =>
    obtain ⟨k, hk, rfl, hvk, hbr⟩ := hrel
    by_cases hlt : k < l.length
    · have hx := List.getElem?_eq_getElem hlt
      have hT := Lib.hid (List.take_succ_eq_append_getElem hlt)
      generalize l[k] = p at hx hT
      obtain ⟨a, b⟩ := p
      obtain ⟨ad, rfl, _, _, c1, c2⟩ := (hu0.below hbr).at hx
      dsimp only at c1 c2
      have hbz := hbr.size
      have ik : (k : Int) < (l.length : Int) := by omega
      have HV := rvalid_any a b
      cases hV : vld a b
      · have hF : Hid (satB l c = false) := Lib.hid (by
          have h1 : vldL l = false := by unfold vldL; rw [List.all_eq_false]; exact ⟨(a, b), List.mem_of_getElem? hx, by simp [hV]⟩
          unfold satB; rw [h1]; simp)
        rw [hV] at HV
        go_wp2_with (go_at_call 13; refine (HV _).mono ?_; rintro e w2 ⟨rfl, hb2⟩)
        go_ret
        exact ⟨congrArg (fun b => Ending.returned (.bool b)) hF.out.symm, hbr.trans (hb2.mono hbz)⟩
      · have hvk2 : Hid (vldL (l.take (k + 1)) = true) := Lib.hid (by rw [hT.out]; unfold vldL at *; rw [List.all_append, hvk]; simp [hV])
        rw [hV] at HV
        clear hvk
        go_wp2_with (go_at_call 13; refine (HV _).mono ?_; rintro e w2 ⟨rfl, hb2⟩)
        go_roundw
        case rel => exact ⟨k + 1, by omega, by go_num, hvk2.out, hbr.trans (hb2.mono hbz)⟩
        case measure => simp [intOf]; omega
    · have hkl : k = l.length := by omega
      subst hkl
      rw [List.take_length] at hvk
      have HVL := Lib.hid hvk
      clear hvk
      have hbz := hbr.size
      have HO := rvalidC_any (l.length : Int) _ c wr L' ((hv0.below hbr).more hbz (Nat.le_refl _))
      cases hok : okL l.length c
      · have hF : Hid (satB l c = false) := Lib.hid (by unfold satB; rw [hok]; rfl)
        rw [hok] at HO
        go_wp2_with (go_at_call 42; refine HO.mono ?_; rintro e w2 ⟨rfl, hb2⟩)
        go_ret
        exact ⟨congrArg (fun b => Ending.returned (.bool b)) hF.out.symm, hbr.trans (hb2.mono hbz)⟩
      · rw [hok] at HO
        go_wp2_with (go_at_call 42; refine HO.mono ?_; rintro e w2 ⟨rfl, hb2⟩)
        have B2 := hbr.trans (hb2.mono hbz)
        go_loopw [6] (fun i wr => ∃ k : Nat, k ≤ c.length ∧ i = .int .i64 k ∧ (c.take k).all (metC l) = true ∧ Below w.heap.size w wr) (fun i _ => c.length - (intOf i).toNat)
        case atStart => exact ⟨0, by omega, rfl, rfl, B2⟩
        case round =>
          obtain ⟨k, hk, rfl, hmk, hbi⟩ := hrel
          by_cases hkt : k < c.length
          · have hke := List.getElem?_eq_getElem hkt
            have hT := Lib.hid (List.take_succ_eq_append_getElem hkt)
            have hoc := okC_out (okL_at hok hke)
            generalize c[k] = e at hke hT hoc
            obtain ⟨a, b, r⟩ := e
            dsimp only at hoc
            obtain ⟨⟨ha0, ha⟩, ⟨hb0, hb⟩, hr⟩ := hoc
            obtain ⟨a, rfl⟩ := Int.eq_ofNat_of_zero_le ha0
            obtain ⟨b, rfl⟩ := Int.eq_ofNat_of_zero_le hb0
            have ha' : a < l.length := by omega
            have hb' : b < l.length := by omega
            obtain ⟨ad, rv, rfl, _, had, h0, h1, h2, h3⟩ := (hv0.below hbi).at hke
            dsimp only at h0 h1 h2 h3
            have h4 := h3
            obtain ⟨A3, c3, rfl, hlen3, _⟩ := h3
            have hxa := List.getElem?_eq_getElem ha'
            have hxb := List.getElem?_eq_getElem hb'
            have hRA : Hid (relAt l (a : Nat) (b : Nat) = relR l[a].1 l[a].2 l[b].1 l[b].2) := Lib.hid (by unfold relAt; rw [Int.toNat_natCast, Int.toNat_natCast, List.getD_eq_getElem?_getD, List.getD_eq_getElem?_getD, hxa, hxb]; rfl)
            generalize l[a] = pa at *
            generalize l[b] = pb at *
            obtain ⟨pa1, pa2⟩ := pa
            obtain ⟨pb1, pb2⟩ := pb
            obtain ⟨al, rfl, _, hal, x1, x2⟩ := (hu0.below hbi).at hxa
            obtain ⟨al', e1, _, _, y1, y2⟩ := (hu0.below hbi).at hxb
            injection e1 with e1
            subst e1
            dsimp only at x1 x2 y1 y2
            have hbz := hbi.size
            have ik : (k : Int) < (c.length : Int) := by omega
            have wa : (0 : Int) ≤ (a : Int) := by omega
            have wb : (0 : Int) ≤ (b : Int) := by omega
            have hla : (al.add (a * 2)).block < wr.heap.size := by rw [add_block]; omega
            have hlb : (al.add (b * 2)).block < wr.heap.size := by rw [add_block]; omega
            have hld : (ad.add (k * 3)).block < wr.heap.size := by rw [add_block]; omega
            go_wp2
            go_region_held3 (fun w' => w'.cell? (ad.add (k * 3)) = some (.int .i64 (a : Nat)) ∧ w'.cell? ⟨(ad.add (k * 3)).block, (ad.add (k * 3)).off + 1, none⟩ = some (.int .i64 (b : Nat)) ∧ w'.cell? (al.add (a * 2)) = some (.int .i64 pa1) ∧ w'.cell? ⟨(al.add (a * 2)).block, (al.add (a * 2)).off + 1, none⟩ = some (.int .i64 pa2) ∧ w'.cell? (al.add (b * 2)) = some (.int .i64 pb1) ∧ w'.cell? ⟨(al.add (b * 2)).block, (al.add (b * 2)).off + 1, none⟩ = some (.int .i64 pb2))
              (first | exact ⟨h0, h1, x1, x2, y1, y2⟩ | exact ⟨d1, d2, d3, d4, d5, d6⟩)
              (first
                | (go_at_call 46; refine (rrel_any _ _ _ _ _).mono ?_; rintro e w3 ⟨rfl, hb3⟩; have d1 := (hb3.cell (p := ad.add (k * 3)) hld).trans h0; have d2 := (hb3.cell (p := ⟨(ad.add (k * 3)).block, (ad.add (k * 3)).off + 1, none⟩) hld).trans h1; have d3 := (hb3.cell (p := al.add (a * 2)) hla).trans x1; have d4 := (hb3.cell (p := ⟨(al.add (a * 2)).block, (al.add (a * 2)).off + 1, none⟩) hla).trans x2; have d5 := (hb3.cell (p := al.add (b * 2)) hlb).trans y1; have d6 := (hb3.cell (p := ⟨(al.add (b * 2)).block, (al.add (b * 2)).off + 1, none⟩) hlb).trans y2))
            have bW3 : Below wr.heap.size wr w3 := (below_drewN (Below.refl wr.heap.size wr) 1).trans hb3
            have k2 := (bW3.cell (p := ⟨(ad.add (k * 3)).block, (ad.add (k * 3)).off + 2, none⟩) hld).trans h2
            have r3 := (h4.more hbz (Nat.le_refl _)).below bW3
            have B3 := hbi.trans (bW3.mono hbz)
            have HC := rin_any _ r (relR pa1 pa2 pb1 pb2) w3 L' (r3.more bW3.size (Nat.le_refl _))
            cases hC : decide (relR pa1 pa2 pb1 pb2 ∈ r)
            · have hF : Hid (satB l c = false) := Lib.hid (by
                have h1 : c.all (metC l) = false := by rw [List.all_eq_false]; exact ⟨_, List.mem_of_getElem? hke, by unfold metC; rw [hRA.out]; dsimp only; rw [hC]; simp⟩
                unfold satB; rw [h1]; simp)
              rw [hC] at HC
              go_wp2_with (go_at_call 47; refine HC.mono ?_; rintro e w4 ⟨rfl, hb4⟩)
              go_ret
              exact ⟨congrArg (fun b => Ending.returned (.bool b)) hF.out.symm, B3.trans (hb4.mono B3.size)⟩
            · have hT2 : Hid ((c.take (k + 1)).all (metC l) = true) := Lib.hid (by rw [hT.out, List.all_append, hmk]; simp only [List.all_cons, List.all_nil, Bool.and_true, Bool.true_and]; unfold metC; rw [hRA.out]; exact hC)
              rw [hC] at HC
              go_wp2_with (go_at_call 47; refine HC.mono ?_; rintro e w4 ⟨rfl, hb4⟩)
              go_roundw
              case rel => exact ⟨k + 1, by omega, by go_num, hT2.out, B3.trans (hb4.mono B3.size)⟩
              case measure => simp [intOf]; omega
          · have hkl : k = c.length := by omega
            subst hkl
            rw [List.take_length] at hmk
            have hT : Hid (satB l c = true) := Lib.hid (by unfold satB; rw [hok, HVL.out, hmk]; rfl)
            go_wp2
            go_ret
            exact ⟨congrArg (fun b => Ending.returned (.bool b)) hT.out.symm, hbi⟩
end Go.Proofs.YtekbndmibgjnpaaDoor
