/-
  Contracts of slices.Index, slices.Contains and Satisfied. Conditions: none.
-/
import Derived.Test.YtmmecpmeemhglaaDoorVal
import Derived.Test.YtmmecpmeemhglaaDoorAl3
import Derived.Test.YtmmecpmeemhglaaDoorPerm
import Derived.Deep.RegionHeld3
import Derived.WalkKit
import Derived.WalkSpells
import Derived.WalkLawsBesides
import Derived.Deep.QuietTactic
import Derived.BigQuiet
import Derived.Handy
import Derived.Lib.Hide
namespace Go.Proofs.YtmmecpmeemhglaaDoor
open Go.RowKit

set_option maxRecDepth 100000 in
set_option maxHeartbeats 800000 in
theorem index_any (v : Value) (l : List Int) (x : Int) (w : World) (L : Nat) (hv : RdI w L w.heap.size v l) :
    Calls Tryd.prog 59 #[v, .int .i64 x] w fun e w' => ∃ r : Int, e = .returned (.int .i64 r) ∧ (0 ≤ r ↔ x ∈ l) ∧ Below w.heap.size w w' := by
  have hv0 := hv
  obtain ⟨A, c, rfl, hl, _⟩ := hv
  go_enter Tryd.func59, Tryd.ntmps59
  go_wp2
  go_loopw [8] (fun i wr => ∃ k : Nat, k ≤ l.length ∧ i = .int .i64 k ∧ x ∉ l.take k ∧ w = wr) (fun i _ => l.length - (intOf i).toNat)
  case atStart => exact ⟨0, by omega, rfl, by simp, rfl⟩
  case round =>
    obtain ⟨k, hk, rfl, hno, rfl⟩ := hrel
    by_cases hlt : k < l.length
    · have hx := List.getElem?_eq_getElem hlt
      generalize l[k] = y at hx
      obtain ⟨ad, rfl, _, _, c1⟩ := hv0.at hx
      by_cases hxy : x = y
      · subst hxy
        have hm : x ∈ l := List.mem_of_getElem? hx
        have hbn : (x == x) = true := by simp
        have HM := Lib.hid hm
        clear hm
        go_wp2
        go_ret
        exact ⟨k, rfl, ⟨fun _ => HM.out, fun _ => by omega⟩, Below.refl _ _⟩
      · have hbn : (x == y) = false := by simp [hxy]
        have hT : x ∉ l.take (k + 1) := by
          obtain ⟨_, e1⟩ := List.getElem?_eq_some_iff.1 hx
          rw [List.take_succ_eq_append_getElem hlt, List.mem_append, e1]
          simp [hxy, hno]
        have HT := Lib.hid hT
        clear hT
        go_wp2
        go_roundw
        case rel => exact ⟨k + 1, by omega, by go_num, HT.out, by first | trivial | rfl⟩
        case measure => simp [intOf]; omega
    · have hkl : k = l.length := by omega
      subst hkl
      rw [List.take_length] at hno
      have HM := Lib.hid hno
      clear hno
      go_wp2
      go_ret
      exact ⟨-1, rfl, ⟨fun h => absurd h (by decide), fun h => absurd h HM.out⟩, Below.refl _ _⟩
set_option maxHeartbeats 800000 in
theorem contains_any (v : Value) (l : List Int) (x : Int) (w : World) (L : Nat) (hv : RdI w L w.heap.size v l) :
    Calls Tryd.prog 45 #[v, .int .i64 x] w fun e w' => e = .returned (.bool (decide (x ∈ l))) ∧ Below w.heap.size w w' := by
  have hv0 := hv
  obtain ⟨A, c, rfl, hl, _⟩ := hv
  go_enter Tryd.func45, Tryd.ntmps45
  go_wp2_with (go_at_call 59; refine (index_any _ l x _ L hv0).mono ?_; rintro e w1 ⟨r, rfl, hr, hb⟩)
  go_ret
  exact ⟨rfl, hb⟩

/-- The slice v holds the periods l, below block B and not below block L. -/
def RdP (w : World) (L B : Nat) (v : Value) (l : List (Int × Int)) : Prop :=
  ∃ A c, v = .slice A l.length c ∧ l.length ≤ 9223372036854775807 ∧ ∀ (k : Nat) (p : Int × Int), l[k]? = some p → ∃ ad : Addr, A = some ad ∧ L ≤ ad.block ∧ ad.block < B ∧
    w.cell? (ad.add (k * 2)) = some (.int .i64 p.1) ∧ w.cell? ⟨(ad.add (k * 2)).block, (ad.add (k * 2)).off + 1, none⟩ = some (.int .i64 p.2)
theorem RdP.below {w w' : World} {L B : Nat} {v : Value} {l : List (Int × Int)} (h : RdP w L B v l) (hb : Below B w w') : RdP w' L B v l := by
  obtain ⟨A, c, hv, hl, hc⟩ := h
  refine ⟨A, c, hv, hl, fun k n hk => ?_⟩
  obtain ⟨ad, h1, h0, h2, h3, h4⟩ := hc k n hk
  exact ⟨ad, h1, h0, h2, (hb.cell (p := ad.add (k * 2)) (by rw [add_block]; exact h2)).trans h3, (hb.cell (p := ⟨(ad.add (k * 2)).block, (ad.add (k * 2)).off + 1, none⟩) (by show (ad.add (k * 2)).block < B; rw [add_block]; exact h2)).trans h4⟩
theorem RdP.more {w : World} {L L' B B' : Nat} {v : Value} {l : List (Int × Int)} (h : RdP w L B v l) (hB : B ≤ B') (hL : L' ≤ L) : RdP w L' B' v l := by
  obtain ⟨A, c, hv, hl, hc⟩ := h
  refine ⟨A, c, hv, hl, fun k n hk => ?_⟩
  obtain ⟨ad, h1, h0, h2, h3, h4⟩ := hc k n hk
  exact ⟨ad, h1, by omega, by omega, h3, h4⟩
theorem RdP.at {w : World} {L B : Nat} {A : Option Addr} {m c : Nat} {l : List (Int × Int)} (h : RdP w L B (.slice A m c) l) {k : Nat} {p : Int × Int} (hk : l[k]? = some p) : ∃ ad : Addr, A = some ad ∧ L ≤ ad.block ∧ ad.block < B ∧
    w.cell? (ad.add (k * 2)) = some (.int .i64 p.1) ∧ w.cell? ⟨(ad.add (k * 2)).block, (ad.add (k * 2)).off + 1, none⟩ = some (.int .i64 p.2) := by
  obtain ⟨A', c', hv, hl, hc⟩ := h
  injection hv with e1 e2 e3
  subst e1
  exact hc k p hk

/-- The relation that holds between the periods a and b of a list. -/
def relAt (l : List (Int × Int)) (a b : Int) : Int := relR (l.getD a.toNat (0, 0)).1 (l.getD a.toNat (0, 0)).2 (l.getD b.toNat (0, 0)).1 (l.getD b.toNat (0, 0)).2
def vldL (l : List (Int × Int)) : Bool := l.all fun p => vld p.1 p.2
def metC (l : List (Int × Int)) (e : Con) : Bool := decide (relAt l e.a e.b ∈ e.r)
def satB (l : List (Int × Int)) (c : List Con) : Bool := okL l.length c && vldL l && c.all (metC l)

set_option maxRecDepth 100000 in
set_option maxHeartbeats 1600000 in
theorem sat_any (u v : Value) (l : List (Int × Int)) (c : List Con) (w : World) (L L' : Nat) (hu : RdP w L w.heap.size u l) (hv : RdC w L' w.heap.size v c) :
    Calls Tryd.prog 28 #[u, v] w fun e w' => e = .returned (.bool (satB l c)) ∧ Below w.heap.size w w' := by
  have hu0 := hu
  have hv0 := hv
  obtain ⟨A, cc, rfl, hl, _⟩ := hu
  obtain ⟨A2, cc2, rfl, hl2, _⟩ := hv
  cases hok : okL l.length c
  · have hF : Hid (satB l c = false) := Lib.hid (by unfold satB; rw [hok]; rfl)
    go_enter Tryd.func28, Tryd.ntmps28
    go_wp2_with (go_at_call 37; refine (allValid_any _ _ c _ L' hv0).mono ?_; rintro e w1 ⟨rfl, hb1⟩; rw [hok])
    go_ret
    exact ⟨congrArg (fun b => Ending.returned (.bool b)) hF.out.symm, hb1⟩
  · go_enter Tryd.func28, Tryd.ntmps28
    go_wp2_with (go_at_call 37; refine (allValid_any _ _ c _ L' hv0).mono ?_; rintro e w1 ⟨rfl, hb1⟩; rw [hok])
    go_loopw [18] (fun i wr => ∃ k : Nat, k ≤ l.length ∧ i = .int .i64 k ∧ vldL (l.take k) = true ∧ Below w.heap.size w wr) (fun i _ => l.length - (intOf i).toNat)
    case atStart => exact ⟨0, by omega, rfl, rfl, hb1⟩
    case round =>
      obtain ⟨k, hk, rfl, hvk, hbr⟩ := hrel
      by_cases hlt : k < l.length
      · have hx := List.getElem?_eq_getElem hlt
        have hT := Lib.hid (List.take_succ_eq_append_getElem hlt)
        generalize l[k] = p at hx hT
        obtain ⟨a, b⟩ := p
        obtain ⟨ad, rfl, _, _, c1, c2⟩ := (hu0.below hbr).at hx
        dsimp only at c1 c2
        have hbz := hbr.size
        cases hV : vld a b
        · have hF : Hid (satB l c = false) := Lib.hid (by
            have h1 : vldL l = false := by unfold vldL; rw [List.all_eq_false]; exact ⟨(a, b), List.mem_of_getElem? hx, by simp [hV]⟩
            unfold satB; rw [h1]; simp)
          go_wp2_with (go_at_call 31; refine (valid_any _ _ _).mono ?_; rw [hV]; rintro e w2 ⟨rfl, hb2⟩)
          go_ret
          exact ⟨congrArg (fun b => Ending.returned (.bool b)) hF.out.symm, (hbr.alloc hbz _).trans (hb2.mono (by simp; omega))⟩
        · have hvk2 : vldL (l.take (k + 1)) = true := by rw [hT.out]; unfold vldL at *; rw [List.all_append, hvk]; simp [hV]
          have HV := Lib.hid hvk2
          clear hvk2
          go_wp2_with (go_at_call 31; refine (valid_any _ _ _).mono ?_; rw [hV]; rintro e w2 ⟨rfl, hb2⟩)
          go_roundw
          case rel => exact ⟨k + 1, by omega, by go_num, HV.out, (hbr.alloc hbz _).trans (hb2.mono (by simp; omega))⟩
          case measure => simp [intOf]; omega
      · have hkl : k = l.length := by omega
        subst hkl
        rw [List.take_length] at hvk
        have HVL := Lib.hid hvk
        clear hvk
        go_wp2
        go_loopw [28] (fun i wr => ∃ k : Nat, k ≤ c.length ∧ i = .int .i64 k ∧ (c.take k).all (metC l) = true ∧ Below w.heap.size w wr) (fun i _ => c.length - (intOf i).toNat)
        case atStart => exact ⟨0, by omega, rfl, rfl, hbr⟩
        case round =>
          obtain ⟨k, hk, rfl, hmk, hbi⟩ := hrel
          by_cases hkt : k < c.length
          · have hke := List.getElem?_eq_getElem hkt
            have hT := Lib.hid (List.take_succ_eq_append_getElem hkt)
            have hoc := okC_out (okL_at hok hke)
            generalize c[k] = e at hke hT hoc
            obtain ⟨a, b, r⟩ := e
            dsimp only at hoc
            obtain ⟨⟨ha0, ha⟩, ⟨hb0, hb⟩, hr⟩ := hoc
            obtain ⟨a, rfl⟩ := Int.eq_ofNat_of_zero_le ha0
            obtain ⟨b, rfl⟩ := Int.eq_ofNat_of_zero_le hb0
            have ha' : a < l.length := by omega
            have hb' : b < l.length := by omega
            obtain ⟨ad, rv, rfl, _, had, h0, h1, h2, h3⟩ := (hv0.below hbi).at hke
            dsimp only at h0 h1 h2 h3
            have h4 := h3
            obtain ⟨A3, c3, rfl, hlen3, _⟩ := h3
            have hxa := List.getElem?_eq_getElem ha'
            have hxb := List.getElem?_eq_getElem hb'
            have hRA : Hid (relAt l (a : Nat) (b : Nat) = relR l[a].1 l[a].2 l[b].1 l[b].2) := Lib.hid (by unfold relAt; rw [Int.toNat_natCast, Int.toNat_natCast, List.getD_eq_getElem?_getD, List.getD_eq_getElem?_getD, hxa, hxb]; rfl)
            generalize l[a] = pa at *
            generalize l[b] = pb at *
            obtain ⟨pa1, pa2⟩ := pa
            obtain ⟨pb1, pb2⟩ := pb
            obtain ⟨al, rfl, _, hal, x1, x2⟩ := (hu0.below hbi).at hxa
            obtain ⟨al', e1, _, _, y1, y2⟩ := (hu0.below hbi).at hxb
            injection e1 with e1
            subst e1
            dsimp only at x1 x2 y1 y2
            have hbz := hbi.size
            have wa : (0 : Int) ≤ (a : Int) := by omega
            have wb : (0 : Int) ≤ (b : Int) := by omega
            go_wp2
            have bW : Below wr.heap.size wr (wr.alloc (.cells #[.int .i64 (a : Nat), .int .i64 (b : Nat), .slice A3 r.length c3] 50)) := (Below.refl _ _).alloc (Nat.le_refl _) _
            have oW : Own (wr.alloc (.cells #[.int .i64 (a : Nat), .int .i64 (b : Nat), .slice A3 r.length c3] 50)) wr.heap.size 50 #[.int .i64 (a : Nat), .int .i64 (b : Nat), .slice A3 r.length c3] := Own.new _ _ _
            have hla : (al.add (a * 2)).block < wr.heap.size := by rw [add_block]; omega
            have hlb : (al.add (b * 2)).block < wr.heap.size := by rw [add_block]; omega
            have f3 := (bW.cell (p := al.add (a * 2)) hla).trans x1
            have f4 := (bW.cell (p := ⟨(al.add (a * 2)).block, (al.add (a * 2)).off + 1, none⟩) hla).trans x2
            have f5 := (bW.cell (p := al.add (b * 2)) hlb).trans y1
            have f6 := (bW.cell (p := ⟨(al.add (b * 2)).block, (al.add (b * 2)).off + 1, none⟩) hlb).trans y2
            have rW : RdI (wr.alloc (.cells #[.int .i64 (a : Nat), .int .i64 (b : Nat), .slice A3 r.length c3] 50)) L' wr.heap.size (.slice A3 r.length c3) r := (h4.more hbz (Nat.le_refl _)).below bW
            have BW := hbi.trans (bW.mono hbz)
            have sW : wr.heap.size < (wr.alloc (.cells #[.int .i64 (a : Nat), .int .i64 (b : Nat), .slice A3 r.length c3] 50)).heap.size := by simp
            generalize wr.alloc (.cells #[.int .i64 (a : Nat), .int .i64 (b : Nat), .slice A3 r.length c3] 50) = W at *
            generalize hg8 : wr.heap.size = g8 at *
            have f1 : W.cell? ⟨g8, 0, none⟩ = some (.int .i64 (a : Nat)) := oW.cell 0
            have f2 : W.cell? ⟨g8, 1, none⟩ = some (.int .i64 (b : Nat)) := oW.cell 1
            clear x1 x2 y1 y2 h0 h1 h2 bW
            go_region_held3 (fun w' => w'.cell? ⟨g8, 0, none⟩ = some (.int .i64 (a : Nat)) ∧ w'.cell? ⟨g8, 1, none⟩ = some (.int .i64 (b : Nat)) ∧ w'.cell? (al.add (a * 2)) = some (.int .i64 pa1) ∧ w'.cell? ⟨(al.add (a * 2)).block, (al.add (a * 2)).off + 1, none⟩ = some (.int .i64 pa2) ∧ w'.cell? (al.add (b * 2)) = some (.int .i64 pb1) ∧ w'.cell? ⟨(al.add (b * 2)).block, (al.add (b * 2)).off + 1, none⟩ = some (.int .i64 pb2))
              (first | exact ⟨f1, f2, f3, f4, f5, f6⟩ | exact ⟨d1, d2, d3, d4, d5, d6⟩)
              (first
                | (go_at_call 12; refine (rel_any _ _ _ _ _).mono ?_; rintro e w3 ⟨rfl, hb3⟩; have o3 := Own.below (show Own W.drew _ _ _ from oW) hb3 sW; have d1 : w3.cell? ⟨g8, 0, none⟩ = some (.int .i64 (a : Nat)) := o3.cell 0; have d2 : w3.cell? ⟨g8, 1, none⟩ = some (.int .i64 (b : Nat)) := o3.cell 1; have d3 := (hb3.cell (p := al.add (a * 2)) (Nat.lt_trans hla sW)).trans f3; have d4 := (hb3.cell (p := ⟨(al.add (a * 2)).block, (al.add (a * 2)).off + 1, none⟩) (Nat.lt_trans hla sW)).trans f4; have d5 := (hb3.cell (p := al.add (b * 2)) (Nat.lt_trans hlb sW)).trans f5; have d6 := (hb3.cell (p := ⟨(al.add (b * 2)).block, (al.add (b * 2)).off + 1, none⟩) (Nat.lt_trans hlb sW)).trans f6))
            have bW3 : Below W.heap.size W w3 := (below_drewN (Below.refl W.heap.size W) 1).trans hb3
            have k2 : w3.cell? ⟨g8, 2, none⟩ = some (.slice A3 r.length c3) := o3.cell 2
            have r3 := (rW.more (Nat.le_of_lt sW) (Nat.le_refl _)).below bW3
            have B3 := BW.trans (bW3.mono BW.size)
            cases hC : decide (relR pa1 pa2 pb1 pb2 ∈ r)
            · have hF : Hid (satB l c = false) := Lib.hid (by
                have h1 : c.all (metC l) = false := by rw [List.all_eq_false]; exact ⟨_, List.mem_of_getElem? hke, by unfold metC; rw [hRA.out]; dsimp only; rw [hC]; simp⟩
                unfold satB; rw [h1]; simp)
              go_wp2_with (go_at_call 45; refine (contains_any _ r _ _ L' (r3.more bW3.size (Nat.le_refl _))).mono ?_; rw [hC]; rintro e w4 ⟨rfl, hb4⟩)
              go_ret
              exact ⟨congrArg (fun b => Ending.returned (.bool b)) hF.out.symm, B3.trans (hb4.mono B3.size)⟩
            · have hT2 : Hid ((c.take (k + 1)).all (metC l) = true) := Lib.hid (by rw [hT.out, List.all_append, hmk]; simp only [List.all_cons, List.all_nil, Bool.and_true, Bool.true_and]; unfold metC; rw [hRA.out]; exact hC)
              go_wp2_with (go_at_call 45; refine (contains_any _ r _ _ L' (r3.more bW3.size (Nat.le_refl _))).mono ?_; rw [hC]; rintro e w4 ⟨rfl, hb4⟩)
              go_roundw
              case rel => exact ⟨k + 1, by omega, by go_num, hT2.out, B3.trans (hb4.mono B3.size)⟩
              case measure => simp [intOf]; omega
          · have hkl : k = c.length := by omega
            subst hkl
            rw [List.take_length] at hmk
            have hT : Hid (satB l c = true) := Lib.hid (by unfold satB; rw [hok, HVL.out, hmk]; rfl)
            go_wp2
            go_ret
            exact ⟨congrArg (fun b => Ending.returned (.bool b)) hT.out.symm, hbi⟩
end Go.Proofs.YtmmecpmeemhglaaDoor
