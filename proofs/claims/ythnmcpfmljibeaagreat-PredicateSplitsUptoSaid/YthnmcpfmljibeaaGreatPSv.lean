import Derived.Test.YthnmcpfmljibeaaGreatRR
import Derived.Test.YthnmcpfmljibeaaGreatPSt
import Derived.Test.YthnmcpfmljibeaaGreatPRh
import Derived.Test.YthnmcpfmljibeaaGreatUE
import Derived.Test.YthnmcpfmljibeaaGreatQEE
import Derived.WalkKit
import Derived.WalkSpells
import Derived.WalkLawsBesides
import Derived.Deep.QuietTactic
import Derived.BigQuiet
import Derived.Handy
import Derived.Lib.Hide
import Derived.Test.YthnmcpfmljibeaaGreatPP
import Derived.Test.YthnmcpfmljibeaaGreatPAw
/-
  Split, by the reference. Conditions: lengths, a bounded depth. (Written by mkPdSv.py.)
-/
namespace Go.Proofs.YthnmcpfmljibeaaGreat
set_option maxRecDepth 100000
set_option linter.unusedVariables false
set_option linter.unusedSimpArgs false
open Go.RowKit

theorem rdI_ownS {w : World} {base : Nat} {v : Value} {l : List Int} (h : w.ownsRow base 3 1 v l.length (intsV l)) (hl : l.length ≤ 9223372036854775807) : RdI w base w.heap.size v l := by
  rcases own_get h with ⟨rfl, h0⟩ | ⟨g, c, rfl, hb, hg, _, hc⟩
  · obtain rfl := List.eq_nil_of_length_eq_zero h0
    exact ⟨none, 0, rfl, by simp, fun k n hk => by simp at hk⟩
  · exact ⟨some ⟨g, 0, none⟩, c, rfl, hl, fun k n hk => ⟨⟨g, 0, none⟩, rfl, hb, hg, by rw [addX]; exact hc k _ (by unfold intsV; rw [List.getElem?_map, hk]; rfl)⟩⟩
def vec3 (a b c : Value) (i : Nat) : Value := match i with | 0 => a | 1 => b | _ => c
/-- The three rows of the reference, the arguments of their trees where they were. -/
structure R3s (w wr : World) (L base D adb : Nat) (v : Nat → Value) (q : Nat → List ExU) : Prop where
  kid : ∀ i, i < 3 → ∀ p ∈ q i, RdE w L w.heap.size D p.2 p.1.args
  row : ∀ i, i < 3 → wr.ownsRow base 26 7 (v i) (q i).length (flatE (q i))
  apart : ∀ i j, i < 3 → j < 3 → i ≠ j → ∀ b, (v i).ownBlock = some b → (v j).ownBlock ≠ some b
  off : ∀ i, i < 3 → ∀ b, (v i).ownBlock = some b → b ≠ adb
theorem R3s.congr {w wr : World} {L base D adb : Nat} {v v' : Nat → Value} {q : Nat → List ExU} (h : R3s w wr L base D adb v q) (hv : ∀ j, j < 3 → v j = v' j) : R3s w wr L base D adb v' q :=
  ⟨h.kid, fun i hi => by rw [← hv i hi]; exact h.row i hi, fun i j hi hj => by rw [← hv i hi, ← hv j hj]; exact h.apart i j hi hj, fun i hi => by rw [← hv i hi]; exact h.off i hi⟩
theorem R3s.below {w wr W : World} {L base D adb : Nat} {v : Nat → Value} {q : Nat → List ExU} (h : R3s w wr L base D adb v q) (hb : Below wr.heap.size wr W) : R3s w W L base D adb v q :=
  ⟨h.kid, fun i hi => own_below (h.row i hi) hb, h.apart, h.off⟩
theorem R3s.grown {w W w3 : World} {L base D adb i g3 n c : Nat} {v : Nat → Value} {q : Nat → List ExU} {p : ExU} (h : R3s w W L base D adb v q) (hi : i < 3) (hg : W.grownBy w3 (v i).ownBlock) (hv : (v i).ownBlock = some g3 ∨ g3 = W.heap.size) (hrow : w3.ownsRow base 26 7 (.slice (some ⟨g3, 0, none⟩) n c) (q i ++ [p]).length (flatE (q i ++ [p])))
    (hkid : RdE w L w.heap.size D p.2 p.1.args) (had : adb < W.heap.size) : R3s w w3 L base D adb (fun j => if j = i then .slice (some ⟨g3, 0, none⟩) n c else v j) (fun j => if j = i then q i ++ [p] else q j) := by
  have hlt := fun j (hj : j < 3) b (hb : (v j).ownBlock = some b) => (h.row j hj).lt b hb
  have hnew : ∀ b, (Value.slice (some ⟨g3, 0, none⟩) n c).ownBlock = some b → (v i).ownBlock = some b ∨ b = W.heap.size := fun b hb => by
    have e : g3 = b := by simpa [Value.ownBlock] using hb
    rw [← e]; exact hv
  refine ⟨fun j hj r hr => ?_, fun j hj => ?_, fun j k hj hk hjk b hb => ?_, fun j hj b hb => ?_⟩
  · by_cases e1 : j = i
    · rw [if_pos e1] at hr
      rcases List.mem_append.1 hr with hr | hr
      · exact h.kid i hi r hr
      · rw [List.mem_singleton.1 hr]; exact hkid
    · rw [if_neg e1] at hr; exact h.kid j hj r hr
  · by_cases e1 : j = i
    · rw [if_pos e1, if_pos e1]; exact hrow
    · rw [if_neg e1, if_neg e1]
      exact own_keep (h.row j hj) fun b hb => hg.block b (hlt j hj b hb).2 (fun h2 => h.apart j i hj hi e1 b hb h2.symm)
  · by_cases e1 : j = i
    · rw [if_pos e1] at hb
      have e2 : k ≠ i := fun e2 => hjk (e1.trans e2.symm)
      rw [if_neg e2]
      intro hb2
      rcases hnew b hb with h5 | h5
      · exact h.apart i k hi hk (Ne.symm e2) b h5 hb2
      · have := hlt k hk b hb2; omega
    · rw [if_neg e1] at hb
      by_cases e2 : k = i
      · rw [if_pos e2]
        intro hb2
        rcases hnew b hb2 with h5 | h5
        · exact h.apart j i hj hi e1 b hb h5
        · have := hlt j hj b hb; omega
      · rw [if_neg e2]
        exact h.apart j k hj hk hjk b hb
  · by_cases e1 : j = i
    · rw [if_pos e1] at hb
      rcases hnew b hb with h5 | h5
      · exact h.off i hi b h5
      · omega
    · rw [if_neg e1] at hb; exact h.off j hj b hb
theorem R3s.list {w W : World} {L base D adb i : Nat} {v : Nat → Value} {q : Nat → List ExU} (h : R3s w W L base D adb v q) (hi : i < 3) (hb : Below w.heap.size w W) (hl : (q i).length ≤ 1099511627776) : RdE W 0 W.heap.size (D + 1) (v i) ((q i).map (·.1)) := by
  rcases own_get (h.row i hi) with ⟨h1, h2⟩ | ⟨g, c, h1, _, _, _, h2⟩
  · rw [h1, List.eq_nil_of_length_eq_zero h2]
    exact rdE_nil W _ _ _ (by omega)
  · rw [h1]
    exact rdE_J (h.kid i hi) hb hb.size (fun j u hj => by rw [addX]; exact h2 j u hj) hl
set_option maxRecDepth 100000 in
set_option maxHeartbeats 12800000 in
theorem rSplit_any (d : Nat) (n0 : Int) (e : Ex) (u : Value) (w : World) (L : Nat) (h : RdE w L w.heap.size d u e.args) (hl : (conjE d e).length ≤ 1099511627776) (hcols : ∀ x ∈ conjE d e, (colE d x).length ≤ 1099511627775) :
    Calls Tryz.prog 25 #[exV e u, .int .i64 n0] w fun e' w' => ∃ A0 c0 A1 c1 A2 c2, e' = .returned (.tuple #[.slice A0 (onS n0 d (conjE d e) 0).length c0, .slice A1 (onS n0 d (conjE d e) 1).length c1, .slice A2 (onS n0 d (conjE d e) 2).length c2]) ∧ RdE w' 0 w'.heap.size (d + 1) (.slice A0 (onS n0 d (conjE d e) 0).length c0) (onS n0 d (conjE d e) 0) ∧ RdE w' 0 w'.heap.size (d + 1) (.slice A1 (onS n0 d (conjE d e) 1).length c1) (onS n0 d (conjE d e) 1) ∧ RdE w' 0 w'.heap.size (d + 1) (.slice A2 (onS n0 d (conjE d e) 2).length c2) (onS n0 d (conjE d e) 2) ∧ Below w.heap.size w w' := by
  obtain ⟨A, c, rfl, _⟩ := h.slice
  have b1 := bel_mk w (.cells (exA e (.slice A e.args.length c)) 26)
  have b2 := bel_mk (w.alloc (.cells (exA e (.slice A e.args.length c)) 26)) (.cells #[] 26)
  have b3 := bel_mk ((w.alloc (.cells (exA e (.slice A e.args.length c)) 26)).alloc (.cells #[] 26)) (.cells #[] 26)
  have b4 := bel_mk (((w.alloc (.cells (exA e (.slice A e.args.length c)) 26)).alloc (.cells #[] 26)).alloc (.cells #[] 26)) (.cells #[] 26)
  have HB := Lib.hid (((b1.trans (b2.mono b1.size)).trans (b3.mono (b1.trans (b2.mono b1.size)).size)).trans (b4.mono ((b1.trans (b2.mono b1.size)).trans (b3.mono (b1.trans (b2.mono b1.size)).size)).size))
  have HE := Lib.hid ((((Own.new w 26 (exA e (.slice A e.args.length c))).alloc (.cells #[] 26)).alloc (.cells #[] 26)).alloc (.cells #[] 26))
  have r0 : ((w.alloc (.cells (exA e (.slice A e.args.length c)) 26)).alloc (.cells #[] 26)).ownsRow (w.heap.size + 1) 26 7 (.slice (some ⟨w.heap.size + 1, 0, none⟩) 0 0) 0 (flatE []) := by have h := World.ownsRow_lit (base := w.heap.size + 1) (e := 26) (size := 7) (w.alloc (.cells (exA e (.slice A e.args.length c)) 26)) #[] 0 (by simp) (by decide) rfl; simp only [World.size_alloc] at h; exact h
  have r1 : (((w.alloc (.cells (exA e (.slice A e.args.length c)) 26)).alloc (.cells #[] 26)).alloc (.cells #[] 26)).ownsRow (w.heap.size + 1) 26 7 (.slice (some ⟨w.heap.size + 1 + 1, 0, none⟩) 0 0) 0 (flatE []) := by have h := World.ownsRow_lit (base := w.heap.size + 1) (e := 26) (size := 7) ((w.alloc (.cells (exA e (.slice A e.args.length c)) 26)).alloc (.cells #[] 26)) #[] 0 (by simp) (by decide) rfl; simp only [World.size_alloc] at h; exact h
  have r2 : ((((w.alloc (.cells (exA e (.slice A e.args.length c)) 26)).alloc (.cells #[] 26)).alloc (.cells #[] 26)).alloc (.cells #[] 26)).ownsRow (w.heap.size + 1) 26 7 (.slice (some ⟨w.heap.size + 1 + 1 + 1, 0, none⟩) 0 0) 0 (flatE []) := by have h := World.ownsRow_lit (base := w.heap.size + 1) (e := 26) (size := 7) (((w.alloc (.cells (exA e (.slice A e.args.length c)) 26)).alloc (.cells #[] 26)).alloc (.cells #[] 26)) #[] 0 (by simp only [World.size_alloc]; omega) (by decide) rfl; simp only [World.size_alloc] at h; exact h
  replace r0 := own_below (own_below r0 b3) b4
  replace r1 := own_below r1 b4
  have HC := Lib.hid (rConj_any w w.heap.size L d (Nat.le_refl _) d (Nat.le_refl _) e (.slice A e.args.length c) _ HB.out h hl)
  have HL := Lib.hid hl
  have HCS := Lib.hid hcols
  have HR := Lib.hid (And.intro r0 (And.intro r1 r2))
  clear b1 b2 b3 b4 r0 r1 r2 h hl hcols
  generalize hzs : conjE d e = zs at *
  clear hzs
  unfold exV exA at *
  have e0 := HE.out.cell 0
  have e1 := HE.out.cell 1
  have e2 := HE.out.cell 2
  have e3 := HE.out.cell 3
  have e4 := HE.out.cell 4
  have e5 := HE.out.cell 5
  have e6 := HE.out.cell 6
  go_enter Tryz.func25, Tryz.ntmps25
  go_wp2_with fail
  with_reducible refine HC.out.mono ?_
  rintro e' w2 ⟨ad, c2, ps, rfl, hm2, hk2, ha2, hc2, hb2⟩
  have HB2 := Lib.hid (HB.out.trans (hb2.mono HB.out.size))
  have HM2 := Lib.hid hm2
  have HK2 := Lib.hid hk2
  have hpl : ps.length = zs.length := by rw [← hm2, List.length_map]
  have HPL := Lib.hid hpl
  simp only [World.size_alloc] at ha2
  have HA2 := Lib.hid ha2
  have HS2 := Lib.hid (show R3s w w2 L (w.heap.size + 1) d ad.block (vec3 (.slice (some ⟨w.heap.size + 1, 0, none⟩) 0 0) (.slice (some ⟨w.heap.size + 1 + 1, 0, none⟩) 0 0) (.slice (some ⟨w.heap.size + 1 + 1 + 1, 0, none⟩) 0 0)) (fun _ => []) from
    ⟨fun _ _ p hp => (by cases hp), fun i hi => by
      match i, hi with
      | 0, _ => exact own_below HR.out.1 hb2
      | 1, _ => exact own_below HR.out.2.1 hb2
      | 2, _ => exact own_below HR.out.2.2 hb2, fun i j hi hj hij b hb => by
      match i, j, hi, hj with
      | 0, 0, _, _ => exact absurd rfl hij
      | 1, 1, _, _ => exact absurd rfl hij
      | 2, 2, _, _ => exact absurd rfl hij
      | 0, 1, _, _ => (intro hb2; simp only [vec3, Value.ownBlock, Option.some.injEq] at hb hb2; omega)
      | 0, 2, _, _ => (intro hb2; simp only [vec3, Value.ownBlock, Option.some.injEq] at hb hb2; omega)
      | 1, 0, _, _ => (intro hb2; simp only [vec3, Value.ownBlock, Option.some.injEq] at hb hb2; omega)
      | 1, 2, _, _ => (intro hb2; simp only [vec3, Value.ownBlock, Option.some.injEq] at hb hb2; omega)
      | 2, 0, _, _ => (intro hb2; simp only [vec3, Value.ownBlock, Option.some.injEq] at hb hb2; omega)
      | 2, 1, _, _ => (intro hb2; simp only [vec3, Value.ownBlock, Option.some.injEq] at hb hb2; omega), fun i hi b hb => by
      match i, hi with
      | 0, _ => simp only [vec3, Value.ownBlock, Option.some.injEq] at hb; omega
      | 1, _ => simp only [vec3, Value.ownBlock, Option.some.injEq] at hb; omega
      | 2, _ => simp only [vec3, Value.ownBlock, Option.some.injEq] at hb; omega⟩)
  have HC2 := Lib.hid hc2
  clear e0 e1 e2 e3 e4 e5 e6 HC HE HB hb2 HR hm2 hk2 hc2 hpl ha2
  go_wp2_with fail
  go_loopw [7, 8, 9, 11] (fun va vb vc i wr => ∃ k : Nat, k ≤ ps.length ∧ i = .int .i64 k ∧ Hid (∃ q : Nat → List ExU, R3s w wr L (w.heap.size + 1) d ad.block (vec3 va vb vc) q ∧ (∀ i, i < 3 → (q i).map (·.1) = onS n0 d (zs.take k) i) ∧ ∀ j u, (flatE ps)[j]? = some u → wr.cell? (ad.add j) = some u) ∧ Below w.heap.size w wr) (fun _ _ _ i _ => ps.length - (intOf i).toNat)
  case atStart => exact ⟨0, Nat.zero_le _, rfl, Lib.hid ⟨fun _ => [], HS2.out, fun _ _ => rfl, HC2.out⟩, HB2.out⟩
  case round =>
    clear HS2 HC2 HB2
    obtain ⟨k, hk, rfl, HQ, hbr⟩ := hrel
    have hbz := hbr.size
    obtain ⟨q, hS, hqm, hcel⟩ := HQ.out
    have hq0 := hqm 0 (by decide)
    have hq1 := hqm 1 (by decide)
    have hq2 := hqm 2 (by decide)
    have hw0 := hS.row 0 (by decide)
    dsimp only [vec3] at hw0
    obtain ⟨Av0, cv0, rfl⟩ := ownX_shape hw0
    clear hw0
    have hw1 := hS.row 1 (by decide)
    dsimp only [vec3] at hw1
    obtain ⟨Av1, cv1, rfl⟩ := ownX_shape hw1
    clear hw1
    have hw2 := hS.row 2 (by decide)
    dsimp only [vec3] at hw2
    obtain ⟨Av2, cv2, rfl⟩ := ownX_shape hw2
    clear hw2
    have hqle : ∀ i, i < 3 → (q i).length ≤ 1099511627776 := fun i hi => by
      have h1 := onS_le n0 d (zs.take k) i
      have h2 := congrArg List.length (hqm i hi)
      rw [List.length_map] at h2
      have h3 := HL.out
      have h4 := List.length_take_le k zs
      have h5 : (zs.take k).length ≤ zs.length := by rw [List.length_take]; omega
      omega
    by_cases hlt : k < ps.length
    · have hki : (k : Int) < ps.length := by omega
      have hkl : (k : Int) + 1 ≤ 1099511627776 := by have := HPL.out; have := HL.out; omega
      have hwr : wrap64 ((k : Int) + 1) = (k : Int) + 1 := by unfold wrap64; omega
      have hpk := List.getElem?_eq_getElem hlt
      have hzk : zs[k]? = some (ps[k]).1 := by rw [← HM2.out, List.getElem?_map, hpk]; rfl
      have htk : zs.take (k + 1) = zs.take k ++ [(ps[k]).1] := by rw [List.take_add_one, hzk]; rfl
      have hmem : (ps[k]).1 ∈ zs := List.mem_of_getElem? hzk
      have hcl := HCS.out _ hmem
      have hkid := HK2.out _ (List.getElem_mem hlt)
      have G := fun j hj u hu => hcel (k * 7 + j) u ((flatE_get ps k _ hpk j hj).trans hu)
      have hadd : ∀ j, j ≠ 0 → ad.add (k * 7 + j) = ⟨(ad.add (k * 7)).block, (ad.add (k * 7)).off + j, none⟩ := fun j hj => by
        rw [add_blk]
        unfold Addr.add
        rw [if_neg (by omega)]
        split <;> simp <;> omega
      generalize ps[k] = p at *
      obtain ⟨⟨q0, q1, ⟨q2, q3, q4⟩, q5, q6⟩, u⟩ := p
      dsimp only at hkid hcl htk
      obtain ⟨A3, c3, rfl, hl3⟩ := hkid.slice
      have x0 := G 0 (by decide) _ rfl
      have x1 := G 1 (by decide) _ rfl
      have x2 := G 2 (by decide) _ rfl
      have x3 := G 3 (by decide) _ rfl
      have x4 := G 4 (by decide) _ rfl
      have x5 := G 5 (by decide) _ rfl
      have x6 := G 6 (by decide) _ rfl
      rw [Nat.add_zero] at x0
      rw [hadd 1 (by decide)] at x1
      rw [hadd 2 (by decide)] at x2
      rw [hadd 3 (by decide)] at x3
      rw [hadd 4 (by decide)] at x4
      rw [hadd 5 (by decide)] at x5
      rw [hadd 6 (by decide)] at x6
      have hlta := World.block_lt_of_cell? wr _ x0
      rw [add_blk] at hlta
      have hcn := rColumns_any d ⟨q0, q1, (q2, q3, q4), q5, q6⟩ (.slice A3 q6.length c3) wr L (hkid.step hbr (Nat.le_refl _)) hcl
      rw [refE_eq] at hcn
      have HSD := Lib.hid (show ∀ i, onS n0 d (zs.take (k + 1)) i = onS n0 d (zs.take k) i ++ (if sidL n0 (colS (colE d ⟨q0, q1, (q2, q3, q4), q5, q6⟩)) = i then [(⟨q0, q1, (q2, q3, q4), q5, q6⟩ : Ex)] else []) from fun i => by rw [htk, onS_snoc])
      generalize colS (colE d ⟨q0, q1, (q2, q3, q4), q5, q6⟩) = l at *
      unfold exV at hcn
      dsimp only at hcn
      have HCN := Lib.hid hcn
      have HS := Lib.hid hS
      have HQM := Lib.hid hqm
      have HCel := Lib.hid hcel
      have HQL := Lib.hid hqle
      have HKid := Lib.hid hkid
      clear hkid G hadd hcn hS hqm hcel HQ hpk hzk htk hmem hcl hq0 hq1 hq2 hqle
      go_wp2_with fail
      with_reducible refine HCN.out.mono ?_
      rintro e' w4 ⟨vl, rfl, hrl, hb4⟩
      have hz4 := hb4.size
      have HB4 := Lib.hid (hbr.trans (hb4.mono hbz))
      have HS4 := Lib.hid (HS.out.below hb4)
      have HCel4 := Lib.hid (show ∀ j u, (flatE ps)[j]? = some u → w4.cell? (ad.add j) = some u from fun j u hj => (hb4.cell (by rw [add_blk]; exact hlta)).trans (HCel.out j u hj))
      replace x0 := (hb4.cell (p := ad.add (k * 7)) (by rw [add_blk]; exact hlta)).trans x0
      replace x1 := (hb4.cell (p := ⟨(ad.add (k * 7)).block, _, none⟩) (by rw [add_blk]; exact hlta)).trans x1
      replace x2 := (hb4.cell (p := ⟨(ad.add (k * 7)).block, _, none⟩) (by rw [add_blk]; exact hlta)).trans x2
      replace x3 := (hb4.cell (p := ⟨(ad.add (k * 7)).block, _, none⟩) (by rw [add_blk]; exact hlta)).trans x3
      replace x4 := (hb4.cell (p := ⟨(ad.add (k * 7)).block, _, none⟩) (by rw [add_blk]; exact hlta)).trans x4
      replace x5 := (hb4.cell (p := ⟨(ad.add (k * 7)).block, _, none⟩) (by rw [add_blk]; exact hlta)).trans x5
      replace x6 := (hb4.cell (p := ⟨(ad.add (k * 7)).block, _, none⟩) (by rw [add_blk]; exact hlta)).trans x6
      (try dsimp only at x0 x1 x2 x3 x4 x5 x6)
      have bl := bel_mk w4 (.cells #[.int .i64 q0, .int .i64 q1, .int .i64 q2, .int .i64 q3, .string q4, .string q5, .slice A3 q6.length c3] 26)
      have HBL := Lib.hid bl
      have HS5 := Lib.hid (HS4.out.below bl)
      have had4 : ad.block < w4.heap.size := Nat.lt_of_lt_of_le hlta hz4
      clear HCN HS HCel bl hb4
      by_cases h0 : l = []
      · subst h0
        have HFN := Lib.hid (HSD.out)
        have hsd : sidL n0 [] = 0 := rfl
        rw [hsd] at HFN
        have hvl := rdI_ownS hrl (by simp)
        obtain ⟨Al, cl, rfl, _, _⟩ := hvl
        simp only [List.length_nil] at *
        clear hrl HSD
        go_wp2_with (at_builtin; refine append_ex1 _ rfl _ _ rfl (w.heap.size + 1) _ (q 0) rfl (show World.ownsRow _ _ _ 7 (.slice Av0 (q 0).length cv0) _ _ from HS5.out.row 0 (by decide)) w4.heap.size 1 ((⟨q0, q1, (q2, q3, q4), q5, q6⟩, .slice A3 q6.length c3) : ExU) ⟨_, _, _, rfl⟩ rfl (lit_ex w4 ((⟨q0, q1, (q2, q3, q4), q5, q6⟩, .slice A3 q6.length c3) : ExU)) (HQL.out 0 (by decide)) (by simp only [World.size_alloc]; omega) ?_; intro g3 cap3 w3 hr3 hg3 hv3; have HR5 := Lib.hid hr3; have HG5 := Lib.hid hg3; have HV5 := Lib.hid hv3; clear hr3 hg3 hv3)
        have HN5 := Lib.hid ((HS5.out.grown (i := 0) (g3 := g3) (n := (q 0).length + 1) (c := cap3) (p := ((⟨q0, q1, (q2, q3, q4), q5, q6⟩, .slice A3 q6.length c3) : ExU)) (by decide) HG5.out HV5.out HR5.out HKid.out (by simp only [World.size_alloc]; omega)))
        have HB5 := Lib.hid ((HB4.out.trans (HBL.out.mono HB4.out.size)).grown HG5.out (by simp only [World.size_alloc]; omega) (fun b hb => by have := (HS5.out.row 0 (by decide)).lt b hb; omega))
        have HC5 := Lib.hid (show ∀ j u, (flatE ps)[j]? = some u → w3.cell? (ad.add j) = some u from fun j u hj => (World.grownBy.cell_far HG5.out (ad.add j) (by rw [add_blk]; simp only [World.size_alloc]; omega) (fun e => by rw [add_blk] at e; exact HS5.out.off 0 (by decide) _ e.symm rfl)).trans ((HBL.out.cell (by rw [add_blk]; exact had4)).trans (HCel4.out j u hj)))
        have HM5 := Lib.hid (show ∀ i, i < 3 → ((fun j => if j = 0 then q 0 ++ [((⟨q0, q1, (q2, q3, q4), q5, q6⟩, .slice A3 q6.length c3) : ExU)] else q j) i).map (·.1) = onS n0 d (zs.take (k + 1)) i from fun i hi => by
          dsimp only
          rw [HFN.out i]
          by_cases e1 : i = 0
          · subst e1
            rw [if_pos rfl, if_pos rfl, List.map_append, HQM.out _ hi]
            rfl
          · rw [if_neg e1, if_neg (fun e2 => e1 e2.symm), List.append_nil]
            exact HQM.out i hi)
        clear x0 x1 x2 x3 x4 x5 x6 HS4 HS5 HBL HCel4 HFN HQM
        have HV6 := Lib.hid (HN5.out.congr (v' := vec3 (.slice (some ⟨g3, 0, none⟩) ((q 0).length + 1) cap3) (.slice Av1 (q 1).length cv1) (.slice Av2 (q 2).length cv2)) (fun j hj => by
          match j, hj with
          | 0, _ => rfl
          | 1, _ => rfl
          | 2, _ => rfl))
        go_roundw
        case rel => exact ⟨k + 1, by omega, by go_num, Lib.hid ⟨_, HV6.out, HM5.out, HC5.out⟩, HB5.out⟩
        case measure => simp [intOf]; omega
      · obtain ⟨m, hm⟩ : ∃ m, l.length = m + 1 := ⟨l.length - 1, by have : l.length ≠ 0 := fun h => h0 (List.eq_nil_of_length_eq_zero h); omega⟩
        have hlast : l[m]? = some (l.getLastD 0) := by
          cases l with
          | nil => exact absurd rfl h0
          | cons a t =>
            rw [List.getLastD_cons]
            have h := List.getLast?_eq_getElem? (l := a :: t)
            rw [hm] at h
            simp only [Nat.add_sub_cancel] at h
            rw [← h, List.getLast?_cons, List.getLastD_eq_getLast?]
        have hhead : l[0]? = some (l.headD 0) := by
          cases l with
          | nil => exact absurd rfl h0
          | cons a t => rfl
        have hll : l.length ≤ 9223372036854775807 := by
          rcases own_get hrl with ⟨_, h2⟩ | ⟨g, cg, h1, _, _, h2, _⟩
          · omega
          · rcases hrl.2 with ⟨h3, _⟩ | ⟨g2, cap, cur, h3, _, _, h4, h5, _⟩
            · rw [h3] at h1; cases h1
            · unfold maxLen at h5; omega
        have hvl := rdI_ownS hrl hll
        have HSV := Lib.hid (show sidL n0 l = if l.getLastD 0 < n0 then 0 else if n0 ≤ l.headD 0 then 1 else 2 from by unfold sidL; rw [if_neg h0])
        obtain ⟨Al, cl, rfl, _, hlc⟩ := hvl
        obtain ⟨adl, rfl, _, hal, cl1⟩ := hlc m _ hlast
        obtain ⟨adl2, hA2, _, hal2, cl0⟩ := hlc 0 _ hhead
        injection hA2 with hA2
        subst hA2
        rw [show adl.add 0 = adl by unfold Addr.add; simp] at cl0
        have HFN := Lib.hid (HSD.out)
        rw [HSV.out] at HFN
        rw [hm] at *
        clear hlc hlast hhead hrl HSD HSV hll
        generalize l.getLastD 0 = la at *
        generalize l.headD 0 = lh at *
        have hm1 : IntKind.i64.wrap ((m : Int) + 1 - 1) = (m : Int) := by rw [IntKind.wrap_i64]; omega
        have hm3 : IntKind.i64.wrap ((m : Int) + 1 + -1) = (m : Int) := by rw [IntKind.wrap_i64]; omega
        have hm4 : wrap64 ((m : Int) + 1 - 1) = (m : Int) := by unfold wrap64; omega
        have hm0 : ((m : Int) + 1 == 0) = false := by rw [beq_eq_false_iff_ne]; omega
        have hmi : (m : Int) < (m : Int) + 1 := by omega
        have hm00 : (0 : Int) < (m : Int) + 1 := by omega
        clear hm h0
        by_cases h1 : la < n0
        · rw [if_pos h1] at HFN
          go_wp2_with (at_builtin; refine append_ex1 _ rfl _ _ rfl (w.heap.size + 1) _ (q 0) rfl (show World.ownsRow _ _ _ 7 (.slice Av0 (q 0).length cv0) _ _ from HS5.out.row 0 (by decide)) w4.heap.size 1 ((⟨q0, q1, (q2, q3, q4), q5, q6⟩, .slice A3 q6.length c3) : ExU) ⟨_, _, _, rfl⟩ rfl (lit_ex w4 ((⟨q0, q1, (q2, q3, q4), q5, q6⟩, .slice A3 q6.length c3) : ExU)) (HQL.out 0 (by decide)) (by simp only [World.size_alloc]; omega) ?_; intro g3 cap3 w3 hr3 hg3 hv3; have HR5 := Lib.hid hr3; have HG5 := Lib.hid hg3; have HV5 := Lib.hid hv3; clear hr3 hg3 hv3)
          have HN5 := Lib.hid ((HS5.out.grown (i := 0) (g3 := g3) (n := (q 0).length + 1) (c := cap3) (p := ((⟨q0, q1, (q2, q3, q4), q5, q6⟩, .slice A3 q6.length c3) : ExU)) (by decide) HG5.out HV5.out HR5.out HKid.out (by simp only [World.size_alloc]; omega)))
          have HB5 := Lib.hid ((HB4.out.trans (HBL.out.mono HB4.out.size)).grown HG5.out (by simp only [World.size_alloc]; omega) (fun b hb => by have := (HS5.out.row 0 (by decide)).lt b hb; omega))
          have HC5 := Lib.hid (show ∀ j u, (flatE ps)[j]? = some u → w3.cell? (ad.add j) = some u from fun j u hj => (World.grownBy.cell_far HG5.out (ad.add j) (by rw [add_blk]; simp only [World.size_alloc]; omega) (fun e => by rw [add_blk] at e; exact HS5.out.off 0 (by decide) _ e.symm rfl)).trans ((HBL.out.cell (by rw [add_blk]; exact had4)).trans (HCel4.out j u hj)))
          have HM5 := Lib.hid (show ∀ i, i < 3 → ((fun j => if j = 0 then q 0 ++ [((⟨q0, q1, (q2, q3, q4), q5, q6⟩, .slice A3 q6.length c3) : ExU)] else q j) i).map (·.1) = onS n0 d (zs.take (k + 1)) i from fun i hi => by
            dsimp only
            rw [HFN.out i]
            by_cases e1 : i = 0
            · subst e1
              rw [if_pos rfl, if_pos rfl, List.map_append, HQM.out _ hi]
              rfl
            · rw [if_neg e1, if_neg (fun e2 => e1 e2.symm), List.append_nil]
              exact HQM.out i hi)
          clear x0 x1 x2 x3 x4 x5 x6 HS4 HS5 HBL HCel4 HFN HQM
          have HV6 := Lib.hid (HN5.out.congr (v' := vec3 (.slice (some ⟨g3, 0, none⟩) ((q 0).length + 1) cap3) (.slice Av1 (q 1).length cv1) (.slice Av2 (q 2).length cv2)) (fun j hj => by
            match j, hj with
            | 0, _ => rfl
            | 1, _ => rfl
            | 2, _ => rfl))
          go_roundw
          case rel => exact ⟨k + 1, by omega, by go_num, Lib.hid ⟨_, HV6.out, HM5.out, HC5.out⟩, HB5.out⟩
          case measure => simp [intOf]; omega
        · rw [if_neg h1] at HFN
          by_cases h2 : n0 ≤ lh
          · rw [if_pos h2] at HFN
            have h1b : decide (la < n0) = false := by simp only [decide_eq_false_iff_not]; exact h1
            have h2b : decide (n0 ≤ lh) = true := by simp only [decide_eq_true_eq]; exact h2
            go_wp2_with (at_builtin; refine append_ex1 _ rfl _ _ rfl (w.heap.size + 1) _ (q 1) rfl (show World.ownsRow _ _ _ 7 (.slice Av1 (q 1).length cv1) _ _ from HS5.out.row 1 (by decide)) w4.heap.size 1 ((⟨q0, q1, (q2, q3, q4), q5, q6⟩, .slice A3 q6.length c3) : ExU) ⟨_, _, _, rfl⟩ rfl (lit_ex w4 ((⟨q0, q1, (q2, q3, q4), q5, q6⟩, .slice A3 q6.length c3) : ExU)) (HQL.out 1 (by decide)) (by simp only [World.size_alloc]; omega) ?_; intro g3 cap3 w3 hr3 hg3 hv3; have HR5 := Lib.hid hr3; have HG5 := Lib.hid hg3; have HV5 := Lib.hid hv3; clear hr3 hg3 hv3)
            have HN5 := Lib.hid ((HS5.out.grown (i := 1) (g3 := g3) (n := (q 1).length + 1) (c := cap3) (p := ((⟨q0, q1, (q2, q3, q4), q5, q6⟩, .slice A3 q6.length c3) : ExU)) (by decide) HG5.out HV5.out HR5.out HKid.out (by simp only [World.size_alloc]; omega)))
            have HB5 := Lib.hid ((HB4.out.trans (HBL.out.mono HB4.out.size)).grown HG5.out (by simp only [World.size_alloc]; omega) (fun b hb => by have := (HS5.out.row 1 (by decide)).lt b hb; omega))
            have HC5 := Lib.hid (show ∀ j u, (flatE ps)[j]? = some u → w3.cell? (ad.add j) = some u from fun j u hj => (World.grownBy.cell_far HG5.out (ad.add j) (by rw [add_blk]; simp only [World.size_alloc]; omega) (fun e => by rw [add_blk] at e; exact HS5.out.off 1 (by decide) _ e.symm rfl)).trans ((HBL.out.cell (by rw [add_blk]; exact had4)).trans (HCel4.out j u hj)))
            have HM5 := Lib.hid (show ∀ i, i < 3 → ((fun j => if j = 1 then q 1 ++ [((⟨q0, q1, (q2, q3, q4), q5, q6⟩, .slice A3 q6.length c3) : ExU)] else q j) i).map (·.1) = onS n0 d (zs.take (k + 1)) i from fun i hi => by
              dsimp only
              rw [HFN.out i]
              by_cases e1 : i = 1
              · subst e1
                rw [if_pos rfl, if_pos rfl, List.map_append, HQM.out _ hi]
                rfl
              · rw [if_neg e1, if_neg (fun e2 => e1 e2.symm), List.append_nil]
                exact HQM.out i hi)
            clear x0 x1 x2 x3 x4 x5 x6 HS4 HS5 HBL HCel4 HFN HQM
            have HV6 := Lib.hid (HN5.out.congr (v' := vec3 (.slice Av0 (q 0).length cv0) (.slice (some ⟨g3, 0, none⟩) ((q 1).length + 1) cap3) (.slice Av2 (q 2).length cv2)) (fun j hj => by
              match j, hj with
              | 0, _ => rfl
              | 1, _ => rfl
              | 2, _ => rfl))
            go_roundw
            case rel => exact ⟨k + 1, by omega, by go_num, Lib.hid ⟨_, HV6.out, HM5.out, HC5.out⟩, HB5.out⟩
            case measure => simp [intOf]; omega
          · rw [if_neg h2] at HFN
            have h1b : decide (la < n0) = false := by simp only [decide_eq_false_iff_not]; exact h1
            have h2b : decide (n0 ≤ lh) = false := by simp only [decide_eq_false_iff_not]; exact h2
            go_wp2_with (at_builtin; refine append_ex1 _ rfl _ _ rfl (w.heap.size + 1) _ (q 2) rfl (show World.ownsRow _ _ _ 7 (.slice Av2 (q 2).length cv2) _ _ from HS5.out.row 2 (by decide)) w4.heap.size 1 ((⟨q0, q1, (q2, q3, q4), q5, q6⟩, .slice A3 q6.length c3) : ExU) ⟨_, _, _, rfl⟩ rfl (lit_ex w4 ((⟨q0, q1, (q2, q3, q4), q5, q6⟩, .slice A3 q6.length c3) : ExU)) (HQL.out 2 (by decide)) (by simp only [World.size_alloc]; omega) ?_; intro g3 cap3 w3 hr3 hg3 hv3; have HR5 := Lib.hid hr3; have HG5 := Lib.hid hg3; have HV5 := Lib.hid hv3; clear hr3 hg3 hv3)
            have HN5 := Lib.hid ((HS5.out.grown (i := 2) (g3 := g3) (n := (q 2).length + 1) (c := cap3) (p := ((⟨q0, q1, (q2, q3, q4), q5, q6⟩, .slice A3 q6.length c3) : ExU)) (by decide) HG5.out HV5.out HR5.out HKid.out (by simp only [World.size_alloc]; omega)))
            have HB5 := Lib.hid ((HB4.out.trans (HBL.out.mono HB4.out.size)).grown HG5.out (by simp only [World.size_alloc]; omega) (fun b hb => by have := (HS5.out.row 2 (by decide)).lt b hb; omega))
            have HC5 := Lib.hid (show ∀ j u, (flatE ps)[j]? = some u → w3.cell? (ad.add j) = some u from fun j u hj => (World.grownBy.cell_far HG5.out (ad.add j) (by rw [add_blk]; simp only [World.size_alloc]; omega) (fun e => by rw [add_blk] at e; exact HS5.out.off 2 (by decide) _ e.symm rfl)).trans ((HBL.out.cell (by rw [add_blk]; exact had4)).trans (HCel4.out j u hj)))
            have HM5 := Lib.hid (show ∀ i, i < 3 → ((fun j => if j = 2 then q 2 ++ [((⟨q0, q1, (q2, q3, q4), q5, q6⟩, .slice A3 q6.length c3) : ExU)] else q j) i).map (·.1) = onS n0 d (zs.take (k + 1)) i from fun i hi => by
              dsimp only
              rw [HFN.out i]
              by_cases e1 : i = 2
              · subst e1
                rw [if_pos rfl, if_pos rfl, List.map_append, HQM.out _ hi]
                rfl
              · rw [if_neg e1, if_neg (fun e2 => e1 e2.symm), List.append_nil]
                exact HQM.out i hi)
            clear x0 x1 x2 x3 x4 x5 x6 HS4 HS5 HBL HCel4 HFN HQM
            have HV6 := Lib.hid (HN5.out.congr (v' := vec3 (.slice Av0 (q 0).length cv0) (.slice Av1 (q 1).length cv1) (.slice (some ⟨g3, 0, none⟩) ((q 2).length + 1) cap3)) (fun j hj => by
              match j, hj with
              | 0, _ => rfl
              | 1, _ => rfl
              | 2, _ => rfl))
            go_roundw
            case rel => exact ⟨k + 1, by omega, by go_num, Lib.hid ⟨_, HV6.out, HM5.out, HC5.out⟩, HB5.out⟩
            case measure => simp [intOf]; omega
    · have hki : ¬ (k : Int) < ps.length := by omega
      have htl : zs.take k = zs := List.take_of_length_le (by have := HPL.out; omega)
      rw [htl] at hq0 hq1 hq2
      have R0 := hS.list (i := 0) (by decide) hbr (hqle 0 (by decide))
      have R1 := hS.list (i := 1) (by decide) hbr (hqle 1 (by decide))
      have R2 := hS.list (i := 2) (by decide) hbr (hqle 2 (by decide))
      rw [hq0] at R0
      rw [hq1] at R1
      rw [hq2] at R2
      have l0 : (q 0).length = (onS n0 d zs 0).length := by rw [← hq0, List.length_map]
      have l1 : (q 1).length = (onS n0 d zs 1).length := by rw [← hq1, List.length_map]
      have l2 : (q 2).length = (onS n0 d zs 2).length := by rw [← hq2, List.length_map]
      have HX0 := Lib.hid (show RdE wr 0 wr.heap.size (d + 1) (.slice Av0 (q 0).length cv0) (onS n0 d zs 0) from R0)
      have HX1 := Lib.hid (show RdE wr 0 wr.heap.size (d + 1) (.slice Av1 (q 1).length cv1) (onS n0 d zs 1) from R1)
      have HX2 := Lib.hid (show RdE wr 0 wr.heap.size (d + 1) (.slice Av2 (q 2).length cv2) (onS n0 d zs 2) from R2)
      rw [l0] at HX0 ⊢
      rw [l1] at HX1 ⊢
      rw [l2] at HX2 ⊢
      clear R0 R1 R2 l0 l1 l2 hq0 hq1 hq2 hS hqm hcel HQ hqle htl
      go_wp2
      (try simp only [Exit.inBlock, Exit.then]); refine bodyPost_ret (results_tmp3 rfl _ _ _) rfl ?_
      exact ⟨_, _, _, _, _, _, rfl, HX0.out, HX1.out, HX2.out, hbr⟩
end Go.Proofs.YthnmcpfmljibeaaGreat
/-
  The walk of the statement PredicateSplits. Conditions: a bounded depth, few conjuncts, few columns.
-/
namespace Go.Proofs.YthnmcpfmljibeaaGreat
set_option maxRecDepth 100000
set_option linter.unusedVariables false
set_option linter.unusedSimpArgs false
open Go.RowKit

theorem mem_flat_le (f : Ex → List Int) : ∀ (es : List Ex) (a : Ex), a ∈ es → (f a).length ≤ (es.flatMap f).length
  | [], _, h => by cases h
  | b :: t, a, h => by
    rw [List.flatMap_cons, List.length_append]
    rcases List.mem_cons.1 h with rfl | h
    · omega
    · have := mem_flat_le f t a h; omega
/-- A conjunct has no more columns than the expression. -/
theorem col_conj : ∀ (d : Nat) (e : Ex) (B : Nat), (∀ m, (colE m e).length ≤ B) → ∀ x ∈ conjE d e, ∀ m, (colE m x).length ≤ B
  | 0, e, B, _, x, hx => by unfold conjE at hx; cases hx
  | d + 1, e, B, h, x, hx => by
    by_cases h1 : e.op = 5 ∧ wfX e = true
    · rw [conjE_and d e h1] at hx
      obtain ⟨a, ha, hx⟩ := List.mem_flatMap.1 hx
      refine col_conj d a B (fun m => ?_) x hx
      have h2 := h (m + 1)
      unfold colE at h2
      rw [List.length_append] at h2
      have h3 := mem_flat_le (colE m) e.args a ha
      omega
    · rw [conjE_leaf d e h1] at hx
      rw [List.mem_singleton.1 hx]
      exact h
set_option maxRecDepth 100000 in
set_option maxHeartbeats 6400000 in
theorem law_splits (d : Nat) (e : Ex) (A : Option Addr) (c : Nat) (n0 : Int) (w : World) (h : RdE w 0 w.heap.size d (.slice A e.args.length c) e.args) (hl : (conjE d e).length ≤ 1099511627776) (hcols : ∀ x ∈ conjE d e, (colE d x).length ≤ 1099511627775) :
    Calls Tryz.prog 7 #[exV e (.slice A e.args.length c), .int .i64 n0] w fun e' w' => e' = .returned (.bool true) ∧ Below w.heap.size w w' := by
  have b1 := bel_mk w (.cells (exA e (.slice A e.args.length c)) 26)
  have H1 := Lib.hid (fun (W : World) (hb : Below w.heap.size w W) => pSplit_any d n0 e (.slice A e.args.length c) W 0 (h.step hb (Nat.le_refl _)) hl (fun x hx => Nat.le_trans (hcols x hx) (by omega)))
  have H2 := Lib.hid (fun (W : World) (hb : Below w.heap.size w W) => rSplit_any d n0 e (.slice A e.args.length c) W 0 (h.step hb (Nat.le_refl _)) hl hcols)
  have H3 := Lib.hid (fun (es : List Ex) (u v : Value) (W : World) (L : Nat) (hu : RdE W L W.heap.size (d + 2) u es) (hw : RdE W 0 W.heap.size (d + 1) v es) => rList_self (d + 1) es u v W L 0 hu (hw.up (by omega)))
  have H7 := Lib.hid (fun W => awakeL_any W)
  have HB := Lib.hid b1
  have HO := Lib.hid (Own.new w 26 (exA e (.slice A e.args.length c)))
  clear h hl hcols b1
  generalize onS n0 d (conjE d e) 0 = z0 at *
  generalize onS n0 d (conjE d e) 1 = z1 at *
  generalize onS n0 d (conjE d e) 2 = z2 at *
  unfold exV exA at *
  have x0 := HO.out.cell 0
  have x1 := HO.out.cell 1
  have x2 := HO.out.cell 2
  have x3 := HO.out.cell 3
  have x4 := HO.out.cell 4
  have x5 := HO.out.cell 5
  have x6 := HO.out.cell 6
  go_enter Tryz.func7, Tryz.ntmps7
  go_wp2_with fail
  with_reducible refine (H1.out _ HB.out).mono ?_
  rintro e1 w1 ⟨A0, c0, A1, c1, A2, c2, rfl, hp0, hp1, hp2, hb1⟩
  replace HB := Lib.hid (HB.out.trans (hb1.mono HB.out.size))
  replace HO := Lib.hid (HO.out.below hb1 HO.out.lt)
  have P0 := Lib.hid hp0
  have P1 := Lib.hid hp1
  have P2 := Lib.hid hp2
  clear x0 x1 x2 x3 x4 x5 x6 hp0 hp1 hp2 hb1 H1
  have x0 := HO.out.cell 0
  have x1 := HO.out.cell 1
  have x2 := HO.out.cell 2
  have x3 := HO.out.cell 3
  have x4 := HO.out.cell 4
  have x5 := HO.out.cell 5
  have x6 := HO.out.cell 6
  go_wp2_with fail
  with_reducible refine (H2.out _ HB.out).mono ?_
  rintro e2 w2 ⟨B0, d0, B1, d1, B2, d2, rfl, hq0, hq1, hq2, hb2⟩
  replace HB := Lib.hid (HB.out.trans (hb2.mono HB.out.size))
  replace P0 := Lib.hid (P0.out.step hb2 (Nat.le_refl _))
  replace P1 := Lib.hid (P1.out.step hb2 (Nat.le_refl _))
  replace P2 := Lib.hid (P2.out.step hb2 (Nat.le_refl _))
  have Q0 := Lib.hid hq0
  have Q1 := Lib.hid hq1
  have Q2 := Lib.hid hq2
  clear x0 x1 x2 x3 x4 x5 x6 hq0 hq1 hq2 hb2 H2 HO
  go_wp2_with fail
  with_reducible refine (H3.out _ _ _ _ _ P0.out Q0.out).mono ?_
  rintro e3 w3 ⟨rfl, hb3⟩
  replace HB := Lib.hid (HB.out.trans (hb3.mono HB.out.size))
  replace P1 := Lib.hid (P1.out.step hb3 (Nat.le_refl _))
  replace P2 := Lib.hid (P2.out.step hb3 (Nat.le_refl _))
  replace Q1 := Lib.hid (Q1.out.step hb3 (Nat.le_refl _))
  replace Q2 := Lib.hid (Q2.out.step hb3 (Nat.le_refl _))
  clear hb3 P0 Q0
  go_wp2_with fail
  with_reducible refine (H3.out _ _ _ _ _ P1.out Q1.out).mono ?_
  rintro e4 w4 ⟨rfl, hb4⟩
  replace HB := Lib.hid (HB.out.trans (hb4.mono HB.out.size))
  replace P2 := Lib.hid (P2.out.step hb4 (Nat.le_refl _))
  replace Q2 := Lib.hid (Q2.out.step hb4 (Nat.le_refl _))
  clear hb4 P1 Q1
  go_wp2_with fail
  with_reducible refine (H3.out _ _ _ _ _ P2.out Q2.out).mono ?_
  rintro e5 w5 ⟨rfl, hb5⟩
  replace HB := Lib.hid (HB.out.trans (hb5.mono HB.out.size))
  clear hb5 P2 Q2
  go_wp2_with fail
  with_reducible refine (H7.out _).mono ?_
  rintro e6 w6 ⟨rfl, hb6⟩
  replace HB := Lib.hid (HB.out.trans (hb6.mono HB.out.size))
  clear hb6
  go_wp2
  go_ret
  exact ⟨rfl, HB.out⟩
end Go.Proofs.YthnmcpfmljibeaaGreat
