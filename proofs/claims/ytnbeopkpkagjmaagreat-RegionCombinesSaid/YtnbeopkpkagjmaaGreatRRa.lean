import Derived.Test.YtnbeopkpkagjmaaGreatRD
import Derived.Test.YtnbeopkpkagjmaaGreatRE
import Derived.Test.YtnbeopkpkagjmaaGreatRV
import Derived.Test.YtnbeopkpkagjmaaGreatRTw
import Derived.Test.YtnbeopkpkagjmaaGreatIN
import Derived.WalkKit
import Derived.WalkSpells
import Derived.WalkLawsBesides
import Derived.Deep.QuietTactic
import Derived.BigQuiet
import Derived.Handy
import Derived.Lib.Hide
import Derived.Test.YtnbeopkpkagjmaaGreatRCr
import Derived.Test.YtnbeopkpkagjmaaGreatRCb
import Derived.Test.YtnbeopkpkagjmaaGreatSA
/-
  Contracts of the reference's Slice, Section and times over rectangles. Conditions: lengths. (Written by mkRgRa.py.)
-/
namespace Go.Proofs.YtnbeopkpkagjmaaGreat
set_option maxRecDepth 100000
set_option linter.unusedVariables false
set_option linter.unusedSimpArgs false
open Go.RowKit

theorem atS_step {l : List Rc} {k : Nat} {r : Rc} (h : l[k]? = some r) (t : Int) : atS (l.take (k + 1)) t = atS (l.take k) t ++ (if (sndR r && cnt r.2.1 r.2.2 t) = true then [r.1] else []) := by
  obtain ⟨h1, rfl⟩ := List.getElem?_eq_some_iff.1 h
  unfold atS
  rw [List.take_succ_eq_append_getElem h1, List.filter_append, List.map_append]
  congr 1
  rw [List.filter_cons, List.filter_nil]
  split <;> rfl
theorem atV_step {l : List Rc} {k : Nat} {r : Rc} (h : l[k]? = some r) (t : Int) : atV (l.take (k + 1)) t = atV (l.take k) t ++ (if (sndR r && cnt r.1.1 r.1.2 t) = true then [r.2] else []) := by
  obtain ⟨h1, rfl⟩ := List.getElem?_eq_some_iff.1 h
  unfold atV
  rw [List.take_succ_eq_append_getElem h1, List.filter_append, List.map_append]
  congr 1
  rw [List.filter_cons, List.filter_nil]
  split <;> rfl
theorem atV_len (l : List Rc) (x : Int) : (atV l x).length ≤ l.length := by
  unfold atV; rw [List.length_map]; exact List.length_filter_le _ _
def sysL (l : List Rc) : List (Int × Int) := (l.filter sndR).map (·.2)
theorem sysL_len (l : List Rc) : (sysL l).length ≤ l.length := by
  unfold sysL; rw [List.length_map]; exact List.length_filter_le _ _
theorem sysL_step {l : List Rc} {k : Nat} {r : Rc} (h : l[k]? = some r) : sysL (l.take (k + 1)) = sysL (l.take k) ++ (if sndR r = true then [r.2] else []) := by
  obtain ⟨h1, rfl⟩ := List.getElem?_eq_some_iff.1 h
  unfold sysL
  rw [List.take_succ_eq_append_getElem h1, List.filter_append, List.map_append]
  congr 1
  rw [List.filter_cons, List.filter_nil]
  split <;> rfl
set_option maxRecDepth 100000 in
set_option maxHeartbeats 3200000 in
theorem rSliceR_any (v : Value) (l : List Rc) (t : Int) (w : World) (L : Nat) (hv : RdR w L w.heap.size v l) (hlen : l.length ≤ 20000) :
    Calls Tryz.prog 13 #[v, .int .i64 t] w (RetPers w (slcR l t)) := by
  have hv0 := hv
  obtain ⟨A, c, rfl, hl, _⟩ := hv
  go_enter Tryz.func13, Tryz.ntmps13
  go_wp2
  go_loopw [5, 6] (fun o i wr => ∃ k : Nat, k ≤ l.length ∧ i = .int .i64 k ∧ wr.ownsRow w.heap.size 33 2 o (atS (l.take k) t).length (flatP (atS (l.take k) t)) ∧ Below w.heap.size w wr) (fun _ i _ => l.length - (intOf i).toNat)
  case atStart => exact ⟨0, by omega, rfl, own_nilP _ _, Below.refl _ _⟩
  case round =>
    obtain ⟨k, hk, rfl, hown, hbr⟩ := hrel
    have hbz := hbr.size
    by_cases hlt : k < l.length
    · have hx := List.getElem?_eq_getElem hlt
      generalize l[k] = r at hx
      obtain ⟨⟨a, b⟩, p, q⟩ := r
      have hS := atS_step hx t
      have hle := atS_len (l.take k) t
      rw [List.length_take] at hle
      have i2 : (0 : Int) ≤ (k : Int) := by omega
      have i3 : (k : Int) < (l.length : Int) := by omega
      obtain ⟨ad, rfl, _, hab, hc⟩ := (hv0.below hbr).at hx
      have habk : (ad.add (k * 4)).block < wr.heap.size := by rw [add_block]; omega
      obtain ⟨c0, c1, c2, c3⟩ := id hc
      dsimp only at c0 c1 c2 c3 hS
      have hM := fun W => sound_any a b p q W
      generalize sndR ((a, b), (p, q)) = X at *
      have hM2 := fun W => rcontains_any p q t W
      generalize cnt p q t = Y at *
      generalize atS (l.take k) t = R at *
      have HO := Lib.hid hown
      clear hx hown
      go_wp2_with fail
      with_reducible refine (hM _).mono ?_
      rintro e w1 ⟨rfl, hb1⟩
      have z1 := hb1.size
      have HX := Lib.hid (own_below HO.out hb1)
      have BX : Below w.heap.size w w1 := hbr.trans (hb1.mono hbz)
      have hc1 := hc.below hb1 habk
      clear HO c0 c1 c2 c3 hc
      obtain ⟨c0, c1, c2, c3⟩ := id hc1
      dsimp only at c0 c1 c2 c3
      cases X
      · have HS := Lib.hid (by simpa using hS : atS (l.take (k + 1)) t = R)
        clear hS
        go_wp2
        go_roundw
        case rel => exact ⟨k + 1, by omega, by go_num, by rw [HS.out]; exact HX.out, BX⟩
        case measure => simp [intOf]; omega
      · go_wp2_with fail
        with_reducible refine (hM2 _).mono ?_
        rintro e w2 ⟨rfl, hb2⟩
        have z2 := hb2.size
        have HY := Lib.hid (own_below HX.out hb2)
        have BY : Below w.heap.size w w2 := BX.trans (hb2.mono BX.size)
        have hc2 := hc1.below hb2 (by omega)
        clear HX c0 c1 c2 c3 hc1
        obtain ⟨c0, c1, c2, c3⟩ := id hc2
        dsimp only at c0 c1 c2 c3
        cases Y
        · have HS := Lib.hid (by simpa using hS : atS (l.take (k + 1)) t = R)
          clear hS
          go_wp2
          go_roundw
          case rel => exact ⟨k + 1, by omega, by go_num, by rw [HS.out]; exact HY.out, BY⟩
          case measure => simp [intOf]; omega
        · have HS := Lib.hid (by simpa using hS : atS (l.take (k + 1)) t = R ++ [(a, b)])
          clear hS
          go_wp2_with (at_builtin; refine append_per _ rfl _ _ rfl w.heap.size _ R rfl (World.ownsRow.alloc HY.out _) ⟨w2.heap.size, 0, none⟩ a b rfl (World.news_of_block (heap_alloc_new _ _)) ?_ ?_ ?_; (focus omega); (focus go_size); intro v1 w3 hown1 hb3)
          go_roundw
          case rel => exact ⟨k + 1, by omega, by go_num, by rw [HS.out]; exact hown1, BY.trans (((Below.refl w.heap.size w2).alloc (by omega) _).trans hb3)⟩
          case measure => simp [intOf]; omega
    · have hd : ¬ (k : Int) < l.length := by omega
      have hT : l.take k = l := List.take_of_length_le (by omega)
      rw [hT] at hown
      have hle := atS_len l t
      have HX := Lib.hid (rOf_any _ _ wr w.heap.size (RdP.of_own hown (by omega)) (by omega))
      clear hown hT
      go_wp2_with fail
      with_reducible refine HX.out.mono ?_
      rintro e w1 ⟨v1, rfl, r1, hb1⟩
      go_wp2
      go_ret
      exact ⟨_, rfl, r1.more (Nat.le_refl _) hbz, hbr.trans (hb1.mono hbz)⟩
set_option maxRecDepth 100000 in
set_option maxHeartbeats 3200000 in
theorem rSectionR_any (v : Value) (l : List Rc) (t : Int) (w : World) (L : Nat) (hv : RdR w L w.heap.size v l) (hlen : l.length ≤ 20000) :
    Calls Tryz.prog 15 #[v, .int .i64 t] w (RetPers w (secR l t)) := by
  have hv0 := hv
  obtain ⟨A, c, rfl, hl, _⟩ := hv
  go_enter Tryz.func15, Tryz.ntmps15
  go_wp2
  go_loopw [5, 6] (fun o i wr => ∃ k : Nat, k ≤ l.length ∧ i = .int .i64 k ∧ wr.ownsRow w.heap.size 33 2 o (atV (l.take k) t).length (flatP (atV (l.take k) t)) ∧ Below w.heap.size w wr) (fun _ i _ => l.length - (intOf i).toNat)
  case atStart => exact ⟨0, by omega, rfl, own_nilP _ _, Below.refl _ _⟩
  case round =>
    obtain ⟨k, hk, rfl, hown, hbr⟩ := hrel
    have hbz := hbr.size
    by_cases hlt : k < l.length
    · have hx := List.getElem?_eq_getElem hlt
      generalize l[k] = r at hx
      obtain ⟨⟨a, b⟩, p, q⟩ := r
      have hS := atV_step hx t
      have hle := atV_len (l.take k) t
      rw [List.length_take] at hle
      have i2 : (0 : Int) ≤ (k : Int) := by omega
      have i3 : (k : Int) < (l.length : Int) := by omega
      obtain ⟨ad, rfl, _, hab, hc⟩ := (hv0.below hbr).at hx
      have habk : (ad.add (k * 4)).block < wr.heap.size := by rw [add_block]; omega
      obtain ⟨c0, c1, c2, c3⟩ := id hc
      dsimp only at c0 c1 c2 c3 hS
      have hM := fun W => sound_any a b p q W
      generalize sndR ((a, b), (p, q)) = X at *
      have hM2 := fun W => rcontains_any a b t W
      generalize cnt a b t = Y at *
      generalize atV (l.take k) t = R at *
      have HO := Lib.hid hown
      clear hx hown
      go_wp2_with fail
      with_reducible refine (hM _).mono ?_
      rintro e w1 ⟨rfl, hb1⟩
      have z1 := hb1.size
      have HX := Lib.hid (own_below HO.out hb1)
      have BX : Below w.heap.size w w1 := hbr.trans (hb1.mono hbz)
      have hc1 := hc.below hb1 habk
      clear HO c0 c1 c2 c3 hc
      obtain ⟨c0, c1, c2, c3⟩ := id hc1
      dsimp only at c0 c1 c2 c3
      cases X
      · have HS := Lib.hid (by simpa using hS : atV (l.take (k + 1)) t = R)
        clear hS
        go_wp2
        go_roundw
        case rel => exact ⟨k + 1, by omega, by go_num, by rw [HS.out]; exact HX.out, BX⟩
        case measure => simp [intOf]; omega
      · go_wp2_with fail
        with_reducible refine (hM2 _).mono ?_
        rintro e w2 ⟨rfl, hb2⟩
        have z2 := hb2.size
        have HY := Lib.hid (own_below HX.out hb2)
        have BY : Below w.heap.size w w2 := BX.trans (hb2.mono BX.size)
        have hc2 := hc1.below hb2 (by omega)
        clear HX c0 c1 c2 c3 hc1
        obtain ⟨c0, c1, c2, c3⟩ := id hc2
        dsimp only at c0 c1 c2 c3
        cases Y
        · have HS := Lib.hid (by simpa using hS : atV (l.take (k + 1)) t = R)
          clear hS
          go_wp2
          go_roundw
          case rel => exact ⟨k + 1, by omega, by go_num, by rw [HS.out]; exact HY.out, BY⟩
          case measure => simp [intOf]; omega
        · have HS := Lib.hid (by simpa using hS : atV (l.take (k + 1)) t = R ++ [(p, q)])
          clear hS
          go_wp2_with (at_builtin; refine append_per _ rfl _ _ rfl w.heap.size _ R rfl (World.ownsRow.alloc HY.out _) ⟨w2.heap.size, 0, none⟩ p q rfl (World.news_of_block (heap_alloc_new _ _)) ?_ ?_ ?_; (focus omega); (focus go_size); intro v1 w3 hown1 hb3)
          go_roundw
          case rel => exact ⟨k + 1, by omega, by go_num, by rw [HS.out]; exact hown1, BY.trans (((Below.refl w.heap.size w2).alloc (by omega) _).trans hb3)⟩
          case measure => simp [intOf]; omega
    · have hd : ¬ (k : Int) < l.length := by omega
      have hT : l.take k = l := List.take_of_length_le (by omega)
      rw [hT] at hown
      have hle := atV_len l t
      have HX := Lib.hid (rOf_any _ _ wr w.heap.size (RdP.of_own hown (by omega)) (by omega))
      clear hown hT
      go_wp2_with fail
      with_reducible refine HX.out.mono ?_
      rintro e w1 ⟨v1, rfl, r1, hb1⟩
      go_wp2
      go_ret
      exact ⟨_, rfl, r1.more (Nat.le_refl _) hbz, hbr.trans (hb1.mono hbz)⟩
set_option maxRecDepth 100000 in
set_option maxHeartbeats 3200000 in
theorem rTimes_any (v : Value) (l : List Rc) (w : World) (L : Nat) (hv : RdR w L w.heap.size v l) (hlen : l.length ≤ 20000) :
    Calls Tryz.prog 58 #[v] w (RetInts w (ptsR l)) := by
  have hv0 := hv
  obtain ⟨A, c, rfl, hl, _⟩ := hv
  go_enter Tryz.func58, Tryz.ntmps58
  go_wp2
  go_loopw [3, 4] (fun o i wr => ∃ k : Nat, k ≤ l.length ∧ i = .int .i64 k ∧ wr.ownsRow w.heap.size 33 2 o (sysL (l.take k)).length (flatP (sysL (l.take k))) ∧ Below w.heap.size w wr) (fun _ i _ => l.length - (intOf i).toNat)
  case atStart => exact ⟨0, by omega, rfl, own_nilP _ _, Below.refl _ _⟩
  case round =>
    obtain ⟨k, hk, rfl, hown, hbr⟩ := hrel
    have hbz := hbr.size
    by_cases hlt : k < l.length
    · have hx := List.getElem?_eq_getElem hlt
      generalize l[k] = r at hx
      obtain ⟨⟨a, b⟩, p, q⟩ := r
      have hS := sysL_step hx
      have hle := sysL_len (l.take k)
      rw [List.length_take] at hle
      have i2 : (0 : Int) ≤ (k : Int) := by omega
      have i3 : (k : Int) < (l.length : Int) := by omega
      obtain ⟨ad, rfl, _, hab, hc⟩ := (hv0.below hbr).at hx
      have habk : (ad.add (k * 4)).block < wr.heap.size := by rw [add_block]; omega
      obtain ⟨c0, c1, c2, c3⟩ := id hc
      dsimp only at c0 c1 c2 c3 hS
      have hM := fun W => sound_any a b p q W
      generalize sndR ((a, b), (p, q)) = X at *
      generalize sysL (l.take k) = R at *
      have HO := Lib.hid hown
      clear hx hown
      go_wp2_with fail
      with_reducible refine (hM _).mono ?_
      rintro e w1 ⟨rfl, hb1⟩
      have z1 := hb1.size
      have HX := Lib.hid (own_below HO.out hb1)
      have BX : Below w.heap.size w w1 := hbr.trans (hb1.mono hbz)
      have hc1 := hc.below hb1 habk
      clear HO c0 c1 c2 c3 hc
      obtain ⟨c0, c1, c2, c3⟩ := id hc1
      dsimp only at c0 c1 c2 c3
      cases X
      · have HS := Lib.hid (by simpa using hS : sysL (l.take (k + 1)) = R)
        clear hS
        go_wp2
        go_roundw
        case rel => exact ⟨k + 1, by omega, by go_num, by rw [HS.out]; exact HX.out, BX⟩
        case measure => simp [intOf]; omega
      · have HS := Lib.hid (by simpa using hS : sysL (l.take (k + 1)) = R ++ [(p, q)])
        clear hS
        go_wp2_with (at_builtin; refine append_per _ rfl _ _ rfl w.heap.size _ R rfl (World.ownsRow.alloc HX.out _) ⟨w1.heap.size, 0, none⟩ p q rfl (World.news_of_block (heap_alloc_new _ _)) ?_ ?_ ?_; (focus omega); (focus go_size); intro v1 w3 hown1 hb3)
        go_roundw
        case rel => exact ⟨k + 1, by omega, by go_num, by rw [HS.out]; exact hown1, BX.trans (((Below.refl w.heap.size w1).alloc (by omega) _).trans hb3)⟩
        case measure => simp [intOf]; omega
    · have hd : ¬ (k : Int) < l.length := by omega
      have hT : l.take k = l := List.take_of_length_le (by omega)
      rw [hT] at hown
      have hle := sysL_len l
      have HX := Lib.hid (rPts_any _ _ wr w.heap.size (RdP.of_own hown (by omega)) (by omega))
      clear hown hT
      go_wp2_with fail
      with_reducible refine HX.out.mono ?_
      rintro e w1 ⟨v1, rfl, r1, hb1⟩
      go_wp2
      go_ret
      exact ⟨_, rfl, r1.more (Nat.le_refl _) hbz, hbr.trans (hb1.mono hbz)⟩
end Go.Proofs.YtnbeopkpkagjmaaGreat
/-
  Contracts of the reference's slice of a combination and of its combinations. Conditions: lengths.
-/
namespace Go.Proofs.YtnbeopkpkagjmaaGreat
set_option maxRecDepth 100000
set_option linter.unusedVariables false
set_option linter.unusedSimpArgs false
open Go.RowKit

/-- The number of a combination. -/
def Knd (kd : Int) (f : Bool → Bool → Bool) : Prop := (kd = 1 ∧ f = fOr) ∨ (kd = 2 ∧ f = fAnd) ∨ (kd = 3 ∧ f = fSub)
theorem Knd.ff {kd : Int} {f : Bool → Bool → Bool} (h : Knd kd f) : f false false = false := by
  rcases h with ⟨_, rfl⟩ | ⟨_, rfl⟩ | ⟨_, rfl⟩ <;> rfl
theorem slcR_le (l : List Rc) (s : Int) : (slcR l s).length ≤ 2 * l.length := by
  have := comb_len fA (atS l s) []
  have := atS_len l s
  show (comb fA (atS l s) []).length ≤ _
  simp at *; omega
set_option maxRecDepth 100000 in
set_option maxHeartbeats 3200000 in
theorem rSlcK_any (kd : Int) (f : Bool → Bool → Bool) (hk : Knd kd f) (u v : Value) (a b : List Rc) (t : Int) (w : World) (L L2 : Nat) (hu : RdR w L w.heap.size u a) (hv : RdR w L2 w.heap.size v b) (la : a.length ≤ 5000) (lb : b.length ≤ 5000) :
    Calls Tryz.prog 59 #[.int .i64 kd, u, v, .int .i64 t] w (RetPers w (slcC f a b t)) := by
  have ha := slcR_le a t
  have hb := slcR_le b t
  have HU := Lib.hid (rSliceR_any u a t w L hu (by omega))
  have HV := Lib.hid hv
  have hf := hk.ff
  have HE := Lib.hid (slcC_slc hf a b t)
  clear hu hv
  go_enter Tryz.func59, Tryz.ntmps59
  go_wp2_with fail
  with_reducible refine HU.out.mono ?_
  rintro e w1 ⟨x1, rfl, r1, hb1⟩
  have R1 := Lib.hid r1
  have HV2 := Lib.hid (rSliceR_any v b t w1 L2 (HV.out.step hb1 (Nat.le_refl _)) (by omega))
  clear r1 HU HV
  go_wp2_with fail
  with_reducible refine HV2.out.mono ?_
  rintro e w2 ⟨x2, rfl, r2, hb2⟩
  have B2 := hb1.trans (hb2.mono hb1.size)
  have Q1 := Lib.hid (R1.out.step hb2 (Nat.le_refl _))
  have Q2 := Lib.hid r2
  clear r2 R1 HV2 hb1 hb2
  have z2 := B2.size
  rcases hk with ⟨rfl, rfl⟩ | ⟨rfl, rfl⟩ | ⟨rfl, rfl⟩
  · have HC := Lib.hid (rUnion_any x1 x2 _ _ w2 _ _ Q1.out Q2.out (by omega) (by omega))
    rw [HE.out] at HC
    go_wp2_with fail
    with_reducible refine HC.out.mono ?_
    rintro e w3 ⟨x3, rfl, r3, hb3⟩
    go_wp2
    go_ret
    exact ⟨_, rfl, r3.more (Nat.le_refl _) z2, B2.trans (hb3.mono z2)⟩
  · have HC := Lib.hid (rInter_any x1 x2 _ _ w2 _ _ Q1.out Q2.out (by omega) (by omega))
    rw [HE.out] at HC
    go_wp2_with fail
    with_reducible refine HC.out.mono ?_
    rintro e w3 ⟨x3, rfl, r3, hb3⟩
    go_wp2
    go_ret
    exact ⟨_, rfl, r3.more (Nat.le_refl _) z2, B2.trans (hb3.mono z2)⟩
  · have HC := Lib.hid (rSub_any x1 x2 _ _ w2 _ _ Q1.out Q2.out (by omega) (by omega))
    rw [HE.out] at HC
    go_wp2_with fail
    with_reducible refine HC.out.mono ?_
    rintro e w3 ⟨x3, rfl, r3, hb3⟩
    go_wp2
    go_ret
    exact ⟨_, rfl, r3.more (Nat.le_refl _) z2, B2.trans (hb3.mono z2)⟩
theorem strR_step {q : Int × Int} {l : List (Int × Int)} {k : Nat} {p : Int × Int} (h : l[k]? = some p) : strR q (l.take (k + 1)) = strR q (l.take k) ++ [(p, q)] := by
  obtain ⟨h1, rfl⟩ := List.getElem?_eq_some_iff.1 h
  unfold strR
  rw [List.take_succ_eq_append_getElem h1, List.map_append]; rfl
theorem strR_len (q : Int × Int) (l : List (Int × Int)) : (strR q l).length = l.length := by unfold strR; rw [List.length_map]
/-- Between two runs of the reference: X is out, what is left begins at i. -/
def RunA (f : Bool → Bool → Bool) (a b : List Rc) (P : List Int) (X : List Rc) (i : Nat) : Prop := cmbR f a b = X ++ outR (grp (stp (slcC f a b) (P.drop i)))
theorem RunA.start (f : Bool → Bool → Bool) (a b : List Rc) : RunA f a b (ptsR (a ++ b)) [] 0 := rfl
theorem RunA.next {f : Bool → Bool → Bool} {a b X : List Rc} {P : List Int} {i k : Nat} {x z : Int} {S : List (Int × Int)} (h : RunA f a b P X i) (hik : i < k) (hx : P[i]? = some x) (hz : P[k]? = some z) (hS : slcC f a b x = S) (hm : ∀ j y, i < j → j < k → P[j]? = some y → slcC f a b y = S) (hr : P.length ≤ k + 1 ∨ slcC f a b z ≠ S) :
    RunA f a b P (X ++ strR (x, z) S) k := by
  obtain ⟨h1, e1⟩ := List.getElem?_eq_some_iff.1 hx
  obtain ⟨h2, e2⟩ := List.getElem?_eq_some_iff.1 hz
  unfold RunA at h ⊢
  rw [h, grp_cut _ _ hik h2 (fun j hj h3 h4 => by rw [e1, hS]; exact hm j _ h3 h4 (List.getElem?_eq_getElem hj)) (by rw [e1, e2, hS]; exact hr), outR_cons, List.append_assoc, e1, e2, hS]
  rfl
theorem RunA.stop {f : Bool → Bool → Bool} {a b X : List Rc} {P : List Int} {i : Nat} (h : RunA f a b P X i) (hi : P.length ≤ i + 1) : cmbR f a b = X := by
  unfold RunA at h
  rw [h, grp_end _ _ hi]
  exact List.append_nil X
theorem RunA.len {f : Bool → Bool → Bool} {a b X : List Rc} {P : List Int} {i : Nat} (h : RunA f a b P X i) : X.length ≤ (cmbR f a b).length := by
  unfold RunA at h
  rw [h, List.length_append]; omega
theorem RdI.grownFar {w w' : World} {L B : Nat} {v : Value} {l : List Int} {row : Option Nat} (hr : RdI w L B v l) (h : w.grownBy w' row) (hB : B ≤ w.heap.size) (hp : ∀ g, row = some g → g < L ∨ B ≤ g) : RdI w' L B v l := by
  obtain ⟨A, c, hv, hl, hc⟩ := hr
  refine ⟨A, c, hv, hl, fun k n hk => ?_⟩
  obtain ⟨ad, h1, h0, h2, h3⟩ := hc k n hk
  exact ⟨ad, h1, h0, h2, (World.grownBy.cell_far h (ad.add k) (by rw [add_block]; omega) (by rw [add_block]; intro e; have := hp _ e.symm; omega)).trans h3⟩
end Go.Proofs.YtnbeopkpkagjmaaGreat
