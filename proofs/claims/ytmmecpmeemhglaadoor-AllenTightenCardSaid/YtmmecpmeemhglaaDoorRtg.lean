/-
  Contract of the reference's Tighten for valid constraints. Conditions: at most eight periods.
-/
import Derived.Test.YtmmecpmeemhglaaDoorRti
import Derived.Deep.RegionHeld3
import Derived.WalkKit
import Derived.WalkSpells
import Derived.WalkLawsBesides
import Derived.Deep.QuietTactic
import Derived.BigQuiet
import Derived.Handy
import Derived.Lib.Hide
namespace Go.Proofs.YtmmecpmeemhglaaDoor
open Go.RowKit

/-- What the reference's Tighten returns for valid constraints. -/
def RRes (n : Nat) (l l' : List Con) (b : Bool) : Prop := ∃ B, REnd n l B ∧ ((b = false ∧ l' = [] ∧ ∃ i j, i ≤ j ∧ j < n ∧ mb (netOf B i j) 13 = []) ∨ (b = true ∧ l' = conL n (netOf B) ∧ ∀ i j, i ≤ j → j < n → mb (netOf B i j) 13 ≠ []))
theorem netOf_one (B : BNet) (i j c : Nat) (hc : c < 13) : (netOf B i j).testBit c = B i j c := by
  rw [Bool.eq_iff_iff, netOf_bit]
  exact ⟨fun h => h.2, fun h => ⟨hc, h⟩⟩
theorem mb_nil {B : BNet} {i j : Nat} (h : mb (netOf B i j) 13 = []) : ∀ c, c < 13 → B i j c = false := fun c hc => by
  rw [Bool.eq_false_iff]
  intro hb
  have : (c : Int) ∈ mb (netOf B i j) 13 := (mb_mem _ _).2 ⟨by omega, by omega, by rw [Int.toNat_natCast, netOf_one B i j c hc]; exact hb⟩
  rw [h] at this
  cases this
theorem row_nil (M : Net) (i : Nat) : conRow M i i = [] := by unfold conRow; rw [show i - (i + 1) = 0 by omega]; rfl
theorem row_self (M : Net) (i : Nat) : conRow M i (i + 1) = conRow M i i := by rw [row_nil, conRow_start]
theorem mb_zero (x : Nat) : mb x 0 = [] := rfl
theorem own_get0 {w : World} {base : Nat} {e : TypeId} {sz : Nat} {v : Value} {xs : List Value} (h : w.ownsRow base e sz v 0 xs) : v = .slice none 0 0 ∨ ∃ g c, v = .slice (some ⟨g, 0, none⟩) 0 c := by
  rcases h.2 with ⟨rfl, _⟩ | ⟨g, cap, cur, rfl, _⟩
  · exact .inl rfl
  · exact .inr ⟨g, cap, rfl⟩
theorem own_getN {w : World} {base : Nat} {e : TypeId} {sz n : Nat} {v : Value} {xs : List Value} (h : w.ownsRow base e sz v n xs) (hn : 0 < n) : ∃ g c, v = .slice (some ⟨g, 0, none⟩) n c := by
  rcases h.2 with ⟨rfl, h0⟩ | ⟨g, cap, cur, rfl, _⟩
  · omega
  · exact ⟨g, cap, rfl⟩
def RetTg (w : World) (n : Nat) (l : List Con) (e : Ending) (w' : World) : Prop := ∃ v' b l', e = .returned (.tuple #[v', .bool b]) ∧ RdC w' w.heap.size w'.heap.size v' l' ∧ Below w.heap.size w w' ∧ RRes n l l' b
attribute [local irreducible] rtA rmA mb

set_option maxRecDepth 100000 in
set_option maxHeartbeats 6400000 in
theorem rtight_good (n : Nat) (v : Value) (l : List Con) (w : World) (L : Nat) (hv : RdC w L w.heap.size v l) (h1 : 1 ≤ n) (hn : n ≤ 8) (hok : okL n l = true) :
    Calls Tryd.prog 26 #[.int .i64 n, v] w (RetTg w n l) := by
  have h0 : ¬ (n : Int) < 1 := by omega
  have h2 : ¬ (n : Int) > 8 := by omega
  have hx := rvalidC_any n v l w L hv
  rw [hok] at hx
  obtain ⟨N, hN⟩ : ∃ N, N = 13 * (n * n) := ⟨_, rfl⟩
  have bN : N ≤ 832 := by subst hN; exact Nat.mul_le_mul_left 13 (Nat.mul_le_mul hn hn)
  have w1' : IntKind.i64.wrap (13 * (n : Int)) = 13 * (n : Int) := IntWalk.i64_in _ (by omega)
  have w2' : IntKind.i64.wrap (13 * (n : Int) * (n : Int)) = (N : Int) := by
    have e : 13 * (n : Int) * (n : Int) = (N : Int) := by rw [hN, Int.natCast_mul, Int.natCast_mul, Int.mul_assoc]; rfl
    rw [e]; exact IntWalk.i64_in _ (by omega)
  have hst := fun (w2 : World) L hv' => start_any n v l w2 L hv' hn hok
  have hon := fun M g gm (w : World) hT hM hg => once_any n M g gm w hT hM hg hn
  have HFull : Hid (∀ B, RMid n l N B → REnd n l B) := Lib.hid (fun B h => by rw [hN] at h; exact h.full)
  have HX := Lib.hid (fun (i j c : Nat) (hi : i < n) (hj : j < n) (hc : c < 13) => show 13 * (n * i + j) + c < N by subst hN; exact rm_lt hi hj hc)
  have HL : Hid (∀ M : Net, ∀ m, m ≤ n → (conAll n M m).length ≤ 64) := Lib.hid (fun M m hm => Nat.le_trans (conAll_len n M m) (Nat.le_trans (Nat.mul_le_mul hm hn) (by omega)))
  rw [← hN] at hst hon
  clear hN
  go_enter Tryd.func26, Tryd.ntmps26
  go_wp2_with fail
  refine hx.mono ?_
  rintro e w1 ⟨rfl, hb1⟩
  go_wp2_with fail
  refine (rtable_any _).mono ?_
  rintro e w2 ⟨g, rfl, hg, hT, hb2⟩
  have B2 := hb1.trans (hb2.mono hb1.size)
  go_wp2_with fail
  refine (hst w2 L ((hv.below B2).more B2.size (Nat.le_refl _))).mono ?_
  rintro e w3 ⟨gm, rfl, hgm, hM, hb3⟩
  have hT3 := hT.below hb3 hT.lt
  have B3 := B2.trans (hb3.mono B2.size)
  have hggm : g < gm := by have := hT.lt; omega
  have Z1 := hb1.size
  have hgw : w.heap.size ≤ g := by omega
  have HMs := Lib.hid (RMid.start n l)
  clear hx hb1 hb2 hb3 B2 hT hst
  go_wp2
  go_loopw [8] (fun r wr => ∃ (k : Nat) (B : BNet), Hid (k ≤ N ∧ RMid n l k B) ∧ r = .int .i64 k ∧ Own wr g 4 (rtA 3375) ∧ Own wr gm 4 (rmA n B) ∧ Below w.heap.size w wr) (fun r _ => N - (intOf r).toNat)
  case atStart => exact ⟨0, stB l, Lib.hid ⟨by omega, HMs.out⟩, rfl, hT3, hM, B3⟩
  case round =>
    clear hT3 hM B3 HMs
    obtain ⟨k, B, hK, rfl, oT, oM, hbr⟩ := hrel
    have hbz := hbr.size
    obtain ⟨hkN, hmid⟩ := hK.out
    have lM := oM.lt
    have lT := oT.lt
    by_cases hlt : k < N
    · have hd : decide ((k : Int) < N) = true := decide_eq_true (by omega)
      go_wp2_with fail
      refine (hon B g gm wr oT oM hggm).mono ?_
      rintro e w4 ⟨r, B', rfl, hOI, oM4, hb4⟩
      have oT4 := oT.below hb4 hggm
      have B4 : Below w.heap.size w w4 := hbr.trans (hb4.mono (by omega))
      by_cases hr : 0 < r
      · have hr2 : decide ((r : Int) > 0) = true := decide_eq_true (by omega)
        have HS := Lib.hid (hmid.step hOI hr)
        clear hOI hmid hK
        go_wp2
        go_roundw
        case rel => exact ⟨k + 1, B', Lib.hid ⟨by omega, HS.out⟩, by go_num, oT4, oM4, B4⟩
        case measure => simp [intOf]; omega
      · have hr0 : r = 0 := by omega
        subst hr0
        have HE := Lib.hid (hmid.rest hOI)
        have oMW := oM4
        have BW := B4
        clear hOI hmid hK oT oM hbr hb4 oT4 oM4 B4 lM lT hon HFull
        generalize w4 = W at *
        have lM2 := oMW.lt
        have zW := BW.size
        go_wp2
        go_loopw [9, 10] (fun o i' wx => ∃ i : Nat, i ≤ n ∧ i' = .int .i64 i ∧ GrC wx W.heap.size o (conAll n (netOf B') i) ∧ Hid (∀ x y, x < i → x ≤ y → y < n → mb ((netOf B') x y) 13 ≠ []) ∧ Below W.heap.size W wx) (fun _ i' _ => n - (intOf i').toNat)
        case atStart => exact ⟨0, by omega, rfl, GrC.nil _ _ (Nat.le_refl _), Lib.hid (fun x y h => by omega), Below.refl _ _⟩
        case round =>
          obtain ⟨i, hin, rfl, hG, hNE, hbi⟩ := hrel
          have hbiz := hbi.size
          by_cases hi : i < n
          · have hdi : decide ((i : Int) < n) = true := by simp; omega
            obtain ⟨X, hX⟩ : ∃ X, X = n * i := ⟨_, rfl⟩
            have bX : X ≤ 56 := by subst hX; exact Nat.le_trans (Nat.mul_le_mul hn (show i ≤ 7 by omega)) (by decide)
            have wX : IntKind.i64.wrap ((n : Int) * (i : Int)) = (X : Int) := by rw [hX, Int.natCast_mul]; exact IntWalk.i64_in _ (by rw [← Int.natCast_mul, ← hX]; omega)
            have HX1 := Lib.hid (fun j c (hj : j < n) (hc : c < 13) => HX.out i j c hi hj hc)
            have HGt := Lib.hid (fun j c (hj : j < n) (hc : c < 13) => rmA_get B' hi hj hc)
            rw [← hX] at HX1 HGt
            have HCS := Lib.hid (conAll_succ n (netOf B') i)
            have HG := Lib.hid (show GrC wr W.heap.size _ (conAll n (netOf B') i ++ conRow (netOf B') i i) from by rw [row_nil, List.append_nil]; exact hG)
            have HLi := HL.out (netOf B') i (by omega)
            clear hX hG
            go_wp2
            go_loopw [9, 11] (fun o j' wx => ∃ j : Nat, i ≤ j ∧ j ≤ n ∧ j' = .int .i64 j ∧ GrC wx W.heap.size o (conAll n (netOf B') i ++ conRow (netOf B') i j) ∧ Hid (∀ y, i ≤ y → y < j → mb ((netOf B') i y) 13 ≠ []) ∧ Below W.heap.size W wx) (fun _ j' _ => n - (intOf j').toNat)
            case atStart => exact ⟨i, by omega, by omega, by go_num, HG.out, Lib.hid (fun y h1 h2 => by omega), hbi⟩
            case round =>
              clear HG hbi hbiz
              obtain ⟨j, hij, hjn, rfl, hG, hNj, hbj⟩ := hrel
              generalize wr = V at *
              have hbjz := hbj.size
              by_cases hj : j < n
              · have hdj : decide ((j : Int) < n) = true := by simp; omega
                have QG := Lib.hid hG
                have oMV := oMW.below hbj lM2
                have lMV := oMV.lt
                have hX2 := fun c (hc : c < 13) => HX1.out j c hj hc
                have HX2 := Lib.hid hX2
                have HG2 := Lib.hid (fun c (hc : c < 13) => (oMV.cell _).trans (HGt.out j c hj hc))
                have hLr := conRow_len (netOf B') i j
                have hLL : (conAll n (netOf B') i ++ conRow (netOf B') i j).length ≤ 1000 := by rw [List.length_append]; omega
                clear hG hX2
                generalize hxm : (netOf B') i j = xm at *
                have HXM := Lib.hid (fun c (hc : c < 13) => (show xm.testBit c = B' i j c by rw [← hxm]; exact netOf_one B' i j c hc))
                go_wp2
                go_loopw [12, 13] (fun o c' wx => ∃ c : Nat, c ≤ 13 ∧ c' = .int .i64 c ∧ wx.ownsRow V.heap.size 3 1 o (mb xm c).length (intsV (mb xm c)) ∧ Below V.heap.size V wx) (fun _ c' _ => 13 - (intOf c').toNat)
                case atStart => exact ⟨0, by omega, rfl, by rw [mb_zero]; exact own_nil _ _, Below.refl _ _⟩
                case round =>
                  obtain ⟨c, hcn, rfl, hown, hbc⟩ := hrel
                  have hbcz := hbc.size
                  have HO := Lib.hid hown
                  clear hown
                  by_cases hc : c < 13
                  · have hdc : decide ((c : Int) < 13) = true := by simp; omega
                    have x1 := HX2.out c hc
                    have i1 : IntKind.i64.wrap ((X : Int) + j) = X + j := IntWalk.i64_in _ (by omega)
                    have i2 : IntKind.i64.wrap (13 * ((X : Int) + j)) = 13 * (X + j) := IntWalk.i64_in _ (by omega)
                    have i3 : IntKind.i64.wrap (13 * ((X : Int) + j) + c) = 13 * (X + j) + c := IntWalk.i64_in _ (by omega)
                    have i4 : (13 * ((X : Int) + j) + c).toNat = 13 * (X + j) + c := by omega
                    have i5 : (0 : Int) ≤ 13 * ((X : Int) + j) + c := by omega
                    have i6 : 13 * ((X : Int) + j) + c < (N : Int) := by omega
                    have i7 : (⟨gm, 0, none⟩ : Addr).add (13 * (X + j) + c) = ⟨gm, 13 * (X + j) + c, none⟩ := plain_add _ _
                    have kc := (hbc.cell (p := ⟨gm, 13 * (X + j) + c, none⟩) lMV).trans (HG2.out c hc)
                    have hmb := mb_step xm c
                    rw [HXM.out c hc] at hmb
                    have hml := mb_le xm c
                    cases hb : B' i j c
                    · rw [hb, if_neg (by decide), List.append_nil] at hmb
                      rw [hb] at kc
                      have HMB := Lib.hid hmb
                      clear hmb hb
                      go_wp2
                      go_roundw
                      case rel => exact ⟨c + 1, by omega, by go_num, by rw [HMB.out]; exact HO.out, hbc⟩
                      case measure => simp [intOf]; omega
                    · rw [hb, if_pos rfl] at hmb
                      rw [hb] at kc
                      have HMB := Lib.hid hmb
                      clear hmb hb
                      go_wp2_with (at_builtin; refine append_int _ rfl _ _ rfl V.heap.size _ (mb xm c) rfl (World.ownsRow.alloc HO.out _) ⟨wr.heap.size, 0, none⟩ (c : Int) rfl (cell_one_new _ _ _) ?_ ?_ ?_; (focus omega); (focus go_size); intro v2 w2 hown2 hb2)
                      go_roundw
                      case rel => exact ⟨c + 1, by omega, by go_num, by rw [HMB.out]; exact hown2, hbc.trans (((Below.refl _ _).alloc (by omega) _).trans hb2)⟩
                      case measure => simp [intOf]; omega
                  · obtain rfl : c = 13 := by omega
                    have hdc : ¬ ((13 : Nat) : Int) < 13 := by omega
                    have hm13 := mb_le xm 13
                    by_cases hnil : mb xm 13 = []
                    · rw [hnil] at HO
                      have hfin : RRes n l [] false := ⟨B', HE.out, .inl ⟨rfl, rfl, i, j, hij, hj, by rw [hxm]; exact hnil⟩⟩
                      have HFin := Lib.hid hfin
                      rcases own_get0 HO.out with rfl | ⟨g9, c9, rfl⟩
                      all_goals
                        clear hnil hfin
                        go_wp2
                        go_ret2
                        exact ⟨.slice none 0 0, false, [], rfl, RdC.none _ _ _, (BW.trans ((hbj.trans (hbc.mono hbjz)).mono zW)), HFin.out⟩
                    · have hpos : 0 < (mb xm 13).length := List.length_pos_iff.2 hnil
                      obtain ⟨g9, c9, rfl⟩ := own_getN HO.out hpos
                      have hRel := RdI.of_own HO.out (by omega)
                      have hlz : (((mb xm 13).length : Int) == 0) = false := by simp; omega
                      have HNj : Hid (∀ y, i ≤ y → y < j + 1 → mb ((netOf B') i y) 13 ≠ []) := Lib.hid (fun y h1 h2 => by
                        by_cases hy : y < j
                        · exact hNj.out y h1 hy
                        · obtain rfl : y = j := by omega
                          rw [hxm]; exact hnil)
                      by_cases hlt : i < j
                      · have hdl : decide ((i : Int) < j) = true := by simp; omega
                        have hRS := Lib.hid (conRow_succ (netOf B') i j hlt)
                        rw [hxm] at hRS
                        clear hnil hNj
                        go_wp2_with (at_builtin; refine append_con _ rfl _ _ rfl W.heap.size _ _ rfl ((QG.out.below hbc).below ((Below.refl _ _).alloc (Nat.le_refl _) _)) ⟨wr.heap.size, 0, none⟩ ⟨(i : Int), (j : Int), mb xm 13⟩ _ ((AwayI.of hRel (by omega) (fun q hq => by have := QG.out.own_lt q hq; omega)).below ((Below.refl _ _).alloc (Nat.le_refl _) _)) rfl ?_ hLL ?_; (focus (exact cells_new wr _ _ _ _)); intro v2 w2 hg2 hb2)
                        go_roundw
                        case rel => exact ⟨j + 1, by omega, by omega, by go_num, by rw [hRS.out, ← List.append_assoc]; exact hg2, HNj, (hbj.trans (hbc.mono hbjz)).trans (((Below.refl _ _).alloc (by omega) _).trans hb2)⟩
                        case measure => simp [intOf]; omega
                      · obtain rfl : i = j := by omega
                        have hdl : ¬ (i : Int) < i := by omega
                        have hRS := Lib.hid (row_self (netOf B') i)
                        clear hnil hNj
                        go_wp2
                        go_roundw
                        case rel => exact ⟨i + 1, by omega, by omega, by go_num, by rw [hRS.out]; exact QG.out.below hbc, HNj, hbj.trans (hbc.mono hbjz)⟩
                        case measure => simp [intOf]; omega
              · obtain rfl : j = n := by omega
                have hdj : ¬ (j : Int) < j := by omega
                have HNI : Hid (∀ x y, x < i + 1 → x ≤ y → y < j → mb ((netOf B') x y) 13 ≠ []) := Lib.hid (fun x y h1 h2 h3 => by
                  by_cases hx : x < i
                  · exact hNE.out x y hx h2 h3
                  · obtain rfl : x = i := by omega
                    exact hNj.out y h2 h3)
                have QG := Lib.hid hG
                clear hG hNE hNj
                go_wp2
                go_roundw
                case rel => exact ⟨i + 1, by omega, by go_num, by rw [HCS.out]; exact QG.out, HNI, hbj⟩
                case measure => simp [intOf]; omega
          · obtain rfl : i = n := by omega
            have hdi : ¬ (i : Int) < i := by omega
            have hfin : RRes i l (conL i (netOf B')) true := ⟨B', HE.out, .inr ⟨rfl, rfl, fun x y h1 h2 => hNE.out x y (by omega) h1 h2⟩⟩
            have HFin := Lib.hid hfin
            have HG := Lib.hid hG
            have hl64 := HL.out (netOf B') i (Nat.le_refl _)
            clear hfin hG hNE
            go_wp2
            go_ret2
            exact ⟨_, true, _, rfl, (HG.out.rd (by omega)).more (Nat.le_refl _) zW, BW.trans (hbi.mono zW), HFin.out⟩
    · have hkN2 : k = N := by omega
      subst hkN2
      have hd : ¬ (k : Int) < k := by omega
      have HE := Lib.hid (HFull.out B hmid)
      have oMW := oM
      have BW := hbr
      clear hmid hK oT oM hbr lM lT hon HFull
      generalize wr = W at *
      have lM2 := oMW.lt
      have zW := BW.size
      go_wp2
      go_loopw [9, 10] (fun o i' wx => ∃ i : Nat, i ≤ n ∧ i' = .int .i64 i ∧ GrC wx W.heap.size o (conAll n (netOf B) i) ∧ Hid (∀ x y, x < i → x ≤ y → y < n → mb ((netOf B) x y) 13 ≠ []) ∧ Below W.heap.size W wx) (fun _ i' _ => n - (intOf i').toNat)
      case atStart => exact ⟨0, by omega, rfl, GrC.nil _ _ (Nat.le_refl _), Lib.hid (fun x y h => by omega), Below.refl _ _⟩
      case round =>
        obtain ⟨i, hin, rfl, hG, hNE, hbi⟩ := hrel
        have hbiz := hbi.size
        by_cases hi : i < n
        · have hdi : decide ((i : Int) < n) = true := by simp; omega
          obtain ⟨X, hX⟩ : ∃ X, X = n * i := ⟨_, rfl⟩
          have bX : X ≤ 56 := by subst hX; exact Nat.le_trans (Nat.mul_le_mul hn (show i ≤ 7 by omega)) (by decide)
          have wX : IntKind.i64.wrap ((n : Int) * (i : Int)) = (X : Int) := by rw [hX, Int.natCast_mul]; exact IntWalk.i64_in _ (by rw [← Int.natCast_mul, ← hX]; omega)
          have HX1 := Lib.hid (fun j c (hj : j < n) (hc : c < 13) => HX.out i j c hi hj hc)
          have HGt := Lib.hid (fun j c (hj : j < n) (hc : c < 13) => rmA_get B hi hj hc)
          rw [← hX] at HX1 HGt
          have HCS := Lib.hid (conAll_succ n (netOf B) i)
          have HG := Lib.hid (show GrC wr W.heap.size _ (conAll n (netOf B) i ++ conRow (netOf B) i i) from by rw [row_nil, List.append_nil]; exact hG)
          have HLi := HL.out (netOf B) i (by omega)
          clear hX hG
          go_wp2
          go_loopw [9, 11] (fun o j' wx => ∃ j : Nat, i ≤ j ∧ j ≤ n ∧ j' = .int .i64 j ∧ GrC wx W.heap.size o (conAll n (netOf B) i ++ conRow (netOf B) i j) ∧ Hid (∀ y, i ≤ y → y < j → mb ((netOf B) i y) 13 ≠ []) ∧ Below W.heap.size W wx) (fun _ j' _ => n - (intOf j').toNat)
          case atStart => exact ⟨i, by omega, by omega, by go_num, HG.out, Lib.hid (fun y h1 h2 => by omega), hbi⟩
          case round =>
            clear HG hbi hbiz
            obtain ⟨j, hij, hjn, rfl, hG, hNj, hbj⟩ := hrel
            generalize wr = V at *
            have hbjz := hbj.size
            by_cases hj : j < n
            · have hdj : decide ((j : Int) < n) = true := by simp; omega
              have QG := Lib.hid hG
              have oMV := oMW.below hbj lM2
              have lMV := oMV.lt
              have hX2 := fun c (hc : c < 13) => HX1.out j c hj hc
              have HX2 := Lib.hid hX2
              have HG2 := Lib.hid (fun c (hc : c < 13) => (oMV.cell _).trans (HGt.out j c hj hc))
              have hLr := conRow_len (netOf B) i j
              have hLL : (conAll n (netOf B) i ++ conRow (netOf B) i j).length ≤ 1000 := by rw [List.length_append]; omega
              clear hG hX2
              generalize hxm : (netOf B) i j = xm at *
              have HXM := Lib.hid (fun c (hc : c < 13) => (show xm.testBit c = B i j c by rw [← hxm]; exact netOf_one B i j c hc))
              go_wp2
              go_loopw [12, 13] (fun o c' wx => ∃ c : Nat, c ≤ 13 ∧ c' = .int .i64 c ∧ wx.ownsRow V.heap.size 3 1 o (mb xm c).length (intsV (mb xm c)) ∧ Below V.heap.size V wx) (fun _ c' _ => 13 - (intOf c').toNat)
              case atStart => exact ⟨0, by omega, rfl, by rw [mb_zero]; exact own_nil _ _, Below.refl _ _⟩
              case round =>
                obtain ⟨c, hcn, rfl, hown, hbc⟩ := hrel
                have hbcz := hbc.size
                have HO := Lib.hid hown
                clear hown
                by_cases hc : c < 13
                · have hdc : decide ((c : Int) < 13) = true := by simp; omega
                  have x1 := HX2.out c hc
                  have i1 : IntKind.i64.wrap ((X : Int) + j) = X + j := IntWalk.i64_in _ (by omega)
                  have i2 : IntKind.i64.wrap (13 * ((X : Int) + j)) = 13 * (X + j) := IntWalk.i64_in _ (by omega)
                  have i3 : IntKind.i64.wrap (13 * ((X : Int) + j) + c) = 13 * (X + j) + c := IntWalk.i64_in _ (by omega)
                  have i4 : (13 * ((X : Int) + j) + c).toNat = 13 * (X + j) + c := by omega
                  have i5 : (0 : Int) ≤ 13 * ((X : Int) + j) + c := by omega
                  have i6 : 13 * ((X : Int) + j) + c < (k : Int) := by omega
                  have i7 : (⟨gm, 0, none⟩ : Addr).add (13 * (X + j) + c) = ⟨gm, 13 * (X + j) + c, none⟩ := plain_add _ _
                  have kc := (hbc.cell (p := ⟨gm, 13 * (X + j) + c, none⟩) lMV).trans (HG2.out c hc)
                  have hmb := mb_step xm c
                  rw [HXM.out c hc] at hmb
                  have hml := mb_le xm c
                  cases hb : B i j c
                  · rw [hb, if_neg (by decide), List.append_nil] at hmb
                    rw [hb] at kc
                    have HMB := Lib.hid hmb
                    clear hmb hb
                    go_wp2
                    go_roundw
                    case rel => exact ⟨c + 1, by omega, by go_num, by rw [HMB.out]; exact HO.out, hbc⟩
                    case measure => simp [intOf]; omega
                  · rw [hb, if_pos rfl] at hmb
                    rw [hb] at kc
                    have HMB := Lib.hid hmb
                    clear hmb hb
                    go_wp2_with (at_builtin; refine append_int _ rfl _ _ rfl V.heap.size _ (mb xm c) rfl (World.ownsRow.alloc HO.out _) ⟨wr.heap.size, 0, none⟩ (c : Int) rfl (cell_one_new _ _ _) ?_ ?_ ?_; (focus omega); (focus go_size); intro v2 w2 hown2 hb2)
                    go_roundw
                    case rel => exact ⟨c + 1, by omega, by go_num, by rw [HMB.out]; exact hown2, hbc.trans (((Below.refl _ _).alloc (by omega) _).trans hb2)⟩
                    case measure => simp [intOf]; omega
                · obtain rfl : c = 13 := by omega
                  have hdc : ¬ ((13 : Nat) : Int) < 13 := by omega
                  have hm13 := mb_le xm 13
                  by_cases hnil : mb xm 13 = []
                  · rw [hnil] at HO
                    have hfin : RRes n l [] false := ⟨B, HE.out, .inl ⟨rfl, rfl, i, j, hij, hj, by rw [hxm]; exact hnil⟩⟩
                    have HFin := Lib.hid hfin
                    rcases own_get0 HO.out with rfl | ⟨g9, c9, rfl⟩
                    all_goals
                      clear hnil hfin
                      go_wp2
                      go_ret2
                      exact ⟨.slice none 0 0, false, [], rfl, RdC.none _ _ _, (BW.trans ((hbj.trans (hbc.mono hbjz)).mono zW)), HFin.out⟩
                  · have hpos : 0 < (mb xm 13).length := List.length_pos_iff.2 hnil
                    obtain ⟨g9, c9, rfl⟩ := own_getN HO.out hpos
                    have hRel := RdI.of_own HO.out (by omega)
                    have hlz : (((mb xm 13).length : Int) == 0) = false := by simp; omega
                    have HNj : Hid (∀ y, i ≤ y → y < j + 1 → mb ((netOf B) i y) 13 ≠ []) := Lib.hid (fun y h1 h2 => by
                      by_cases hy : y < j
                      · exact hNj.out y h1 hy
                      · obtain rfl : y = j := by omega
                        rw [hxm]; exact hnil)
                    by_cases hlt : i < j
                    · have hdl : decide ((i : Int) < j) = true := by simp; omega
                      have hRS := Lib.hid (conRow_succ (netOf B) i j hlt)
                      rw [hxm] at hRS
                      clear hnil hNj
                      go_wp2_with (at_builtin; refine append_con _ rfl _ _ rfl W.heap.size _ _ rfl ((QG.out.below hbc).below ((Below.refl _ _).alloc (Nat.le_refl _) _)) ⟨wr.heap.size, 0, none⟩ ⟨(i : Int), (j : Int), mb xm 13⟩ _ ((AwayI.of hRel (by omega) (fun q hq => by have := QG.out.own_lt q hq; omega)).below ((Below.refl _ _).alloc (Nat.le_refl _) _)) rfl ?_ hLL ?_; (focus (exact cells_new wr _ _ _ _)); intro v2 w2 hg2 hb2)
                      go_roundw
                      case rel => exact ⟨j + 1, by omega, by omega, by go_num, by rw [hRS.out, ← List.append_assoc]; exact hg2, HNj, (hbj.trans (hbc.mono hbjz)).trans (((Below.refl _ _).alloc (by omega) _).trans hb2)⟩
                      case measure => simp [intOf]; omega
                    · obtain rfl : i = j := by omega
                      have hdl : ¬ (i : Int) < i := by omega
                      have hRS := Lib.hid (row_self (netOf B) i)
                      clear hnil hNj
                      go_wp2
                      go_roundw
                      case rel => exact ⟨i + 1, by omega, by omega, by go_num, by rw [hRS.out]; exact QG.out.below hbc, HNj, hbj.trans (hbc.mono hbjz)⟩
                      case measure => simp [intOf]; omega
            · obtain rfl : j = n := by omega
              have hdj : ¬ (j : Int) < j := by omega
              have HNI : Hid (∀ x y, x < i + 1 → x ≤ y → y < j → mb ((netOf B) x y) 13 ≠ []) := Lib.hid (fun x y h1 h2 h3 => by
                by_cases hx : x < i
                · exact hNE.out x y hx h2 h3
                · obtain rfl : x = i := by omega
                  exact hNj.out y h2 h3)
              have QG := Lib.hid hG
              clear hG hNE hNj
              go_wp2
              go_roundw
              case rel => exact ⟨i + 1, by omega, by go_num, by rw [HCS.out]; exact QG.out, HNI, hbj⟩
              case measure => simp [intOf]; omega
        · obtain rfl : i = n := by omega
          have hdi : ¬ (i : Int) < i := by omega
          have hfin : RRes i l (conL i (netOf B)) true := ⟨B, HE.out, .inr ⟨rfl, rfl, fun x y h1 h2 => hNE.out x y (by omega) h1 h2⟩⟩
          have HFin := Lib.hid hfin
          have HG := Lib.hid hG
          have hl64 := HL.out (netOf B) i (Nat.le_refl _)
          clear hfin hG hNE
          go_wp2
          go_ret2
          exact ⟨_, true, _, rfl, (HG.out.rd (by omega)).more (Nat.le_refl _) zW, BW.trans (hbi.mono zW), HFin.out⟩
end Go.Proofs.YtmmecpmeemhglaaDoor
