/-
  Contract of the reference's start: the network of constraints. Conditions: at most eight periods, valid constraints.
-/
import Derived.Test.YtmmecpmeemhglaaDoorRon
import Derived.WalkKit
import Derived.WalkSpells
import Derived.WalkLawsBesides
import Derived.Deep.QuietTactic
import Derived.BigQuiet
import Derived.Handy
import Derived.Lib.Hide
namespace Go.Proofs.YtmmecpmeemhglaaDoor
open Go.RowKit
def iniB : BNet := fun i j c => i != j || c == 6
def bAt (i j c : Nat) : BNet := fun x y z => if x < i ∨ x = i ∧ (y < j ∨ y = j ∧ z < c) then iniB x y z else false
theorem rmA_ext {n : Nat} {B C : BNet} (h : ∀ i j c, i < n → j < n → c < 13 → B i j c = C i j c) : rmA n B = rmA n C := by
  unfold rmA rmN
  congr 1
  congr 1
  apply List.map_congr_left
  intro x hx
  rw [List.mem_range] at hx
  have hn : 0 < n := by rcases Nat.eq_zero_or_pos n with e | e; subst e; simp at hx; exact e
  have h1 : x / 13 < n * n := by omega
  exact h _ _ _ (Nat.div_lt_of_lt_mul h1) (Nat.mod_lt _ hn) (Nat.mod_lt _ (by omega))
theorem bAt_step (i j c : Nat) : setB (bAt i j c) i j c (iniB i j c) = bAt i j (c + 1) := by
  funext x y z
  unfold setB bAt
  by_cases h : x = i ∧ y = j ∧ z = c
  · obtain ⟨rfl, rfl, rfl⟩ := h
    rw [if_pos ⟨rfl, rfl, rfl⟩, if_pos (by omega)]
  · rw [if_neg h]
    by_cases h2 : x < i ∨ x = i ∧ (y < j ∨ y = j ∧ z < c)
    · rw [if_pos h2, if_pos (by omega)]
    · rw [if_neg h2, if_neg (by omega)]
theorem bAt_j (n i j : Nat) : rmA n (bAt i j 13) = rmA n (bAt i (j + 1) 0) := rmA_ext fun x y z h1 h2 h3 => by
  unfold bAt
  by_cases h2 : x < i ∨ x = i ∧ (y < j ∨ y = j ∧ z < 13)
  · rw [if_pos h2, if_pos (by omega)]
  · rw [if_neg h2, if_neg (by omega)]
theorem bAt_i (n i : Nat) : rmA n (bAt i n 0) = rmA n (bAt (i + 1) 0 0) := rmA_ext fun x y z h1 h2 h3 => by
  unfold bAt
  by_cases h2 : x < i ∨ x = i ∧ (y < n ∨ y = n ∧ z < 0)
  · rw [if_pos h2, if_pos (by omega)]
  · rw [if_neg h2, if_neg (by omega)]
theorem bAt_end (n : Nat) : rmA n (bAt n 0 0) = rmA n iniB := rmA_ext fun x y z h1 h2 h3 => by
  unfold bAt
  rw [if_pos (by omega)]
theorem rmA_none (n : Nat) : (madeCells (Value.bool false).cells (13 * (n * n) * 1)).toList.toArray = rmA n (bAt 0 0 0) := by
  rw [made_bool, Nat.mul_one]
  unfold rmA
  congr 2
  unfold rmN
  have e : (fun x : Nat => bAt 0 0 0 (x / 13 / n) (x / 13 % n) (x % 13)) = fun _ => false := by
    funext x
    unfold bAt
    rw [if_neg]
    rintro (h | ⟨_, h | ⟨_, h⟩⟩)
    · exact Nat.not_lt_zero _ h
    · exact Nat.not_lt_zero _ h
    · exact Nat.not_lt_zero _ h
  rw [e, List.map_const', List.length_range]
def cutC (B : BNet) (e : Con) (m : Nat) : BNet := (List.range m).foldl (fun B (c : Nat) => if (c : Int) ∈ e.r then B else cut B e.a.toNat e.b.toNat c) B
theorem cutC_succ (B : BNet) (e : Con) (m : Nat) : cutC B e (m + 1) = if (m : Int) ∈ e.r then cutC B e m else cut (cutC B e m) e.a.toNat e.b.toNat m := by
  unfold cutC; rw [List.range_succ, List.foldl_append]; rfl
def stB (l : List Con) : BNet := l.foldl (fun B e => cutC B e 13) iniB
theorem stB_succ {l : List Con} {k : Nat} {e : Con} (hk : l[k]? = some e) : stB (l.take (k + 1)) = cutC (stB (l.take k)) e 13 := by
  obtain ⟨hlt, rfl⟩ := List.getElem?_eq_some_iff.1 hk
  unfold stB
  rw [List.take_succ_eq_append_getElem hlt, List.foldl_append]; rfl
attribute [local irreducible] rtA tbA tb rmA posA cntB
set_option maxRecDepth 100000 in
set_option maxHeartbeats 3200000 in
theorem start_any (n : Nat) (v : Value) (l : List Con) (w : World) (L : Nat) (hv : RdC w L w.heap.size v l) (hn : n ≤ 8) (hok : okL n l = true) :
    Calls Tryd.prog 43 #[.int .i64 n, v] w fun e w' => ∃ gm, e = .returned (.slice (some ⟨gm, 0, none⟩) (13 * (n * n)) (13 * (n * n))) ∧ w.heap.size ≤ gm ∧ Own w' gm 4 (rmA n (stB l)) ∧ Below w.heap.size w w' := by
  obtain ⟨N, hN⟩ : ∃ N, N = 13 * (n * n) := ⟨_, rfl⟩
  have bN : N ≤ 832 := by subst hN; exact Nat.mul_le_mul_left 13 (Nat.mul_le_mul hn hn)
  have HX := Lib.hid (fun (i j c : Nat) (hi : i < n) (hj : j < n) (hc : c < 13) => show 13 * (n * i + j) + c < N by subst hN; exact rm_lt hi hj hc)
  have H0 := Lib.hid (rmA_none n)
  have hv0 := hv
  obtain ⟨A, cc, rfl, hl, _⟩ := hv
  have w1 : IntKind.i64.wrap (13 * (n : Int)) = 13 * (n : Int) := IntWalk.i64_in _ (by omega)
  have w2 : IntKind.i64.wrap (13 * (n : Int) * (n : Int)) = (N : Int) := by
    have e : 13 * (n : Int) * (n : Int) = (N : Int) := by rw [hN, Int.natCast_mul, Int.natCast_mul, Int.mul_assoc]; rfl
    rw [e]; exact IntWalk.i64_in _ (by omega)
  rw [← hN] at H0
  rw [← hN]
  clear hN
  obtain ⟨ib, hib, hbz0, hbz1, hbz2⟩ := info_parts infoBool
  go_enter Tryd.func43, Tryd.ntmps43
  go_wp2_with (at_make; refine wpList_make_full _ rfl _ _ 59 rfl w.heap.size 4 ib (.bool false) 1 Tryd.underlying59 hib hbz0 hbz1 _ _ N N N rfl rfl rfl rfl (by rw [hbz2]; omega) (by unfold maxLen; omega) (Nat.le_refl _) ?_; intro w2' hown hg2)
  have o2 := own_of_full hown
  rw [H0.out] at o2
  have HM := Lib.hid o2
  have hb : Below w.heap.size w w2' := (Below.refl _ _).grown hg2 (Nat.le_refl _) (by simp)
  clear hown hg2 o2 hib hbz0 hbz1 hbz2
  generalize h9 : w.heap.size = gm at *
  go_loopw [6] (fun i' wr => ∃ i : Nat, i ≤ n ∧ i' = .int .i64 i ∧ Hid (Own wr gm 4 (rmA n (bAt i 0 0))) ∧ Below gm w wr) (fun i' _ => n - (intOf i').toNat)
  case atStart => exact ⟨0, by omega, rfl, HM, hb⟩
  case round =>
    clear HM hb
    obtain ⟨i, hin, rfl, HM, hb⟩ := hrel
    by_cases hi : i < n
    · have hdi : decide ((i : Int) < n) = true := by simp; omega
      go_wp2
      go_loopw [7] (fun i' wr => ∃ j : Nat, j ≤ n ∧ i' = .int .i64 j ∧ Hid (Own wr gm 4 (rmA n (bAt i j 0))) ∧ Below gm w wr) (fun i' _ => n - (intOf i').toNat)
      case atStart => exact ⟨0, by omega, rfl, HM, hb⟩
      case round =>
        clear HM hb
        obtain ⟨j, hjn, rfl, HM, hb⟩ := hrel
        by_cases hj : j < n
        · have hdj : decide ((j : Int) < n) = true := by simp; omega
          obtain ⟨X, hX⟩ : ∃ X, X = n * i := ⟨_, rfl⟩
          have bX : X ≤ 56 := by subst hX; exact Nat.le_trans (Nat.mul_le_mul hn (show i ≤ 7 by omega)) (by decide)
          have wX : IntKind.i64.wrap ((n : Int) * (i : Int)) = (X : Int) := by rw [hX, Int.natCast_mul]; exact IntWalk.i64_in _ (by rw [← Int.natCast_mul, ← hX]; omega)
          have HX1 := Lib.hid (fun c hc => HX.out i j c hi hj hc)
          have HG := Lib.hid (fun (B : BNet) c (hc : c < 13) => rmA_get B hi hj hc)
          have HS1 := Lib.hid (fun (B : BNet) v c (hc : c < 13) => rmA_set B v hi hj hc)
          rw [← hX] at HX1 HG HS1
          clear hX
          go_wp2
          go_loopw [8] (fun i' wr => ∃ c : Nat, c ≤ 13 ∧ i' = .int .i64 c ∧ Hid (Own wr gm 4 (rmA n (bAt i j c))) ∧ Below gm w wr) (fun i' _ => 13 - (intOf i').toNat)
          case atStart => exact ⟨0, by omega, rfl, HM, hb⟩
          case round =>
            clear HM hb
            obtain ⟨c, hcn, rfl, HM, hb⟩ := hrel
            by_cases hc : c < 13
            · have hdc : decide ((c : Int) < 13) = true := by simp; omega
              have x1 := HX1.out c hc
              have i1 : IntKind.i64.wrap ((X : Int) + j) = X + j := IntWalk.i64_in _ (by omega)
              have i2 : IntKind.i64.wrap (13 * ((X : Int) + j)) = 13 * (X + j) := IntWalk.i64_in _ (by omega)
              have i3 : IntKind.i64.wrap (13 * ((X : Int) + j) + c) = 13 * (X + j) + c := IntWalk.i64_in _ (by omega)
              have i4 : (13 * ((X : Int) + j) + c).toNat = 13 * (X + j) + c := by omega
              have i5 : (0 : Int) ≤ 13 * ((X : Int) + j) + c := by omega
              have i6 : 13 * ((X : Int) + j) + c < (N : Int) := by omega
              have i7 : (⟨gm, 0, none⟩ : Addr).add (13 * (X + j) + c) = ⟨gm, 13 * (X + j) + c, none⟩ := plain_add _ _
              have hx := (HM.out.cell (13 * (X + j) + c)).trans (HG.out _ c hc)
              have hfz := HM.out.free (13 * (X + j) + c)
              have HM2 := Lib.hid (HM.out.store (13 * (X + j) + c) (.bool (iniB i j c)))
              rw [HS1.out _ _ c hc, bAt_step] at HM2
              have hb2 := hb.setCell (p := ⟨gm, 13 * (X + j) + c, none⟩) (Nat.le_refl _) (.bool (iniB i j c))
              unfold iniB at HM2 hb2
              have d1 : (((i : Nat) : Int) != (j : Int)) = (i != j) := by rw [Bool.eq_iff_iff, bne_iff_ne, bne_iff_ne]; omega
              have d2 : (((c : Nat) : Int) == 6) = (c == 6) := by rw [Bool.eq_iff_iff, beq_iff_eq, beq_iff_eq]; omega
              cases e1 : (i != j) <;> cases e2 : (c == 6) <;> rw [e1, e2] at HM2 hb2 <;> rw [e1] at d1 <;> rw [e2] at d2
              all_goals
                go_wp2
                go_roundw
                case rel => exact ⟨c + 1, by omega, by go_num, HM2, hb2⟩
                case measure => simp [intOf]; omega
            · have hc13 : c = 13 := by omega
              subst hc13
              rw [bAt_j] at HM
              go_wp2
              go_roundw
              case rel => exact ⟨j + 1, by omega, by go_num, HM, hb⟩
              case measure => simp [intOf]; omega
        · have hjn' : j = n := by omega
          subst hjn'
          rw [bAt_i] at HM
          go_wp2
          go_roundw
          case rel => exact ⟨i + 1, by omega, by go_num, HM, hb⟩
          case measure => simp [intOf]; omega
    · have hin' : i = n := by omega
      subst hin'
      rw [bAt_end] at HM
      go_wp2
      go_loopw [9] (fun i' wr => ∃ k : Nat, k ≤ l.length ∧ i' = .int .i64 k ∧ Hid (Own wr gm 4 (rmA i (stB (l.take k)))) ∧ Below gm w wr) (fun i' _ => l.length - (intOf i').toNat)
      case atStart => exact ⟨0, by omega, rfl, HM, hb⟩
      case round =>
        clear HM hb
        obtain ⟨k, hkn, rfl, HM, hb⟩ := hrel
        by_cases hk : k < l.length
        · have hke := List.getElem?_eq_getElem hk
          generalize l[k] = e at hke
          have hS := Lib.hid (stB_succ hke)
          obtain ⟨a0, b0, hr0⟩ := okC_out (okL_at hok hke)
          obtain ⟨ea, eb, er⟩ := e
          dsimp only at a0 b0 hr0
          obtain ⟨a, rfl⟩ := Int.eq_ofNat_of_zero_le a0.1
          obtain ⟨b, rfl⟩ := Int.eq_ofNat_of_zero_le b0.1
          have ha : a < i := by omega
          have hbn : b < i := by omega
          generalize stB (l.take k) = M0 at *
          have HE := Lib.hid (fun (W : World) (h : Below gm w W) => (hv0.below h).at hke)
          go_wp2
          go_loopw [10] (fun i' wr => ∃ c : Nat, c ≤ 13 ∧ i' = .int .i64 c ∧ Hid (Own wr gm 4 (rmA i (cutC M0 ⟨a, b, er⟩ c))) ∧ Below gm w wr) (fun i' _ => 13 - (intOf i').toNat)
          case atStart => exact ⟨0, by omega, rfl, HM, hb⟩
          case round =>
            clear HM hb
            obtain ⟨c, hcn, rfl, HM, hb⟩ := hrel
            have hbz := hb.size
            by_cases hc : c < 13
            · have hdc : decide ((c : Int) < 13) = true := by simp; omega
              obtain ⟨ad, rv, e1, _, hab, c0, c1, c2, hri⟩ := HE.out wr hb
              subst e1
              (try dsimp only at c0)
              (try dsimp only at c1)
              (try dsimp only at hri)
              have hxs := Lib.hid (cutC_succ M0 ⟨a, b, er⟩ c)
              have hin := rin_any rv er (c : Int) wr _ (hri.more (by omega) (Nat.le_refl _))
              cases hm : decide ((c : Int) ∈ er)
              · rw [hm] at hin
                have hxs2 : Hid (cutC M0 ⟨a, b, er⟩ (c + 1) = cut (cutC M0 ⟨a, b, er⟩ c) a b c) := Lib.hid (by rw [hxs.out, if_neg (of_decide_eq_false hm)]; rfl)
                clear hxs
                obtain ⟨X, hX⟩ : ∃ X, X = i * a := ⟨_, rfl⟩
                obtain ⟨Z, hZ⟩ : ∃ Z, Z = i * b := ⟨_, rfl⟩
                have bX : X ≤ 56 := by subst hX; exact Nat.le_trans (Nat.mul_le_mul hn (show a ≤ 7 by omega)) (by decide)
                have bZ : Z ≤ 56 := by subst hZ; exact Nat.le_trans (Nat.mul_le_mul hn (show b ≤ 7 by omega)) (by decide)
                have wX : IntKind.i64.wrap ((i : Int) * (a : Int)) = (X : Int) := by rw [hX, Int.natCast_mul]; exact IntWalk.i64_in _ (by rw [← Int.natCast_mul, ← hX]; omega)
                have wZ : IntKind.i64.wrap ((i : Int) * (b : Int)) = (Z : Int) := by rw [hZ, Int.natCast_mul]; exact IntWalk.i64_in _ (by rw [← Int.natCast_mul, ← hZ]; omega)
                have x1 := HX.out a b c ha hbn hc
                have x2 := HX.out b a (12 - c) hbn ha (by omega)
                generalize cutC M0 ⟨a, b, er⟩ c = M1 at *
                have g1 := rmA_get M1 ha hbn hc
                have g2 := rmA_set M1 false ha hbn hc
                have g3 := rmA_get (setB M1 a b c false) hbn ha (show 12 - c < 13 by omega)
                have g4 := rmA_set (setB M1 a b c false) false hbn ha (show 12 - c < 13 by omega)
                rw [← hX] at x1 g1 g2
                rw [← hZ] at x2 g3 g4
                clear hX hZ
                have i1 : IntKind.i64.wrap ((X : Int) + b) = X + b := IntWalk.i64_in _ (by omega)
                have i2 : IntKind.i64.wrap (13 * ((X : Int) + b)) = 13 * (X + b) := IntWalk.i64_in _ (by omega)
                have i3 : IntKind.i64.wrap (13 * ((X : Int) + b) + c) = 13 * (X + b) + c := IntWalk.i64_in _ (by omega)
                have i4 : (13 * ((X : Int) + b) + c).toNat = 13 * (X + b) + c := by omega
                have i5 : (0 : Int) ≤ 13 * ((X : Int) + b) + c := by omega
                have i6 : 13 * ((X : Int) + b) + c < (N : Int) := by omega
                have i7 : (⟨gm, 0, none⟩ : Addr).add (13 * (X + b) + c) = ⟨gm, 13 * (X + b) + c, none⟩ := plain_add _ _
                have j1 : IntKind.i64.wrap ((Z : Int) + a) = Z + a := IntWalk.i64_in _ (by omega)
                have j2 : IntKind.i64.wrap (13 * ((Z : Int) + a)) = 13 * (Z + a) := IntWalk.i64_in _ (by omega)
                have j3 : IntKind.i64.wrap (13 * ((Z : Int) + a) + (12 - (c : Int))) = 13 * (Z + a) + (12 - (c : Int)) := IntWalk.i64_in _ (by omega)
                have j4 : (13 * ((Z : Int) + a) + (12 - (c : Int))).toNat = 13 * (Z + a) + (12 - c) := by omega
                have j5 : (0 : Int) ≤ 13 * ((Z : Int) + a) + (12 - (c : Int)) := by omega
                have j6 : 13 * ((Z : Int) + a) + (12 - (c : Int)) < (N : Int) := by omega
                have j7 : (⟨gm, 0, none⟩ : Addr).add (13 * (Z + a) + (12 - c)) = ⟨gm, 13 * (Z + a) + (12 - c), none⟩ := plain_add _ _
                have hinv : invR (c : Int) = 12 - (c : Int) := by unfold invR; rw [if_pos ((isRel_iff _).2 (by omega))]
                go_wp2_with fail
                refine hin.mono ?_
                rintro e w9 ⟨rfl, hb9⟩
                have O9 := HM.out.below hb9 HM.out.lt
                have b9 := hb.trans (hb9.mono (by omega))
                clear hin c0 c1 c2 hri
                obtain ⟨_, _, e1, _, _, c0, c1, _, _⟩ := HE.out w9 b9
                injection e1 with e1
                subst e1
                (try dsimp only at c0)
                (try dsimp only at c1)
                have K0 : (ad.add (k * 3)).block < gm := by rw [add_block]; exact hab
                have hx := (O9.cell (13 * (X + b) + c)).trans g1
                have hfz := O9.free (13 * (X + b) + c)
                have HS : Hid (∀ w' : World, Below gm w9 w' → w'.cell? (ad.add (k * 3)) = some (.int .i64 a) ∧ w'.cell? ⟨(ad.add (k * 3)).block, (ad.add (k * 3)).off + 1, none⟩ = some (.int .i64 b)) := Lib.hid fun w' h => ⟨(h.cell (p := ad.add (k * 3)) K0).trans c0, (h.cell (p := ⟨(ad.add (k * 3)).block, (ad.add (k * 3)).off + 1, none⟩) K0).trans c1⟩
                go_wp2
                go_region_held3 (fun w' => w'.cell? (ad.add (k * 3)) = some (.int .i64 a) ∧ w'.cell? ⟨(ad.add (k * 3)).block, (ad.add (k * 3)).off + 1, none⟩ = some (.int .i64 b))
                  (first | exact HS.out _ (by (repeat' (first | (with_reducible exact Below.refl _ _) | (with_reducible assumption) | (with_reducible refine Below.alloc ?_ ?_ _) | (with_reducible refine Below.drew ?_) | (with_reducible refine Below.setCell ?_ ?_ _) | (with_reducible refine Below.trans ?_ (Below.mono (by assumption) ?_)) | go_size))))
                  (fail)
                have O19 : Own (w9.setCell ⟨gm, 13 * (X + b) + c, none⟩ (.bool false)).drew gm 4 (rmA i (setB M1 a b c false)) := by have := O9.store (13 * (X + b) + c) (.bool false); rw [g2] at this; exact this
                have b19 : Below gm w (w9.setCell ⟨gm, 13 * (X + b) + c, none⟩ (.bool false)).drew := Below.drew (b9.setCell (Nat.le_refl _) _)
                clear c0 c1 HS O9 b9 hx hfz g1 g2
                generalize (w9.setCell ⟨gm, 13 * (X + b) + c, none⟩ (.bool false)).drew = W5 at *
                obtain ⟨_, _, e1, _, _, c0, c1, _, _⟩ := HE.out W5 b19
                injection e1 with e1
                subst e1
                (try dsimp only at c0)
                (try dsimp only at c1)
                have hx := (O19.cell (13 * (Z + a) + (12 - c))).trans g3
                have hfz := O19.free (13 * (Z + a) + (12 - c))
                have HS : Hid (∀ w' : World, Below gm W5 w' → w'.cell? (ad.add (k * 3)) = some (.int .i64 a) ∧ w'.cell? ⟨(ad.add (k * 3)).block, (ad.add (k * 3)).off + 1, none⟩ = some (.int .i64 b)) := Lib.hid fun w' h => ⟨(h.cell (p := ad.add (k * 3)) K0).trans c0, (h.cell (p := ⟨(ad.add (k * 3)).block, (ad.add (k * 3)).off + 1, none⟩) K0).trans c1⟩
                go_wp2
                go_region_held3 (fun w' => w'.cell? (ad.add (k * 3)) = some (.int .i64 a) ∧ w'.cell? ⟨(ad.add (k * 3)).block, (ad.add (k * 3)).off + 1, none⟩ = some (.int .i64 b))
                  (first | exact HS.out _ (by (repeat' (first | (with_reducible exact Below.refl _ _) | (with_reducible assumption) | (with_reducible refine Below.alloc ?_ ?_ _) | (with_reducible refine Below.drew ?_) | (with_reducible refine Below.setCell ?_ ?_ _) | (with_reducible refine Below.trans ?_ (Below.mono (by assumption) ?_)) | go_size))))
                  ((go_at_call 16; refine (rinv_any _ _).mono ?_; rintro e7 w7 ⟨rfl, rfl⟩; rw [hinv]))
                have O20 : Own (W5.setCell ⟨gm, 13 * (Z + a) + (12 - c), none⟩ (.bool false)).drew gm 4 (rmA i (setB (setB M1 a b c false) b a (12 - c) false)) := by have := O19.store (13 * (Z + a) + (12 - c)) (.bool false); rw [g4] at this; exact this
                have b20 : Below gm w (W5.setCell ⟨gm, 13 * (Z + a) + (12 - c), none⟩ (.bool false)).drew := Below.drew (b19.setCell (Nat.le_refl _) _)
                go_wp2
                go_roundw
                case rel => exact ⟨c + 1, by omega, by go_num, Lib.hid (by rw [hxs2.out]; exact O20), b20⟩
                case measure => simp [intOf]; omega
              · rw [hm] at hin
                have hxs2 : Hid (cutC M0 ⟨a, b, er⟩ (c + 1) = cutC M0 ⟨a, b, er⟩ c) := Lib.hid (by rw [hxs.out, if_pos (of_decide_eq_true hm)])
                clear hxs
                go_wp2_with fail
                refine hin.mono ?_
                rintro e w9 ⟨rfl, hb9⟩
                have HM2 := Lib.hid (HM.out.below hb9 HM.out.lt)
                rw [← hxs2.out] at HM2
                clear hin
                go_wp2
                go_roundw
                case rel => exact ⟨c + 1, by omega, by go_num, HM2, hb.trans (hb9.mono (by omega))⟩
                case measure => simp [intOf]; omega
            · have hc13 : c = 13 := by omega
              subst hc13
              rw [← hS.out] at HM
              go_wp2
              go_roundw
              case rel => exact ⟨k + 1, by omega, by go_num, HM, hb⟩
              case measure => simp [intOf]; omega
        · have hkl : k = l.length := by omega
          subst hkl
          rw [List.take_length] at HM
          go_wp2
          go_ret
          exact ⟨gm, rfl, by omega, HM.out, by rw [h9]; exact hb⟩
end Go.Proofs.YtmmecpmeemhglaaDoor
