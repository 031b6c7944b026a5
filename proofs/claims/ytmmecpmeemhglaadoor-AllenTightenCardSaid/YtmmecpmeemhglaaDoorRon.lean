/-
  Contract of the reference's once: a round that removes what is not possible. Conditions: at most eight periods.
-/
import Derived.Test.YtmmecpmeemhglaaDoorRpo
import Derived.WalkKit
import Derived.WalkSpells
import Derived.WalkLawsBesides
import Derived.Deep.QuietTactic
import Derived.BigQuiet
import Derived.Handy
import Derived.Lib.Hide
namespace Go.Proofs.YtmmecpmeemhglaaDoor
open Go.RowKit

def Clo (n : Nat) (B : BNet) : Prop := ∀ i j c, i < n → j < n → c < 13 → B i j c = B j i (12 - c)
def PCb (n : Nat) (B : BNet) : Prop := ∀ i j c k, i < n → j < n → c < 13 → k < n → B i j c = true → posA B i j k c 13 = true
def Subb (n : Nat) (S B : BNet) : Prop := ∀ i j c, i < n → j < n → c < 13 → S i j c = true → B i j c = true
def cntB (n : Nat) (B : BNet) : Nat := (rmN n B).count true
theorem cntB_le (n : Nat) (B : BNet) : cntB n B ≤ 13 * (n * n) := by
  unfold cntB
  have h := List.count_le_length (a := true) (l := rmN n B)
  unfold rmN at h ⊢
  simpa using h
/-- What a round keeps, with r relations removed, when the triples and ways before (i, j, c, k) are looked at. -/
structure OI (n : Nat) (B B' : BNet) (r i j c k : Nat) : Prop where
  sub : Subb n B' B
  clo : Clo n B → Clo n B'
  keep : ∀ S, PCb n S → Clo n S → Subb n S B → Subb n S B'
  cntB : r + cntB n B' ≤ cntB n B
  fix : r = 0 → B' = B ∧ ∀ i' j' c' k', i' < n → j' < n → c' < 13 → k' < n → (i' < i ∨ i' = i ∧ (j' < j ∨ j' = j ∧ (c' < c ∨ c' = c ∧ k' < k))) → B i' j' c' = true → posA B i' j' k' c' 13 = true
theorem OI.start (n : Nat) (B : BNet) : OI n B B 0 0 0 0 0 where
  sub _ _ _ _ _ _ h := h
  clo h := h
  keep _ _ _ h := h
  cntB := by omega
  fix _ := ⟨rfl, fun _ _ _ _ _ _ _ _ h => by omega⟩
theorem OI.pass {n : Nat} {B B' : BNet} {r i j c k : Nat} (h : OI n B B' r i j c k) (hp : B' i j c = true → posA B' i j k c 13 = true) : OI n B B' r i j c (k + 1) where
  sub := h.sub
  clo := h.clo
  keep := h.keep
  cntB := h.cntB
  fix hr := by
    obtain ⟨e, hd⟩ := h.fix hr
    refine ⟨e, fun i' j' c' k' h1 h2 h3 h4 hl hb => ?_⟩
    by_cases hh : i' = i ∧ j' = j ∧ c' = c ∧ k' = k
    · obtain ⟨rfl, rfl, rfl, rfl⟩ := hh
      rw [e] at hp
      exact hp hb
    · exact hd i' j' c' k' h1 h2 h3 h4 (by omega) hb
theorem OI.nextC {n : Nat} {B B' : BNet} {r i j c : Nat} (h : OI n B B' r i j c n) : OI n B B' r i j (c + 1) 0 where
  sub := h.sub
  clo := h.clo
  keep := h.keep
  cntB := h.cntB
  fix hr := ⟨(h.fix hr).1, fun i' j' c' k' h1 h2 h3 h4 hl hb => (h.fix hr).2 i' j' c' k' h1 h2 h3 h4 (by omega) hb⟩
theorem OI.nextJ {n : Nat} {B B' : BNet} {r i j : Nat} (h : OI n B B' r i j 13 0) : OI n B B' r i (j + 1) 0 0 where
  sub := h.sub
  clo := h.clo
  keep := h.keep
  cntB := h.cntB
  fix hr := ⟨(h.fix hr).1, fun i' j' c' k' h1 h2 h3 h4 hl hb => (h.fix hr).2 i' j' c' k' h1 h2 h3 h4 (by omega) hb⟩
theorem OI.nextI {n : Nat} {B B' : BNet} {r i : Nat} (h : OI n B B' r i n 0 0) : OI n B B' r (i + 1) 0 0 0 where
  sub := h.sub
  clo := h.clo
  keep := h.keep
  cntB := h.cntB
  fix hr := ⟨(h.fix hr).1, fun i' j' c' k' h1 h2 h3 h4 hl hb => (h.fix hr).2 i' j' c' k' h1 h2 h3 h4 (by omega) hb⟩
theorem posA_sub {n : Nat} {S B : BNet} (h : Subb n S B) {i j k c : Nat} (hi : i < n) (hj : j < n) (hk : k < n) (hp : posA S i j k c 13 = true) : posA B i j k c 13 = true := by
  obtain ⟨a, b, ha, hb, h1, h2, h3⟩ := (posA_iff _ _ _ _ _).1 hp
  exact (posA_iff _ _ _ _ _).2 ⟨a, b, ha, hb, h _ _ _ hi hk ha h1, h _ _ _ hk hj hb h2, h3⟩
theorem count_map_le {α : Type} (f g : α → Bool) : ∀ (l : List α), (∀ x ∈ l, g x = true → f x = true) → (l.map g).count true ≤ (l.map f).count true ∧ ((∃ x ∈ l, f x = true ∧ g x = false) → (l.map g).count true + 1 ≤ (l.map f).count true)
  | [], _ => ⟨by simp, fun ⟨_, h, _⟩ => by cases h⟩
  | y :: l, h => by
    obtain ⟨h1, h2⟩ := count_map_le f g l (fun x hx => h x (List.mem_cons_of_mem _ hx))
    have hy := h y (by simp)
    simp only [List.map_cons, List.count_cons]
    cases hf : f y <;> cases hg : g y <;> simp_all <;> omega
theorem cnt_cut {n : Nat} {B C : BNet} (hs : ∀ i j c, C i j c = true → B i j c = true) {i j c : Nat} (hi : i < n) (hj : j < n) (hc : c < 13) (h1 : B i j c = true) (h2 : C i j c = false) : cntB n C + 1 ≤ cntB n B := by
  unfold cntB rmN
  refine (count_map_le _ _ _ fun x _ h => hs _ _ _ h).2 ⟨13 * (n * i + j) + c, List.mem_range.2 (rm_lt hi hj hc), ?_⟩
  obtain ⟨e1, e2, e3⟩ := rm_div (i := i) hj hc
  rw [e1, e2, e3]
  exact ⟨h1, h2⟩
def cut (B : BNet) (i j c : Nat) : BNet := setB (setB B i j c false) j i (12 - c) false
theorem cut_iff (B : BNet) (i j c x y z : Nat) : cut B i j c x y z = true ↔ B x y z = true ∧ ¬ (x = i ∧ y = j ∧ z = c) ∧ ¬ (x = j ∧ y = i ∧ z = 12 - c) := by
  unfold cut setB
  by_cases h1 : x = j ∧ y = i ∧ z = 12 - c
  · rw [if_pos h1]; simp [h1]
  · rw [if_neg h1]
    by_cases h2 : x = i ∧ y = j ∧ z = c
    · rw [if_pos h2]; simp [h2]
    · rw [if_neg h2]; simp [h1, h2]
theorem OI.cut {n : Nat} {B B' : BNet} {r i j c k : Nat} (h : OI n B B' r i j c k) (hi : i < n) (hj : j < n) (hc : c < 13) (hk : k < n) (hb : B' i j c = true) (hp : posA B' i j k c 13 = false) : OI n B (cut B' i j c) (r + 1) i j c (k + 1) where
  sub x y z h1 h2 h3 h4 := h.sub x y z h1 h2 h3 ((cut_iff _ _ _ _ _ _ _).1 h4).1
  clo hB x y z h1 h2 h3 := by
    have hc' := h.clo hB
    rw [Bool.eq_iff_iff, cut_iff, cut_iff, hc' x y z h1 h2 h3]
    constructor
    · rintro ⟨a, b, d⟩; exact ⟨a, by omega, by omega⟩
    · rintro ⟨a, b, d⟩; exact ⟨a, by omega, by omega⟩
  keep S hS hC hB x y z h1 h2 h3 h4 := by
    have hS' := h.keep S hS hC hB
    have hno : S i j c = false := by
      cases hs : S i j c
      · rfl
      · have := posA_sub hS' hi hj hk (hS i j c k hi hj hc hk hs)
        rw [hp] at this; cases this
    have hno2 : S j i (12 - c) = false := by rw [← hC i j c hi hj hc]; exact hno
    refine (cut_iff _ _ _ _ _ _ _).2 ⟨hS' x y z h1 h2 h3 h4, ?_, ?_⟩
    · rintro ⟨rfl, rfl, rfl⟩; rw [hno] at h4; cases h4
    · rintro ⟨rfl, rfl, rfl⟩; rw [hno2] at h4; cases h4
  cntB := by
    have h1 := cnt_cut (n := n) (B := B') (C := Go.Proofs.YtmmecpmeemhglaaDoor.cut B' i j c) (fun x y z hh => ((cut_iff _ _ _ _ _ _ _).1 hh).1) hi hj hc hb (by
      rw [Bool.eq_false_iff]; intro hh; exact ((cut_iff _ _ _ _ _ _ _).1 hh).2.1 ⟨rfl, rfl, rfl⟩)
    have h2 := h.cntB
    omega
  fix hr := by omega
attribute [local irreducible] rtA tbA tb rmA posA cntB
set_option maxRecDepth 100000 in
set_option maxHeartbeats 3200000 in
theorem once_any (n : Nat) (M : BNet) (g gm : Nat) (w : World) (hT : Own w g 4 (rtA 3375)) (hM : Own w gm 4 (rmA n M)) (hg : g < gm) (hn : n ≤ 8) :
    Calls Tryd.prog 44 #[.slice (some ⟨g, 0, none⟩) 2197 2197, .slice (some ⟨gm, 0, none⟩) (13 * (n * n)) (13 * (n * n)), .int .i64 n] w fun e w' => ∃ (r : Nat) (M' : BNet), e = .returned (.int .i64 r) ∧ OI n M M' r n 0 0 0 ∧ Own w' gm 4 (rmA n M') ∧ Below gm w w' := by
  obtain ⟨N, hN⟩ : ∃ N, N = 13 * (n * n) := ⟨_, rfl⟩
  have bN : N ≤ 832 := by subst hN; exact Nat.mul_le_mul_left 13 (Nat.mul_le_mul hn hn)
  have HP := Lib.hid (fun i j k c B w hT hM hi hj hk hc => possible_any n i j k c B g gm w hT hM hn hi hj hk hc)
  have HX := Lib.hid (fun (i j c : Nat) (hi : i < n) (hj : j < n) (hc : c < 13) => show 13 * (n * i + j) + c < N by subst hN; exact rm_lt hi hj hc)
  have HC := cntB_le n M
  rw [← hN] at HP HC
  rw [← hN]
  have HT := Lib.hid hT
  have HM := Lib.hid hM
  have L0 := hM.lt
  clear hT hM hN
  go_enter Tryd.func44, Tryd.ntmps44
  go_wp2
  go_loopw [7, 8] (fun o i' wr => ∃ (r i : Nat) (M' : BNet), i ≤ n ∧ i' = .int .i64 i ∧ o = .int .i64 r ∧ Hid (OI n M M' r i 0 0 0) ∧ Hid (Own wr gm 4 (rmA n M')) ∧ Below gm w wr) (fun _ i' _ => n - (intOf i').toNat)
  case atStart => exact ⟨0, 0, M, by omega, rfl, rfl, Lib.hid (OI.start n M), HM, Below.refl _ _⟩
  case round =>
    clear HM
    obtain ⟨r, i, M1, hin, rfl, rfl, HO, HM, hb⟩ := hrel
    by_cases hi : i < n
    · have hdi : decide ((i : Int) < n) = true := by simp; omega
      go_wp2
      go_loopw [7, 9] (fun o i' wr => ∃ (r j : Nat) (M' : BNet), j ≤ n ∧ i' = .int .i64 j ∧ o = .int .i64 r ∧ Hid (OI n M M' r i j 0 0) ∧ Hid (Own wr gm 4 (rmA n M')) ∧ Below gm w wr) (fun _ i' _ => n - (intOf i').toNat)
      case atStart => exact ⟨r, 0, M1, by omega, rfl, rfl, HO, HM, hb⟩
      case round =>
        clear HM HO hb
        obtain ⟨r, j, M1, hjn, rfl, rfl, HO, HM, hb⟩ := hrel
        by_cases hj : j < n
        · have hdj : decide ((j : Int) < n) = true := by simp; omega
          obtain ⟨X, hX⟩ : ∃ X, X = n * i := ⟨_, rfl⟩
          obtain ⟨Z, hZ⟩ : ∃ Z, Z = n * j := ⟨_, rfl⟩
          have bX : X ≤ 56 := by subst hX; exact Nat.le_trans (Nat.mul_le_mul hn (show i ≤ 7 by omega)) (by decide)
          have bZ : Z ≤ 56 := by subst hZ; exact Nat.le_trans (Nat.mul_le_mul hn (show j ≤ 7 by omega)) (by decide)
          have wX : IntKind.i64.wrap ((n : Int) * (i : Int)) = (X : Int) := by rw [hX, Int.natCast_mul]; exact IntWalk.i64_in _ (by rw [← Int.natCast_mul, ← hX]; omega)
          have wZ : IntKind.i64.wrap ((n : Int) * (j : Int)) = (Z : Int) := by rw [hZ, Int.natCast_mul]; exact IntWalk.i64_in _ (by rw [← Int.natCast_mul, ← hZ]; omega)
          have HX1 := Lib.hid (fun c hc => HX.out i j c hi hj hc)
          have HX2 := Lib.hid (fun c hc => HX.out j i c hj hi hc)
          have HG := Lib.hid (fun (B : BNet) c (hc : c < 13) => rmA_get B hi hj hc)
          have HS1 := Lib.hid (fun (B : BNet) c (hc : c < 13) => rmA_set B false hi hj hc)
          have HS2 := Lib.hid (fun (B : BNet) c (hc : c < 13) => rmA_set B false hj hi hc)
          have HG2 := Lib.hid (fun (B : BNet) c (hc : c < 13) => rmA_get B hj hi hc)
          rw [← hX] at HX1 HG HS1
          rw [← hZ] at HX2 HS2 HG2
          clear hX hZ
          go_wp2
          go_loopw [7, 10] (fun o i' wr => ∃ (r c : Nat) (M' : BNet), c ≤ 13 ∧ i' = .int .i64 c ∧ o = .int .i64 r ∧ Hid (OI n M M' r i j c 0) ∧ Hid (Own wr gm 4 (rmA n M')) ∧ Below gm w wr) (fun _ i' _ => 13 - (intOf i').toNat)
          case atStart => exact ⟨r, 0, M1, by omega, rfl, rfl, HO, HM, hb⟩
          case round =>
            clear HM HO hb
            obtain ⟨r, c, M1, hcn, rfl, rfl, HO, HM, hb⟩ := hrel
            by_cases hc : c < 13
            · have hdc : decide ((c : Int) < 13) = true := by simp; omega
              have x1 := HX1.out c hc
              have x2 := HX2.out (12 - c) (by omega)
              have i1 : IntKind.i64.wrap ((X : Int) + j) = X + j := IntWalk.i64_in _ (by omega)
              have i2 : IntKind.i64.wrap (13 * ((X : Int) + j)) = 13 * (X + j) := IntWalk.i64_in _ (by omega)
              have i3 : IntKind.i64.wrap (13 * ((X : Int) + j) + c) = 13 * (X + j) + c := IntWalk.i64_in _ (by omega)
              have i4 : (13 * ((X : Int) + j) + c).toNat = 13 * (X + j) + c := by omega
              have i5 : (0 : Int) ≤ 13 * ((X : Int) + j) + c := by omega
              have i6 : 13 * ((X : Int) + j) + c < (N : Int) := by omega
              have i7 : (⟨gm, 0, none⟩ : Addr).add (13 * (X + j) + c) = ⟨gm, 13 * (X + j) + c, none⟩ := plain_add _ _
              have j1 : IntKind.i64.wrap ((Z : Int) + i) = Z + i := IntWalk.i64_in _ (by omega)
              have j2 : IntKind.i64.wrap (13 * ((Z : Int) + i)) = 13 * (Z + i) := IntWalk.i64_in _ (by omega)
              have j3 : IntKind.i64.wrap (13 * ((Z : Int) + i) + (12 - (c : Int))) = 13 * (Z + i) + (12 - (c : Int)) := IntWalk.i64_in _ (by omega)
              have j4 : (13 * ((Z : Int) + i) + (12 - (c : Int))).toNat = 13 * (Z + i) + (12 - c) := by omega
              have j5 : (0 : Int) ≤ 13 * ((Z : Int) + i) + (12 - (c : Int)) := by omega
              have j6 : 13 * ((Z : Int) + i) + (12 - (c : Int)) < (N : Int) := by omega
              have j7 : (⟨gm, 0, none⟩ : Addr).add (13 * (Z + i) + (12 - c)) = ⟨gm, 13 * (Z + i) + (12 - c), none⟩ := plain_add _ _
              have hinv : invR (c : Int) = 12 - (c : Int) := by unfold invR; rw [if_pos ((isRel_iff _).2 (by omega))]
              go_wp2
              go_loopw [7, 11] (fun o i' wr => ∃ (r k : Nat) (M' : BNet), k ≤ n ∧ i' = .int .i64 k ∧ o = .int .i64 r ∧ Hid (OI n M M' r i j c k) ∧ Hid (Own wr gm 4 (rmA n M')) ∧ Below gm w wr) (fun _ i' _ => n - (intOf i').toNat)
              case atStart => exact ⟨r, 0, M1, by omega, rfl, rfl, HO, HM, hb⟩
              case round =>
                clear HM HO hb
                obtain ⟨r, k, M1, hkn, rfl, rfl, HO, HM, hb⟩ := hrel
                by_cases hk : k < n
                · have hdk : decide ((k : Int) < n) = true := by simp; omega
                  have hx := (HM.out.cell (13 * (X + j) + c)).trans (HG.out M1 c hc)
                  have hfz := HM.out.free (13 * (X + j) + c)
                  have HTr := Lib.hid (HT.out.below hb hg)
                  cases hm : M1 i j c
                  · rw [hm] at hx
                    have HO2 := Lib.hid (HO.out.pass (fun h => by rw [hm] at h; cases h))
                    clear HO
                    go_wp2
                    go_roundw
                    case rel => exact ⟨r, k + 1, M1, by omega, by go_num, rfl, HO2, HM, hb⟩
                    case measure => simp [intOf]; omega
                  · rw [hm] at hx
                    have hpo := HP.out i j k c M1 wr HTr.out HM.out hi hj hk hc
                    cases hp : posA M1 i j k c 13
                    · rw [hp] at hpo
                      have HO2 := Lib.hid (HO.out.cut hi hj hc hk hm hp)
                      have hr : r ≤ 832 := by have := HO2.out.cntB; omega
                      have HM2 := Lib.hid (HM.out.store (13 * (X + j) + c) (.bool false))
                      rw [HS1.out M1 c hc] at HM2
                      clear HO
                      go_wp2_with fail
                      refine hpo.mono ?_
                      rintro e w9 ⟨rfl, e9⟩
                      subst e9
                      clear hpo
                      go_wp2_with fail
                      refine (rinv_any (c : Int) _).mono ?_
                      rintro e w9 ⟨rfl, e9⟩
                      subst e9
                      rw [hinv]
                      have hx2 := (HM2.out.cell (13 * (Z + i) + (12 - c))).trans (HG2.out _ (12 - c) (by omega))
                      have hf2 := HM2.out.free (13 * (Z + i) + (12 - c))
                      have HM3 := Lib.hid (HM2.out.store (13 * (Z + i) + (12 - c)) (.bool false))
                      rw [HS2.out _ (12 - c) (by omega)] at HM3
                      have hb2 := (hb.setCell (p := ⟨gm, 13 * (X + j) + c, none⟩) (Nat.le_refl _) (.bool false)).setCell (p := ⟨gm, 13 * (Z + i) + (12 - c), none⟩) (Nat.le_refl _) (.bool false)
                      go_wp2
                      go_roundw
                      case rel => exact ⟨r + 1, k + 1, _, by omega, by go_num, by go_num, HO2, HM3, hb2⟩
                      case measure => simp [intOf]; omega
                    · rw [hp] at hpo
                      have HO2 := Lib.hid (HO.out.pass (fun _ => hp))
                      clear HO
                      go_wp2_with fail
                      refine hpo.mono ?_
                      rintro e w9 ⟨rfl, e9⟩
                      subst e9
                      clear hpo
                      go_wp2
                      go_roundw
                      case rel => exact ⟨r, k + 1, M1, by omega, by go_num, rfl, HO2, HM, hb⟩
                      case measure => simp [intOf]; omega
                · have hkn' : k = n := by omega
                  subst hkn'
                  have HO2 := Lib.hid HO.out.nextC
                  clear HO
                  go_wp2
                  go_roundw
                  case rel => exact ⟨r, c + 1, M1, by omega, by go_num, rfl, HO2, HM, hb⟩
                  case measure => simp [intOf]; omega
            · have hc13 : c = 13 := by omega
              subst hc13
              have HO2 := Lib.hid HO.out.nextJ
              clear HO
              go_wp2
              go_roundw
              case rel => exact ⟨r, j + 1, M1, by omega, by go_num, rfl, HO2, HM, hb⟩
              case measure => simp [intOf]; omega
        · have hjn' : j = n := by omega
          subst hjn'
          have HO2 := Lib.hid HO.out.nextI
          clear HO
          go_wp2
          go_roundw
          case rel => exact ⟨r, i + 1, M1, by omega, by go_num, rfl, HO2, HM, hb⟩
          case measure => simp [intOf]; omega
    · have hin' : i = n := by omega
      subst hin'
      go_wp2
      go_ret
      exact ⟨r, M1, rfl, HO.out, HM.out, hb⟩
end Go.Proofs.YtmmecpmeemhglaaDoor
