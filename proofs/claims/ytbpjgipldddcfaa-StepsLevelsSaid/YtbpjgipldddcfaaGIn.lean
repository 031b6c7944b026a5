import Derived.Test.YtbpjgipldddcfaaGVa
import Derived.StillTailTactics
import Derived.WalkKit
import Derived.WalkSpells
import Derived.WalkLawsBesides
import Derived.Deep.QuietTactic
import Derived.BigQuiet
import Derived.Handy
import Derived.Lib.Hide
/-
  Contracts of the reference's Insert and Points: the bounds in ascending order, each once. Conditions: the lists hold at most a million elements.
-/
namespace Go.Proofs.Ytbpjgipldddcfaa
set_option maxRecDepth 100000
set_option linter.unusedVariables false
set_option linter.unusedSimpArgs false
open Go.RowKit

theorem cell_one_new (W : World) (x : Value) (t : TypeId) : ∀ j u, [x][j]? = some u → (W.alloc (.cells #[x] t)).cell? ((⟨W.heap.size, 0, none⟩ : Addr).add j) = some u := by
  intro j u hu
  match j, hu with
  | 0, hu => simp at hu; subst hu; simp [Addr.add]
  | j + 1, hu => simp at hu
theorem cell_two_new (W : World) (x y : Value) (t : TypeId) : ∀ j u, [x, y][j]? = some u → (W.alloc (.cells #[x, y] t)).cell? ((⟨W.heap.size, 0, none⟩ : Addr).add j) = some u := by
  intro j u hu
  match j, hu with
  | 0, hu => simp at hu; subst hu; simp [Addr.add]
  | 1, hu => simp at hu; subst hu; simp [Addr.add]
  | j + 2, hu => simp at hu
def midI (n : Int) (l : List Int) (i : Nat) : List Int := match l[i]? with | none => [n] | some x => if x > n then [n] else []
theorem insI_split {n : Int} : ∀ {l : List Int} {i : Nat}, i ≤ l.length → (∀ x ∈ l.take i, x < n) → (∀ x, l[i]? = some x → ¬ x < n) → insI n l = l.take i ++ midI n l i ++ l.drop i
  | [], 0, _, _, _ => rfl
  | [], i + 1, h, _, _ => by simp at h
  | y :: l, 0, _, _, h => by
    have := h y rfl
    unfold insI midI
    rw [if_neg this]
    simp only [List.getElem?_cons_zero, List.take_zero, List.nil_append, List.drop_zero]
    split <;> rfl
  | y :: l, i + 1, hi, hl, h => by
    have hy := hl y (by simp)
    unfold insI
    rw [if_pos hy, insI_split (i := i) (by simpa using hi) (fun x hx => hl x (by simp [hx])) (fun x hx => h x (by simpa using hx))]
    simp [midI]
theorem take_drop_snoc {l : List Int} {k j : Nat} {x : Int} (hkj : k ≤ j) (hx : l[j]? = some x) : (l.take (j + 1)).drop k = (l.take j).drop k ++ [x] := by
  obtain ⟨hj, rfl⟩ := List.getElem?_eq_some_iff.1 hx
  rw [List.take_succ_eq_append_getElem hj, List.drop_append_of_le_length (by rw [List.length_take]; omega)]
theorem take_drop_self (l : List Int) (k : Nat) : (l.take k).drop k = [] := List.drop_eq_nil_of_le (by rw [List.length_take]; omega)
theorem take_snoc_I {l : List Int} {k : Nat} {x : Int} (hx : l[k]? = some x) : l.take (k + 1) = l.take k ++ [x] := by
  obtain ⟨hj, rfl⟩ := List.getElem?_eq_some_iff.1 hx
  exact List.take_succ_eq_append_getElem hj
theorem insI_end {n : Int} {l : List Int} {i j : Nat} (_ : i ≤ j) (hj : l.length ≤ j) (h : insI n l = l.take i ++ midI n l i ++ l.drop i) : l.take i ++ midI n l i ++ (l.take j).drop i = insI n l := by
  rw [h, List.take_of_length_le hj]
theorem all_lt_snoc {l : List Int} {k : Nat} {x n : Int} (hx : l[k]? = some x) (h : ∀ y ∈ l.take k, y < n) (hn : x < n) : ∀ y ∈ l.take (k + 1), y < n := by
  intro y hy
  rw [take_snoc_I hx] at hy
  rcases List.mem_append.1 hy with hy | hy
  · exact h y hy
  · simp at hy; omega

set_option maxRecDepth 100000 in
set_option maxHeartbeats 1600000 in
theorem insert_any (v : Value) (l : List Int) (n : Int) (w : World) (L : Nat) (hv : RdI w L w.heap.size v l) (hlen : l.length ≤ 1000000) :
    Calls Try.prog 90 #[v, .int .i64 n] w (RetInts w (insI n l)) := by
  have hv0 := hv
  obtain ⟨A, c, rfl, hl63, _⟩ := hv
  go_enter Try.func90, Try.ntmps90
  go_wp2
  go_loopw [5, 6] (fun o i wr => ∃ k : Nat, k ≤ l.length ∧ i = .int .i64 k ∧ Hid (∀ y ∈ l.take k, y < n) ∧ wr.ownsRow w.heap.size 3 1 o (l.take k).length (intsV (l.take k)) ∧ Below w.heap.size w wr) (fun _ i _ => l.length - (intOf i).toNat)
  case atStart => exact ⟨0, by omega, rfl, Lib.hid (by simp), own_nilI _ _, Below.refl _ _⟩
  case round =>
    obtain ⟨k, hk, rfl, hall, hown, hbr⟩ := hrel
    have hbz := hbr.size
    have HO := Lib.hid hown
    clear hown
    have hlk : (l.take k).length ≤ 1000000 := by rw [List.length_take]; omega
    by_cases hlt : k < l.length
    · have hx := List.getElem?_eq_getElem hlt
      generalize l[k] = x at hx
      obtain ⟨ad, rfl, _, hab, c1⟩ := (hv0.below hbr).at hx
      by_cases hxn : x < n
      · have hS := Lib.hid (take_snoc_I hx)
        have hA := Lib.hid (all_lt_snoc hx hall.out hxn)
        clear hx
        go_wp2_with (at_builtin; refine append_int _ rfl _ _ rfl w.heap.size _ (l.take k) rfl (World.ownsRow.alloc HO.out _) ⟨wr.heap.size, 0, none⟩ x rfl (cell_one_new _ _ _) ?_ ?_ ?_; (focus omega); (focus go_size); intro v1 w1 hown hb)
        go_roundw
        case rel => exact ⟨k + 1, by omega, by go_num, hA, by rw [hS.out]; exact hown, (hbr.alloc hbz _).trans hb⟩
        case measure => simp [intOf]; omega
      · have hSp := insI_split (n := n) hk hall.out (fun y hy => by rw [hx] at hy; cases hy; exact hxn)
        have hEnd := fun j hkj hj => Lib.hid (insI_end (j := j) hkj hj hSp)
        have hM : midI n l k = if x > n then [n] else [] := by unfold midI; rw [hx]
        have hkl : ((k : Int) == (l.length : Int)) = false := by rw [beq_eq_false_iff_ne]; omega
        clear hSp
        by_cases hgt : x > n
        · rw [if_pos hgt] at hM
          rw [hM] at hEnd
          clear hM hx
          have hKK := Lib.hid hkl
          go_wp2_with (at_builtin; refine append_int _ rfl _ _ rfl w.heap.size _ (l.take k) rfl (World.ownsRow.alloc HO.out _) ⟨wr.heap.size, 0, none⟩ n rfl (cell_one_new _ _ _) ?_ ?_ ?_; (focus omega); (focus go_size); intro v1 w1 hown1 hb1)
          have HO1 := Lib.hid hown1
          clear hown1
          have hb2 := (hbr.alloc hbz (.cells #[.int .i64 n] 3)).trans hb1
          clear c1 hb1
          go_loopw [5, 6] (fun o i wi => ∃ j : Nat, k ≤ j ∧ j ≤ l.length ∧ i = .int .i64 j ∧ wi.ownsRow w.heap.size 3 1 o (l.take k ++ [n] ++ (l.take j).drop k).length (intsV (l.take k ++ [n] ++ (l.take j).drop k)) ∧ Below w.heap.size w wi) (fun _ i _ => l.length - (intOf i).toNat)
          case atStart => exact ⟨k, by omega, by omega, rfl, by rw [take_drop_self, List.append_nil]; exact HO1.out, hb2⟩
          case round =>
            obtain ⟨j, hkj, hj, rfl, hown2, hbi⟩ := hrel
            have hbz2 := hbi.size
            have HO2 := Lib.hid hown2
            clear hown2
            have hl2 : (l.take k ++ [n] ++ (l.take j).drop k).length ≤ 3000000 := by simp only [List.length_append, List.length_take, List.length_drop, List.length_cons, List.length_nil]; omega
            by_cases hjt : j < l.length
            · have hy := List.getElem?_eq_getElem hjt
              generalize l[j] = y at hy
              obtain ⟨_, e1, _, _, c2⟩ := (hv0.below hbi).at hy
              injection e1 with e1
              subst e1
              have hS2 := Lib.hid (take_drop_snoc hkj hy)
              clear hy
              go_wp2_with (at_builtin; refine append_int _ rfl _ _ rfl w.heap.size _ (l.take k ++ [n] ++ (l.take j).drop k) rfl (World.ownsRow.alloc HO2.out _) ⟨wr.heap.size, 0, none⟩ y rfl (cell_one_new _ _ _) ?_ ?_ ?_; (focus omega); (focus go_size); intro v2 w2 hown3 hb3)
              go_roundw
              case rel => exact ⟨j + 1, by omega, by omega, by go_num, by rw [hS2.out, ← List.append_assoc]; exact hown3, (hbi.alloc hbz2 _).trans hb3⟩
              case measure => simp [intOf]; omega
            · have hE := hEnd j hkj (by omega)
              have hjl : ¬ (j : Int) < l.length := by omega
              go_wp2
              go_ret
              have hown3 := HO2.out
              rw [hE.out] at hown3
              refine ⟨_, rfl, RdI.of_own hown3 ?_, hbi⟩
              rw [← hE.out]; omega
        · rw [if_neg hgt] at hM
          rw [hM] at hEnd
          clear hM hx
          go_wp2
          have HO1 := Lib.hid (show wr.ownsRow w.heap.size 3 1 _ (l.take k ++ []).length (intsV (l.take k ++ [])) by rw [List.append_nil]; exact HO.out)
          have hb2 := hbr
          clear c1
          go_loopw [5, 6] (fun o i wi => ∃ j : Nat, k ≤ j ∧ j ≤ l.length ∧ i = .int .i64 j ∧ wi.ownsRow w.heap.size 3 1 o (l.take k ++ [] ++ (l.take j).drop k).length (intsV (l.take k ++ [] ++ (l.take j).drop k)) ∧ Below w.heap.size w wi) (fun _ i _ => l.length - (intOf i).toNat)
          case atStart => exact ⟨k, by omega, by omega, rfl, by rw [take_drop_self, List.append_nil]; exact HO1.out, hb2⟩
          case round =>
            obtain ⟨j, hkj, hj, rfl, hown2, hbi⟩ := hrel
            have hbz2 := hbi.size
            have HO2 := Lib.hid hown2
            clear hown2
            have hl2 : (l.take k ++ [] ++ (l.take j).drop k).length ≤ 3000000 := by simp only [List.length_append, List.length_take, List.length_drop, List.length_nil]; omega
            by_cases hjt : j < l.length
            · have hy := List.getElem?_eq_getElem hjt
              generalize l[j] = y at hy
              obtain ⟨_, e1, _, _, c2⟩ := (hv0.below hbi).at hy
              injection e1 with e1
              subst e1
              have hS2 := Lib.hid (take_drop_snoc hkj hy)
              clear hy
              go_wp2_with (at_builtin; refine append_int _ rfl _ _ rfl w.heap.size _ (l.take k ++ [] ++ (l.take j).drop k) rfl (World.ownsRow.alloc HO2.out _) ⟨wr.heap.size, 0, none⟩ y rfl (cell_one_new _ _ _) ?_ ?_ ?_; (focus omega); (focus go_size); intro v2 w2 hown3 hb3)
              go_roundw
              case rel => exact ⟨j + 1, by omega, by omega, by go_num, by rw [hS2.out, ← List.append_assoc]; exact hown3, (hbi.alloc hbz2 _).trans hb3⟩
              case measure => simp [intOf]; omega
            · have hE := hEnd j hkj (by omega)
              have hjl : ¬ (j : Int) < l.length := by omega
              go_wp2
              go_ret
              have hown3 := HO2.out
              rw [hE.out] at hown3
              refine ⟨_, rfl, RdI.of_own hown3 ?_, hbi⟩
              rw [← hE.out]; omega
    · have hkl : k = l.length := by omega
      have hn : l[k]? = none := List.getElem?_eq_none (by omega)
      have hSp := insI_split (n := n) hk hall.out (fun y hy => by rw [hn] at hy; cases hy)
      have hEnd := Lib.hid (insI_end (j := k) (Nat.le_refl _) (by omega) hSp)
      have hM : midI n l k = [n] := by unfold midI; rw [hn]
      rw [hM] at hEnd
      have hkk : ((k : Int) == (l.length : Int)) = true := by rw [beq_iff_eq]; omega
      have hd : decide ((k : Int) < l.length) = false := by simp; omega
      have hE : Hid (l.take k ++ [n] = insI n l) := Lib.hid (by rw [← hEnd.out, List.drop_eq_nil_of_le (by rw [List.length_take]; omega), List.append_nil])
      clear hM hSp hEnd hn
      have HKL := Lib.hid hkl
      clear hkl
      go_wp2_with (at_builtin; refine append_int _ rfl _ _ rfl w.heap.size _ (l.take k) rfl (World.ownsRow.alloc HO.out _) ⟨wr.heap.size, 0, none⟩ n rfl (cell_one_new _ _ _) ?_ ?_ ?_; (focus omega); (focus go_size); intro v1 w1 hown1 hb1)
      go_rounds 1
      go_ret
      rw [hE.out] at hown1
      refine ⟨_, rfl, RdI.of_own hown1 ?_, (hbr.alloc hbz _).trans hb1⟩
      rw [← hE.out, List.length_append]; simp; omega

set_option maxRecDepth 100000 in
set_option maxHeartbeats 1600000 in
theorem rPts_any (v : Value) (l : List (Int × Int)) (w : World) (L : Nat) (hv : RdP w L w.heap.size v l) (hlen : l.length ≤ 100000) :
    Calls Try.prog 74 #[v] w (RetInts w (pts l)) := by
  have hv0 := hv
  obtain ⟨A, c, rfl, hl63, _⟩ := hv
  go_enter Try.func74, Try.ntmps74
  go_wp2
  go_loopw [3, 4] (fun o i wr => ∃ k : Nat, k ≤ l.length ∧ i = .int .i64 k ∧ RdI wr w.heap.size wr.heap.size o (pts (l.take k)) ∧ Below w.heap.size w wr) (fun _ i _ => l.length - (intOf i).toNat)
  case atStart => exact ⟨0, by omega, rfl, ⟨none, 0, rfl, by simp [pts], by simp [pts]⟩, Below.refl _ _⟩
  case round =>
    obtain ⟨k, hk, rfl, hrd, hbr⟩ := hrel
    have hbz := hbr.size
    by_cases hlt : k < l.length
    · have hke := List.getElem?_eq_getElem hlt
      have hT := Lib.hid (List.take_succ_eq_append_getElem hlt)
      generalize l[k] = p at hke hT
      obtain ⟨a, b⟩ := p
      obtain ⟨ad, rfl, hal, hab, h0, h1⟩ := (hv0.below hbr).at hke
      dsimp only at h0 h1
      have hpl := pts_len (l.take k)
      rw [List.length_take] at hpl
      have HRD := Lib.hid hrd
      obtain ⟨A2, c2, rfl, _, _⟩ := hrd
      cases hV : vld a b
      · have hP : Hid (pts (l.take (k + 1)) = pts (l.take k)) := Lib.hid (by rw [hT.out]; unfold pts; rw [List.foldl_append]; simp [ptsF, hV])
        go_wp2_with (go_at_call 31; refine (rvalid_any _ _ _).mono ?_; rw [hV]; rintro e w2 ⟨rfl, hb2⟩)
        go_roundw
        case rel => exact ⟨k + 1, by omega, by go_num, by rw [hP.out]; exact HRD.out.step hb2 (Nat.le_refl _), hbr.trans (hb2.mono hbz)⟩
        case measure => simp [intOf]; omega
      · have hP : Hid (pts (l.take (k + 1)) = insI b (insI a (pts (l.take k)))) := Lib.hid (by rw [hT.out]; unfold pts; rw [List.foldl_append]; simp [ptsF, hV])
        have hil := insI_len a (pts (l.take k))
        go_wp2_with fail
        refine (rvalid_any _ _ _).mono ?_
        rw [hV]
        rintro e w2 ⟨rfl, hb2⟩
        have B2 := hbr.trans (hb2.mono hbz)
        obtain ⟨_, e1, _, _, g0, g1⟩ := (hv0.below B2).at hke
        injection e1 with e1
        subst e1
        dsimp only at g0 g1
        clear h0 h1
        go_wp2_with fail
        refine (insert_any _ _ a _ _ (HRD.out.step hb2 (Nat.le_refl _)) (by omega)).mono ?_
        rintro e w3 ⟨v3, rfl, hr3, hb3⟩
        have B3 := B2.trans (hb3.mono B2.size)
        obtain ⟨_, e1, _, _, g0, g1⟩ := (hv0.below B3).at hke
        injection e1 with e1
        subst e1
        dsimp only at g0 g1
        have HR3 := Lib.hid hr3
        clear hr3
        go_wp2_with fail
        refine (insert_any _ _ b _ _ HR3.out (by omega)).mono ?_
        rintro e w4 ⟨v4, rfl, hr4, hb4⟩
        have B4 := B3.trans (hb4.mono B3.size)
        have hz := B3.size
        go_wp2_with fail
        go_roundw
        case rel => exact ⟨k + 1, by omega, by go_num, by rw [hP.out]; exact hr4.more (Nat.le_refl _) hz, B4⟩
        case measure => simp [intOf]; omega
    · have hkl : k = l.length := by omega
      subst hkl
      rw [List.take_length] at hrd
      have HRD := Lib.hid hrd
      clear hrd
      go_wp2
      go_ret
      exact ⟨_, rfl, HRD.out, hbr⟩
end Go.Proofs.Ytbpjgipldddcfaa
