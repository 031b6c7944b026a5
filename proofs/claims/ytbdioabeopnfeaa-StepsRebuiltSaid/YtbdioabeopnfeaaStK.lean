/-
  Contracts of AtLeast, the program's and the reference's. Conditions: at most 25000 steps.
-/
import Derived.Test.YtbdioabeopnfeaaStJ
import Derived.Test.YtbdioabeopnfeaaOfS
import Derived.WalkKit
import Derived.WalkSpells
import Derived.WalkLawsBesides
import Derived.Deep.QuietTactic
import Derived.BigQuiet
import Derived.Handy
import Derived.Lib.Hide
namespace Go.Proofs.Ytbdioabeopnfeaa
open Go.RowKit

/-- Where the k-th step ends. -/
def toAt (l : List (Int × Int)) (k : Nat) : Int := match l[k + 1]? with
  | some p => p.1
  | none => 1099511627776
/-- The periods of the first k steps with values of at least n. -/
def hiT (n : Int) (l : List (Int × Int)) : Nat → List (Int × Int)
  | 0 => []
  | k + 1 => hiT n l k ++ match l[k]? with
    | some p => if n ≤ p.2 then [(p.1, toAt l k)] else []
    | none => []
theorem hiT_step {n : Int} {l : List (Int × Int)} {k : Nat} {x v : Int} (h : l[k]? = some (x, v)) : hiT n l (k + 1) = hiT n l k ++ if n ≤ v then [(x, toAt l k)] else [] := by
  show hiT n l k ++ _ = _
  rw [h]
theorem hiT_len (n : Int) (l : List (Int × Int)) : ∀ k, (hiT n l k).length ≤ k
  | 0 => Nat.le_refl _
  | k + 1 => by
    have := hiT_len n l k
    unfold hiT
    rw [List.length_append]
    cases l[k]? with
    | none => simp; omega
    | some p =>
      dsimp only
      split
      · simp only [List.length_cons, List.length_nil]; omega
      · simp only [List.length_nil]; omega

set_option maxRecDepth 100000 in
set_option maxHeartbeats 1600000 in
theorem pAtLeast_any (v : Value) (l : List (Int × Int)) (n : Int) (w : World) (L : Nat) (hv : RdP w L w.heap.size v l) (hlen : l.length ≤ 25000) :
    Calls Try.prog 31 #[v, .int .i64 n] w (RetPers w (ofL (hiT n l l.length))) := by
  have hv0 := hv
  obtain ⟨A, c, rfl, hl63, _⟩ := hv
  have HOf := Lib.hid (fun (u : Value) (w' : World) (L' : Nat) (hu : RdP w' L' w'.heap.size u (hiT n l l.length)) => sOf_any u (hiT n l l.length) w' L' hu (by have := hiT_len n l l.length; omega))
  generalize ofL (hiT n l l.length) = R at *
  go_enter Try.func31, Try.ntmps31
  go_wp2
  go_loopw [5, 11] (fun o i wr => ∃ k : Nat, k ≤ l.length ∧ i = .int .i64 k ∧ wr.ownsRow w.heap.size 40 2 o (hiT n l k).length (flatP (hiT n l k)) ∧ Below w.heap.size w wr) (fun _ i _ => l.length - (intOf i).toNat)
  case atStart => exact ⟨0, by omega, rfl, own_nilP _ _, Below.refl _ _⟩
  case round =>
    obtain ⟨k, hk, rfl, hown, hbr⟩ := hrel
    have hbz := hbr.size
    have HO := Lib.hid hown
    clear hown
    by_cases hlt : k < l.length
    · have hx := List.getElem?_eq_getElem hlt
      generalize l[k] = s at hx
      obtain ⟨x, u⟩ := s
      have hS := hiT_step (n := n) hx
      have hle := hiT_len n l k
      obtain ⟨ad, rfl, _, hab, c0, c1⟩ := (hv0.below hbr).at hx
      dsimp only at c0 c1
      have i2 : (0 : Int) ≤ (k : Int) := by omega
      have i3 : (k : Int) < (l.length : Int) := by omega
      have bW : Below wr.heap.size wr (wr.alloc (.cells #[.int .i64 x, .int .i64 u] 48)) := (Below.refl _ _).alloc (Nat.le_refl _) _
      have zW : (wr.alloc (.cells #[.int .i64 x, .int .i64 u] 48)).heap.size = wr.heap.size + 1 := World.size_alloc _ _
      have HO2 := Lib.hid (own_below HO.out bW)
      have NW : Hid (∀ y, ∀ j u', [Value.int .i64 x, Value.int .i64 y][j]? = some u' → ((wr.alloc (.cells #[.int .i64 x, .int .i64 u] 48)).alloc (.cells #[.int .i64 x, .int .i64 y] 40)).cell? ((⟨wr.heap.size + 1, 0, none⟩ : Addr).add j) = some u') := Lib.hid (fun y => by
        have h := cell_two_new (wr.alloc (.cells #[.int .i64 x, .int .i64 u] 48)) (.int .i64 x) (.int .i64 y) 40
        rw [zW] at h
        exact h)
      clear hx
      cases hy : l[k + 1]? with
      | none =>
        have hT : toAt l k = 1099511627776 := by unfold toAt; rw [hy]
        have hk1 : ¬ k + 1 < l.length := by
          intro h
          rw [List.getElem?_eq_getElem h] at hy
          cases hy
        have i4 : ¬ (k : Int) + 1 < (l.length : Int) := by omega
        rw [hT] at hS
        clear hy hT
        by_cases hn : n ≤ u
        · rw [if_pos hn] at hS
          have HS := Lib.hid hS
          clear hS
          generalize hH : hiT n l k = H at *
          go_wp2_with (at_builtin; refine append_per _ rfl _ _ rfl w.heap.size _ H rfl (World.ownsRow.alloc HO2.out _) ⟨wr.heap.size + 1, 0, none⟩ x 1099511627776 rfl (NW.out _) ?_ ?_ ?_; (focus omega); (focus go_size); intro v1 w1 hown1 hb1)
          go_roundw
          case rel => exact ⟨k + 1, by omega, by go_num, by rw [HS.out]; exact hown1, (hbr.trans (bW.mono hbz)).trans (((Below.refl _ _).alloc (by omega) _).trans hb1)⟩
          case measure => simp [intOf]; omega
        · rw [if_neg hn, List.append_nil] at hS
          have HS := Lib.hid hS
          clear hS
          go_wp2
          go_roundw
          case rel => exact ⟨k + 1, by omega, by go_num, by rw [HS.out]; exact HO2.out, hbr.trans (bW.mono hbz)⟩
          case measure => simp [intOf]; omega
      | some q =>
        obtain ⟨y, u2⟩ := q
        have hT : toAt l k = y := by unfold toAt; rw [hy]
        have hk1 : k + 1 < l.length := (List.getElem?_eq_some_iff.1 hy).1
        have i4 : (k : Int) + 1 < (l.length : Int) := by omega
        have i5 : (0 : Int) ≤ (k : Int) + 1 := by omega
        obtain ⟨ad', e, _, _, d0, d1⟩ := (hv0.below hbr).at hy
        injection e with e
        subst e
        dsimp only at d0 d1
        have d2 : wr.cell? (ad.add ((k + 1) * 2)) = some (.int .i64 y) := d0
        have d3 := (bW.cell (p := ad.add ((k + 1) * 2)) (by rw [add_block]; omega)).trans d2
        rw [hT] at hS
        clear hy hT
        by_cases hn : n ≤ u
        · rw [if_pos hn] at hS
          have HS := Lib.hid hS
          clear hS
          generalize hH : hiT n l k = H at *
          go_wp2_with (at_builtin; refine append_per _ rfl _ _ rfl w.heap.size _ H rfl (World.ownsRow.alloc HO2.out _) ⟨wr.heap.size + 1, 0, none⟩ x y rfl (NW.out _) ?_ ?_ ?_; (focus omega); (focus go_size); intro v1 w1 hown1 hb1)
          go_roundw
          case rel => exact ⟨k + 1, by omega, by go_num, by rw [HS.out]; exact hown1, (hbr.trans (bW.mono hbz)).trans (((Below.refl _ _).alloc (by omega) _).trans hb1)⟩
          case measure => simp [intOf]; omega
        · rw [if_neg hn, List.append_nil] at hS
          have HS := Lib.hid hS
          clear hS
          go_wp2
          go_roundw
          case rel => exact ⟨k + 1, by omega, by go_num, by rw [HS.out]; exact HO2.out, hbr.trans (bW.mono hbz)⟩
          case measure => simp [intOf]; omega
    · have hkl : k = l.length := by omega
      subst hkl
      have hle := hiT_len n l l.length
      have hr := Lib.hid (RdP.of_own HO.out (by omega))
      obtain ⟨A1, n1, c1, rfl⟩ := own_slice HO.out
      have hd : ¬ ((l.length : Nat) : Int) < l.length := by omega
      clear HO
      go_wp2_with (go_at_call 62; refine (HOf.out _ _ _ hr.out).mono ?_; rintro e w2 ⟨v2, rfl, hr2, hb2⟩)
      go_ret
      exact ⟨_, rfl, hr2.more (Nat.le_refl _) hbz, hbr.trans (hb2.mono hbz)⟩
/-- The reference's AtLeast. -/
def atL (n : Int) (l : List (Int × Int)) : List (Int × Int) := (hiT n l l.length).foldl rstep []
theorem foldl_rstep_len : ∀ (l acc : List (Int × Int)), (l.foldl rstep acc).length ≤ acc.length + l.length
  | [], acc => by simp
  | p :: l, acc => by
    have h1 := foldl_rstep_len l (rstep acc p)
    have h2 := rstep_len acc p
    simp only [List.foldl_cons, List.length_cons]
    omega
set_option maxRecDepth 100000 in
set_option maxHeartbeats 1600000 in
theorem rAtLeast_any (v : Value) (l : List (Int × Int)) (n : Int) (w : World) (L : Nat) (hv : RdP w L w.heap.size v l) (hlen : l.length ≤ 25000) :
    Calls Try.prog 32 #[v, .int .i64 n] w (RetPers w (atL n l)) := by
  have hv0 := hv
  obtain ⟨A, c, rfl, hl63, _⟩ := hv
  go_enter Try.func32, Try.ntmps32
  go_wp2
  go_loopw [5, 6] (fun o i wr => ∃ k : Nat, k ≤ l.length ∧ i = .int .i64 k ∧ wr.ownsRow w.heap.size 40 2 o ((hiT n l k).foldl rstep []).length (flatP ((hiT n l k).foldl rstep [])) ∧ Below w.heap.size w wr) (fun _ i _ => l.length - (intOf i).toNat)
  case atStart => exact ⟨0, by omega, rfl, own_nilP _ _, Below.refl _ _⟩
  case round =>
    obtain ⟨k, hk, rfl, hown, hbr⟩ := hrel
    have hbz := hbr.size
    have HO := Lib.hid hown
    clear hown
    by_cases hlt : k < l.length
    · have hx := List.getElem?_eq_getElem hlt
      generalize l[k] = s at hx
      obtain ⟨x, u⟩ := s
      have hS : (hiT n l (k + 1)).foldl rstep [] = if n ≤ u then rstep ((hiT n l k).foldl rstep []) (x, toAt l k) else (hiT n l k).foldl rstep [] := by
        rw [hiT_step (n := n) hx, List.foldl_append]
        split <;> rfl
      have hle := foldl_rstep_len (hiT n l k) []
      have hle2 := hiT_len n l k
      obtain ⟨ad, rfl, _, hab, c0, c1⟩ := (hv0.below hbr).at hx
      dsimp only at c0 c1
      have i2 : (0 : Int) ≤ (k : Int) := by omega
      have i3 : (k : Int) < (l.length : Int) := by omega
      clear hx
      generalize (hiT n l k).foldl rstep [] = H at *
      have hH : H.length ≤ 25000 := by simp at hle; omega
      have HJ := Lib.hid (fun y => join_any u5 H x y wr w.heap.size HO.out hbz (by omega))
      cases hy : l[k + 1]? with
      | none =>
        have hT : toAt l k = 1099511627776 := by unfold toAt; rw [hy]
        have hk1 : ¬ k + 1 < l.length := by
          intro h
          rw [List.getElem?_eq_getElem h] at hy
          cases hy
        have i4 : ¬ (k : Int) + 1 < (l.length : Int) := by omega
        rw [hT] at hS
        clear hy hT
        by_cases hn : n ≤ u
        · rw [if_pos hn] at hS
          have HS := Lib.hid hS
          clear hS
          go_wp2_with (go_at_call 63; refine (HJ.out _).mono ?_; rintro e w2 ⟨v2, rfl, hown2, hb2⟩)
          go_roundw
          case rel => exact ⟨k + 1, by omega, by go_num, by rw [HS.out]; exact hown2, hbr.trans hb2⟩
          case measure => simp [intOf]; omega
        · rw [if_neg hn] at hS
          have HS := Lib.hid hS
          clear hS
          go_wp2
          go_roundw
          case rel => exact ⟨k + 1, by omega, by go_num, by rw [HS.out]; exact HO.out, hbr⟩
          case measure => simp [intOf]; omega
      | some q =>
        obtain ⟨y, u2⟩ := q
        have hT : toAt l k = y := by unfold toAt; rw [hy]
        have hk1 : k + 1 < l.length := (List.getElem?_eq_some_iff.1 hy).1
        have i4 : (k : Int) + 1 < (l.length : Int) := by omega
        have i5 : (0 : Int) ≤ (k : Int) + 1 := by omega
        obtain ⟨ad', e, _, _, d0, d1⟩ := (hv0.below hbr).at hy
        injection e with e
        subst e
        dsimp only at d0 d1
        rw [hT] at hS
        clear hy hT
        by_cases hn : n ≤ u
        · rw [if_pos hn] at hS
          have HS := Lib.hid hS
          clear hS
          go_wp2_with (go_at_call 63; refine (HJ.out _).mono ?_; rintro e w2 ⟨v2, rfl, hown2, hb2⟩)
          go_roundw
          case rel => exact ⟨k + 1, by omega, by go_num, by rw [HS.out]; exact hown2, hbr.trans hb2⟩
          case measure => simp [intOf]; omega
        · rw [if_neg hn] at hS
          have HS := Lib.hid hS
          clear hS
          go_wp2
          go_roundw
          case rel => exact ⟨k + 1, by omega, by go_num, by rw [HS.out]; exact HO.out, hbr⟩
          case measure => simp [intOf]; omega
    · have hkl : k = l.length := by omega
      subst hkl
      have hle := foldl_rstep_len (hiT n l l.length) []
      have hle2 := hiT_len n l l.length
      have hr := Lib.hid (RdP.of_own HO.out (by simp at hle; omega))
      have hd : ¬ ((l.length : Nat) : Int) < l.length := by omega
      clear HO
      go_wp2
      go_ret
      exact ⟨_, rfl, hr.out.more (Nat.le_refl _) (Nat.le_refl _), hbr⟩
end Go.Proofs.Ytbdioabeopnfeaa
