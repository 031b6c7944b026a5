import Derived.Test.YtbpjgipldddcfaaGJ
import Derived.Test.YtbpjgipldddcfaaGOf
import Derived.Laws.OwnMore
import Derived.IntWalk
import Derived.Deep.DeepCutAuto
import Derived.WalkKit
import Derived.WalkSpells
import Derived.WalkLawsBesides
import Derived.Deep.QuietTactic
import Derived.BigQuiet
import Derived.Handy
import Derived.Lib.Hide
/-
  Contracts of AtLeast, the program's and the reference's. Conditions: at most 25000 steps.
-/
namespace Go.Proofs.Ytbpjgipldddcfaa
set_option maxRecDepth 100000
set_option linter.unusedVariables false
set_option linter.unusedSimpArgs false
open Go.RowKit

/-- Where the k-th step ends. -/
def toAt (l : List (Int × Int)) (k : Nat) : Int := match l[k + 1]? with
  | some p => p.1
  | none => 1099511627776
/-- The periods of the first k steps with values of at least n. -/
def hiT (n : Int) (l : List (Int × Int)) : Nat → List (Int × Int)
  | 0 => []
  | k + 1 => hiT n l k ++ match l[k]? with
    | some p => if n ≤ p.2 then [(p.1, toAt l k)] else []
    | none => []
theorem hiT_step {n : Int} {l : List (Int × Int)} {k : Nat} {x v : Int} (h : l[k]? = some (x, v)) : hiT n l (k + 1) = hiT n l k ++ if n ≤ v then [(x, toAt l k)] else [] := by
  show hiT n l k ++ _ = _
  rw [h]
theorem hiT_len (n : Int) (l : List (Int × Int)) : ∀ k, (hiT n l k).length ≤ k
  | 0 => Nat.le_refl _
  | k + 1 => by
    have := hiT_len n l k
    unfold hiT
    rw [List.length_append]
    cases l[k]? with
    | none => simp; omega
    | some p =>
      dsimp only
      split
      · simp only [List.length_cons, List.length_nil]; omega
      · simp only [List.length_nil]; omega

/-- The pieces of the first k steps. -/
def pcsT (l : List (Int × Int)) : Nat → List Bd
  | 0 => []
  | k + 1 => pcsT l k ++ match l[k]? with
    | some p => [(p.1, toAt l k, p.2)]
    | none => []
theorem pcsT_step {l : List (Int × Int)} {k : Nat} {x v : Int} (h : l[k]? = some (x, v)) : pcsT l (k + 1) = pcsT l k ++ [(x, toAt l k, v)] := by
  show pcsT l k ++ _ = _
  rw [h]
theorem pcsT_len (l : List (Int × Int)) : ∀ k, k ≤ l.length → (pcsT l k).length = k
  | 0, _ => rfl
  | k + 1, h => by
    rw [pcsT_step (List.getElem?_eq_getElem (show k < l.length by omega)), List.length_append, pcsT_len l k (by omega)]; rfl
theorem pcsT_get {l : List (Int × Int)} {k : Nat} {x v : Int} (h : l[k]? = some (x, v)) : ∀ m, k < m → m ≤ l.length → (pcsT l m)[k]? = some (x, toAt l k, v)
  | 0, h1, _ => by omega
  | m + 1, h1, h2 => by
    by_cases hm : k = m
    · subst hm
      rw [pcsT_step h, List.getElem?_append_right (by rw [pcsT_len l k (by omega)]; exact Nat.le_refl _), pcsT_len l k (by omega), Nat.sub_self]
      rfl
    · rw [pcsT_step (List.getElem?_eq_getElem (show m < l.length by omega)), List.getElem?_append_left (by rw [pcsT_len l m (by omega)]; omega)]
      exact pcsT_get h m (by omega) (by omega)
theorem infoPcA : (Try.prog.info? 44).map (fun i => (i.zero, i.size, i.bytes)) = some (some (.agg #[.int .i64 0, .int .i64 0, .int .i64 0]), 3, 24) := by kernel_rfl
def zC : Bd := (0, 0, 0)
/-- The cells of n pieces of which those of l are set. -/
def rowC (l : List Bd) (n : Nat) : Array Value := (flatB (l ++ List.replicate (n - l.length) zC)).toArray
theorem flatB_rep : ∀ n : Nat, flatB (List.replicate n zC) = List.replicate (n * 3) (Value.int .i64 0)
  | 0 => by simp [flatB]
  | n + 1 => by
    rw [List.replicate_succ, show flatB (zC :: List.replicate n zC) = [.int .i64 0, .int .i64 0, .int .i64 0] ++ flatB (List.replicate n zC) by simp [flatB, encB, zC], flatB_rep n, show (n + 1) * 3 = n * 3 + 1 + 1 + 1 by omega]
    simp [List.replicate_succ]
theorem flatB_snocC (l : List Bd) (p : Bd) : flatB (l ++ [p]) = flatB l ++ [.int .i64 p.1, .int .i64 p.2.1, .int .i64 p.2.2] := by simp [flatB, encB]
theorem made_rowC (W : World) (n : Nat) (hn : n ≤ 1099511627776) :
    (Instr.makeSlice 41 (.int .i64 (n : Nat)) (.int .i64 (n : Nat))).run Try.prog W = .ok (.slice (some ⟨W.heap.size, 0, none⟩) n n) (W.alloc (.cells (rowC [] n) 44)) := by
  obtain ⟨i0, hi, hz0, hz1, hz2⟩ := info_parts infoPcA
  have h := run_make (P := Try.prog) (w := W) 41 44 i0 (.agg #[.int .i64 0, .int .i64 0, .int .i64 0]) Try.underlying41 hi hz0 .i64 .i64 (n : Int) (n : Int) (by omega) (Int.le_refl _) (by rw [hz2]; omega) (by omega)
  rw [h, Int.toNat_natCast, hz1]
  have hr : madeCells (Value.agg #[.int .i64 0, .int .i64 0, .int .i64 0]).cells (n * 3) = rowC [] n := by
    unfold rowC
    rw [List.nil_append, List.length_nil, Nat.sub_zero, flatB_rep]
    unfold madeCells
    apply Array.ext
    · simp [Value.cells]
    · intro i h1 h2
      have h4 : i % 3 = 0 ∨ i % 3 = 1 ∨ i % 3 = 2 := by omega
      rcases h4 with h4 | h4 | h4 <;> simp [Value.cells, h4]
  rw [hr]
theorem rowC_next (l : List Bd) (n : Nat) (h : l.length < n) (j : Nat) (hj : j < 3) : (rowC l n)[l.length * 3 + j]? = some (Value.int .i64 0) := by
  unfold rowC
  rw [flatB_append, flatB_rep, List.getElem?_toArray, List.getElem?_append_right (by rw [flatB_length]; omega), flatB_length, List.getElem?_replicate, if_pos (by omega)]
theorem rowC_set (l : List Bd) (n : Nat) (r : Bd) (h : l.length < n) :
    (((rowC l n).setIfInBounds (l.length * 3) (.int .i64 r.1)).setIfInBounds (l.length * 3 + 1) (.int .i64 r.2.1)).setIfInBounds (l.length * 3 + 2) (.int .i64 r.2.2) = rowC (l ++ [r]) n := by
  unfold rowC
  rw [List.setIfInBounds_toArray, List.setIfInBounds_toArray, List.setIfInBounds_toArray]
  congr 1
  rw [show n - l.length = (n - (l ++ [r]).length) + 1 by rw [List.length_append]; simp; omega, List.replicate_succ, flatB_append, flatB_append, flatB_snocC, show flatB (zC :: List.replicate (n - (l ++ [r]).length) zC) = [.int .i64 0, .int .i64 0, .int .i64 0] ++ flatB (List.replicate (n - (l ++ [r]).length) zC) by simp [flatB, encB, zC]]
  generalize flatB (List.replicate (n - (l ++ [r]).length) zC) = T
  rw [List.set_append, if_neg (by rw [flatB_length]; omega), List.set_append, if_neg (by rw [flatB_length]; omega), List.set_append, if_neg (by rw [flatB_length]; omega), flatB_length, List.append_assoc]
  rw [show l.length * 3 - l.length * 3 = 0 by omega, show l.length * 3 + 1 - l.length * 3 = 1 by omega, show l.length * 3 + 2 - l.length * 3 = 2 by omega]
  rfl
theorem rdB_row {w : World} {g L : Nat} {l : List Bd} (h : Own w g 44 (rowC l l.length)) (hg : L ≤ g) (hl : l.length ≤ 9223372036854775807) : RdB w L w.heap.size (.slice (some ⟨g, 0, none⟩) l.length l.length) l := by
  refine ⟨_, _, rfl, hl, fun k r hk => ⟨⟨g, 0, none⟩, rfl, hg, h.lt, ?_⟩⟩
  obtain ⟨h1, h2, h3⟩ := flatB_get l k r hk
  have e : rowC l l.length = (flatB l).toArray := by unfold rowC; rw [Nat.sub_self]; simp
  rw [e] at h
  rw [plain_add, plain_add, plain_add]
  have c := fun j => h.cell j
  exact ⟨(c _).trans (by simpa using h1), (c _).trans (by simpa using h2), (c _).trans (by simpa using h3)⟩
set_option maxRecDepth 100000 in
set_option maxHeartbeats 3200000 in
theorem pPcs_any (v : Value) (l : List (Int × Int)) (w : World) (L : Nat) (hv : RdP w L w.heap.size v l) (hlen : l.length ≤ 1000000) :
    Calls Try.prog 22 #[v] w fun e w' => ∃ v', e = .returned v' ∧ RdB w' w.heap.size w'.heap.size v' (pcsT l l.length) ∧ Below w.heap.size w w' := by
  have hv0 := hv
  obtain ⟨A, c, rfl, hl, _⟩ := hv
  have hmk := made_rowC w l.length (by omega)
  have hmk2 := made_rowC w.drew l.length (by omega)
  have b1 : Below w.heap.size w (w.alloc (.cells (rowC [] l.length) 44)) := (Below.refl _ _).alloc (Nat.le_refl _) _
  have o2 := Own.new w 44 (rowC [] l.length)
  have HB := Lib.hid b1
  have HO2 := Lib.hid o2
  clear b1 o2
  go_enter Try.func22, Try.ntmps22
  go_upto_region 3 with fail
  generalize w.alloc (.cells (rowC [] l.length) 44) = W0 at *
  go_loopw [12] (fun i wr => ∃ k : Nat, k ≤ l.length ∧ i = .int .i64 k ∧ Hid (Own wr w.heap.size 44 (rowC (pcsT l k) l.length)) ∧ Below w.heap.size w wr) (fun i _ => l.length - (intOf i).toNat)
  case atStart => exact ⟨0, by omega, rfl, HO2, HB.out⟩
  case round =>
    obtain ⟨k, hk, rfl, HR, hbr⟩ := hrel
    clear HO2 HB hmk hmk2
    have hbz := hbr.size
    by_cases hlt : k < l.length
    · have hx := List.getElem?_eq_getElem hlt
      generalize l[k] = r at hx
      obtain ⟨x, u⟩ := r
      have hT := pcsT_step hx
      have hlen2 := pcsT_len l k hk
      have i1 : IntKind.i64.wrap ((k : Int) + 1) = (k : Int) + 1 := IntWalk.i64_in _ (by omega)
      have i2 : (0 : Int) ≤ (k : Int) := by omega
      have i3 : (k : Int) < (l.length : Int) := by omega
      obtain ⟨ad, rfl, _, hab, c0, c1⟩ := (hv0.below hbr).at hx
      dsimp only at c0 c1
      have oR := HR.out.alloc (.cells #[.int .i64 x, .int .i64 u] 37)
      have bA : Below wr.heap.size wr (wr.alloc (.cells #[.int .i64 x, .int .i64 u] 37)) := (Below.refl _ _).alloc (Nat.le_refl _) _
      have bV : Below w.heap.size w (wr.alloc (.cells #[.int .i64 x, .int .i64 u] 37)) := hbr.alloc hbz _
      have oX := Own.new wr 37 #[.int .i64 x, .int .i64 u]
      have n0 := rowC_next (pcsT l k) l.length (by omega) 0 (by omega)
      have n1 := rowC_next (pcsT l k) l.length (by omega) 1 (by omega)
      have n2 := rowC_next (pcsT l k) l.length (by omega) 2 (by omega)
      have hset := rowC_set (pcsT l k) l.length (x, toAt l k, u) (by omega)
      rw [← hT] at hset
      rw [hlen2] at n0 n1 n2 hset
      rw [Nat.add_zero] at n0
      dsimp only at hset
      have x0 := oX.cell 0
      have x1 := oX.cell 1
      have e0 := (oR.cell (k * 3)).trans n0
      have e1 := (oR.cell (k * 3 + 1)).trans n1
      have e2 := (oR.cell (k * 3 + 2)).trans n2
      have f0 := oR.free (k * 3)
      have f1 := oR.free (k * 3 + 1)
      have f2 := oR.free (k * 3 + 2)
      have o4 := ((oR.store (k * 3) (.int .i64 x)).store (k * 3 + 1) (.int .i64 (toAt l k))).store (k * 3 + 2) (.int .i64 u)
      rw [hset] at o4
      have b4 := ((bV.setCell (p := ⟨w.heap.size, k * 3, none⟩) (Nat.le_refl _) (.int .i64 x)).setCell (p := ⟨w.heap.size, k * 3 + 1, none⟩) (Nat.le_refl _) (.int .i64 (toAt l k))).setCell (p := ⟨w.heap.size, k * 3 + 2, none⟩) (Nat.le_refl _) (.int .i64 u)
      have O4 := Lib.hid o4
      have B4 := Lib.hid b4
      clear hx n0 n1 n2 hset oR oX o4 b4 HR hT hlen2
      cases hy : l[k + 1]? with
      | none =>
        have hTo : toAt l k = 1099511627776 := by unfold toAt; rw [hy]
        rw [hTo] at O4 B4
        have hk1 : ¬ k + 1 < l.length := by
          intro h
          rw [List.getElem?_eq_getElem h] at hy
          cases hy
        have i4 : ¬ (k : Int) + 1 < (l.length : Int) := by omega
        clear hy hTo
        go_upto_region 8 with fail
        generalize wr.alloc (.cells #[.int .i64 x, .int .i64 u] 37) = V at *
        generalize wr.heap.size = gN at *
        go_wp2
        go_roundw
        case rel => exact ⟨k + 1, by omega, by go_num, O4, B4.out⟩
        case measure => simp [intOf]; omega
      | some q =>
        obtain ⟨y, u2⟩ := q
        have hTo : toAt l k = y := by unfold toAt; rw [hy]
        rw [hTo] at O4 B4
        have hk1 : k + 1 < l.length := (List.getElem?_eq_some_iff.1 hy).1
        have i4 : (k : Int) + 1 < (l.length : Int) := by omega
        have i5 : (0 : Int) ≤ (k : Int) + 1 := by omega
        obtain ⟨ad', e, _, _, d0, d1⟩ := (hv0.below hbr).at hy
        injection e with e
        subst e
        dsimp only at d0 d1
        have d2 : wr.cell? (ad.add ((k + 1) * 2)) = some (.int .i64 y) := d0
        have d3 := (bA.cell (p := ad.add ((k + 1) * 2)) (by rw [add_block]; omega)).trans d2
        clear hy hTo d0 d1 d2
        go_upto_region 8 with fail
        generalize wr.alloc (.cells #[.int .i64 x, .int .i64 u] 37) = V at *
        generalize wr.heap.size = gN at *
        go_wp2
        go_roundw
        case rel => exact ⟨k + 1, by omega, by go_num, O4, B4.out⟩
        case measure => simp [intOf]; omega
    · have hd : ¬ (k : Int) < l.length := by omega
      have hkl : k = l.length := by omega
      subst hkl
      have hls := pcsT_len l l.length (Nat.le_refl _)
      have h1 := HR.out
      have HX := Lib.hid (rdB_row (l := pcsT l l.length) (by rw [hls]; exact h1) (Nat.le_refl w.heap.size) (by omega))
      rw [hls] at HX
      clear h1 HR
      go_wp2
      go_ret
      exact ⟨_, rfl, HX.out, hbr⟩
set_option maxRecDepth 100000 in
set_option maxHeartbeats 1600000 in
theorem pAtLeast_any (v : Value) (l : List (Int × Int)) (n : Int) (w : World) (L : Nat) (hv : RdP w L w.heap.size v l) (hlen : l.length ≤ 25000) :
    Calls Try.prog 8 #[v, .int .i64 n] w (RetPers w (ofL (hiT n l l.length))) := by
  have HP := Lib.hid (pPcs_any v l w L hv (by omega))
  obtain ⟨A, c, rfl, hl63, _⟩ := hv
  have HOf := Lib.hid (fun (u : Value) (w' : World) (L' : Nat) (hu : RdP w' L' w'.heap.size u (hiT n l l.length)) => sOf_any u (hiT n l l.length) w' L' hu (by have := hiT_len n l l.length; omega))
  generalize ofL (hiT n l l.length) = R at *
  go_enter Try.func8, Try.ntmps8
  go_wp2_with fail
  with_reducible refine HP.out.mono ?_
  rintro e w1 ⟨vp, rfl, rp, hb1⟩
  have hls := pcsT_len l l.length (Nat.le_refl _)
  have hrp := rp
  obtain ⟨A1, c1, rfl, _, _⟩ := rp
  rw [hls] at hrp ⊢
  have hz1 := hb1.size
  clear HP
  go_wp2
  go_loopw [5, 11] (fun o i wr => ∃ k : Nat, k ≤ l.length ∧ i = .int .i64 k ∧ wr.ownsRow w1.heap.size 33 2 o (hiT n l k).length (flatP (hiT n l k)) ∧ Below w1.heap.size w1 wr) (fun _ i _ => l.length - (intOf i).toNat)
  case atStart => exact ⟨0, by omega, rfl, own_nilP _ _, Below.refl _ _⟩
  case round =>
    obtain ⟨k, hk, rfl, hown, hbr⟩ := hrel
    have hbz := hbr.size
    have HO := Lib.hid hown
    clear hown
    by_cases hlt : k < l.length
    · have hx := List.getElem?_eq_getElem hlt
      generalize l[k] = s at hx
      obtain ⟨x, u⟩ := s
      have hS := hiT_step (n := n) hx
      have hle := hiT_len n l k
      obtain ⟨ad, rfl, _, hab, c0, c1, c2⟩ := (hrp.below hbr).at (pcsT_get hx l.length hlt (Nat.le_refl _))
      rw [add_next] at c1
      rw [add_next2] at c2
      generalize toAt l k = y at *
      dsimp only at c0 c1 c2
      have i2 : (0 : Int) ≤ (k : Int) := by omega
      have i3 : (k : Int) < (l.length : Int) := by omega
      have bW : Below wr.heap.size wr (wr.alloc (.cells #[.int .i64 x, .int .i64 y, .int .i64 u] 44)) := (Below.refl _ _).alloc (Nat.le_refl _) _
      have zW : (wr.alloc (.cells #[.int .i64 x, .int .i64 y, .int .i64 u] 44)).heap.size = wr.heap.size + 1 := World.size_alloc _ _
      have HO2 := Lib.hid (own_below HO.out bW)
      have NW : Hid (∀ j u', [Value.int .i64 x, Value.int .i64 y][j]? = some u' → ((wr.alloc (.cells #[.int .i64 x, .int .i64 y, .int .i64 u] 44)).alloc (.cells #[.int .i64 x, .int .i64 y] 33)).cell? ((⟨wr.heap.size + 1, 0, none⟩ : Addr).add j) = some u') := Lib.hid (by
        have h := cell_two_new (wr.alloc (.cells #[.int .i64 x, .int .i64 y, .int .i64 u] 44)) (.int .i64 x) (.int .i64 y) 33
        rw [zW] at h
        exact h)
      clear hx
      by_cases hn : n ≤ u
      · rw [if_pos hn] at hS
        have HS := Lib.hid hS
        clear hS
        generalize hH : hiT n l k = H at *
        go_wp2_with (at_builtin; refine append_per _ rfl _ _ rfl w1.heap.size _ H rfl (World.ownsRow.alloc HO2.out _) ⟨wr.heap.size + 1, 0, none⟩ x y rfl NW.out ?_ ?_ ?_; (focus omega); (focus go_size); intro v1 w2 hown1 hb2)
        go_roundw
        case rel => exact ⟨k + 1, by omega, by go_num, by rw [HS.out]; exact hown1, (hbr.trans (bW.mono hbz)).trans (((Below.refl _ _).alloc (by omega) _).trans hb2)⟩
        case measure => simp [intOf]; omega
      · rw [if_neg hn, List.append_nil] at hS
        have HS := Lib.hid hS
        clear hS
        go_wp2
        go_roundw
        case rel => exact ⟨k + 1, by omega, by go_num, by rw [HS.out]; exact HO2.out, hbr.trans (bW.mono hbz)⟩
        case measure => simp [intOf]; omega
    · have hkl : k = l.length := by omega
      subst hkl
      have hle := hiT_len n l l.length
      have hr := Lib.hid (RdP.of_own HO.out (by omega))
      obtain ⟨A1, n1, c1, rfl⟩ := own_slice HO.out
      have hd : ¬ ((l.length : Nat) : Int) < l.length := by omega
      clear HO
      go_wp2_with (go_at_call 23; refine (HOf.out _ _ _ hr.out).mono ?_; rintro e w2 ⟨v2, rfl, hr2, hb2⟩)
      go_ret
      exact ⟨_, rfl, hr2.more (Nat.le_refl _) (Nat.le_trans hz1 hbz), hb1.trans ((hbr.trans (hb2.mono hbz)).mono hz1)⟩
/-- The reference's AtLeast. -/
def atL (n : Int) (l : List (Int × Int)) : List (Int × Int) := (hiT n l l.length).foldl rstep []
theorem foldl_rstep_len : ∀ (l acc : List (Int × Int)), (l.foldl rstep acc).length ≤ acc.length + l.length
  | [], acc => by simp
  | p :: l, acc => by
    have h1 := foldl_rstep_len l (rstep acc p)
    have h2 := rstep_len acc p
    simp only [List.foldl_cons, List.length_cons]
    omega
set_option maxRecDepth 100000 in
set_option maxHeartbeats 1600000 in
theorem rAtLeast_any (v : Value) (l : List (Int × Int)) (n : Int) (w : World) (L : Nat) (hv : RdP w L w.heap.size v l) (hlen : l.length ≤ 25000) :
    Calls Try.prog 9 #[v, .int .i64 n] w (RetPers w (atL n l)) := by
  have hv0 := hv
  obtain ⟨A, c, rfl, hl63, _⟩ := hv
  go_enter Try.func9, Try.ntmps9
  go_wp2
  go_loopw [5, 6] (fun o i wr => ∃ k : Nat, k ≤ l.length ∧ i = .int .i64 k ∧ wr.ownsRow w.heap.size 33 2 o ((hiT n l k).foldl rstep []).length (flatP ((hiT n l k).foldl rstep [])) ∧ Below w.heap.size w wr) (fun _ i _ => l.length - (intOf i).toNat)
  case atStart => exact ⟨0, by omega, rfl, own_nilP _ _, Below.refl _ _⟩
  case round =>
    obtain ⟨k, hk, rfl, hown, hbr⟩ := hrel
    have hbz := hbr.size
    have HO := Lib.hid hown
    clear hown
    by_cases hlt : k < l.length
    · have hx := List.getElem?_eq_getElem hlt
      generalize l[k] = s at hx
      obtain ⟨x, u⟩ := s
      have hS : (hiT n l (k + 1)).foldl rstep [] = if n ≤ u then rstep ((hiT n l k).foldl rstep []) (x, toAt l k) else (hiT n l k).foldl rstep [] := by
        rw [hiT_step (n := n) hx, List.foldl_append]
        split <;> rfl
      have hle := foldl_rstep_len (hiT n l k) []
      have hle2 := hiT_len n l k
      obtain ⟨ad, rfl, _, hab, c0, c1⟩ := (hv0.below hbr).at hx
      dsimp only at c0 c1
      have i2 : (0 : Int) ≤ (k : Int) := by omega
      have i3 : (k : Int) < (l.length : Int) := by omega
      clear hx
      generalize (hiT n l k).foldl rstep [] = H at *
      have hH : H.length ≤ 25000 := by simp at hle; omega
      have HJ := Lib.hid (fun y => join_any u5 H x y wr w.heap.size HO.out hbz (by omega))
      cases hy : l[k + 1]? with
      | none =>
        have hT : toAt l k = 1099511627776 := by unfold toAt; rw [hy]
        have hk1 : ¬ k + 1 < l.length := by
          intro h
          rw [List.getElem?_eq_getElem h] at hy
          cases hy
        have i4 : ¬ (k : Int) + 1 < (l.length : Int) := by omega
        rw [hT] at hS
        clear hy hT
        by_cases hn : n ≤ u
        · rw [if_pos hn] at hS
          have HS := Lib.hid hS
          clear hS
          go_wp2_with (go_at_call 24; refine (HJ.out _).mono ?_; rintro e w2 ⟨v2, rfl, hown2, hb2⟩)
          go_roundw
          case rel => exact ⟨k + 1, by omega, by go_num, by rw [HS.out]; exact hown2, hbr.trans hb2⟩
          case measure => simp [intOf]; omega
        · rw [if_neg hn] at hS
          have HS := Lib.hid hS
          clear hS
          go_wp2
          go_roundw
          case rel => exact ⟨k + 1, by omega, by go_num, by rw [HS.out]; exact HO.out, hbr⟩
          case measure => simp [intOf]; omega
      | some q =>
        obtain ⟨y, u2⟩ := q
        have hT : toAt l k = y := by unfold toAt; rw [hy]
        have hk1 : k + 1 < l.length := (List.getElem?_eq_some_iff.1 hy).1
        have i4 : (k : Int) + 1 < (l.length : Int) := by omega
        have i5 : (0 : Int) ≤ (k : Int) + 1 := by omega
        obtain ⟨ad', e, _, _, d0, d1⟩ := (hv0.below hbr).at hy
        injection e with e
        subst e
        dsimp only at d0 d1
        rw [hT] at hS
        clear hy hT
        by_cases hn : n ≤ u
        · rw [if_pos hn] at hS
          have HS := Lib.hid hS
          clear hS
          go_wp2_with (go_at_call 24; refine (HJ.out _).mono ?_; rintro e w2 ⟨v2, rfl, hown2, hb2⟩)
          go_roundw
          case rel => exact ⟨k + 1, by omega, by go_num, by rw [HS.out]; exact hown2, hbr.trans hb2⟩
          case measure => simp [intOf]; omega
        · rw [if_neg hn] at hS
          have HS := Lib.hid hS
          clear hS
          go_wp2
          go_roundw
          case rel => exact ⟨k + 1, by omega, by go_num, by rw [HS.out]; exact HO.out, hbr⟩
          case measure => simp [intOf]; omega
    · have hkl : k = l.length := by omega
      subst hkl
      have hle := foldl_rstep_len (hiT n l l.length) []
      have hle2 := hiT_len n l l.length
      have hr := Lib.hid (RdP.of_own HO.out (by simp at hle; omega))
      have hd : ¬ ((l.length : Nat) : Int) < l.length := by omega
      clear HO
      go_wp2
      go_ret
      exact ⟨_, rfl, hr.out.more (Nat.le_refl _) (Nat.le_refl _), hbr⟩
end Go.Proofs.Ytbpjgipldddcfaa
