import Derived.Test.YteihjneeiojgaaaPA
import Derived.Test.YteihjneeiojgaaaQJb
import Derived.WalkKit
import Derived.WalkSpells
import Derived.WalkLawsBesides
import Derived.Deep.QuietTactic
import Derived.BigQuiet
import Derived.Handy
import Derived.Lib.Hide
/-
  Comparison of expressions, by the reference; its Depth. Conditions: lengths, a bounded depth.
-/
namespace Go.Proofs.Yteihjneeiojgaaa
set_option maxRecDepth 100000
set_option linter.unusedVariables false
set_option linter.unusedSimpArgs false
open Go.RowKit

theorem exc_after {W : World} {p : Addr} {e : Ex} {u : Value} (h : ExC W p e u) (hp : p.block < W.heap.size) :
    (∀ r : After W, r.w.cell? p = some (.int .i64 e.op)) ∧ (∀ r : After W, r.w.cell? ⟨p.block, p.off + 1, none⟩ = some (.int .i64 e.n)) ∧ (∀ r : After W, r.w.cell? ⟨p.block, p.off + 2, none⟩ = some (.int .i64 e.v.1)) ∧ (∀ r : After W, r.w.cell? ⟨p.block, p.off + 3, none⟩ = some (.int .i64 e.v.2.1)) ∧
    (∀ r : After W, r.w.cell? ⟨p.block, p.off + 4, none⟩ = some (.string e.v.2.2)) ∧ (∀ r : After W, r.w.cell? ⟨p.block, p.off + 5, none⟩ = some (.string e.nm)) ∧ (∀ r : After W, r.w.cell? ⟨p.block, p.off + 6, none⟩ = some u) := by
  obtain ⟨h0, h1, h2, h3, h4, h5, h6⟩ := h
  exact ⟨after_cell hp h0, after_cell (a := ⟨p.block, p.off + 1, none⟩) hp h1, after_cell (a := ⟨p.block, p.off + 2, none⟩) hp h2, after_cell (a := ⟨p.block, p.off + 3, none⟩) hp h3, after_cell (a := ⟨p.block, p.off + 4, none⟩) hp h4, after_cell (a := ⟨p.block, p.off + 5, none⟩) hp h5, after_cell (a := ⟨p.block, p.off + 6, none⟩) hp h6⟩
set_option maxRecDepth 100000 in
set_option maxHeartbeats 12800000 in
theorem rSame_any : ∀ (d : Nat) (a b : Ex) (A A2 : Option Addr) (c c2 : Nat) (w : World) (L L2 : Nat), RdE w L w.heap.size d (.slice A a.args.length c) a.args → RdE w L2 w.heap.size d (.slice A2 b.args.length c2) b.args →
    Calls Try.prog 38 #[exV a (.slice A a.args.length c), exV b (.slice A2 b.args.length c2)] w fun e' w' => e' = .returned (.bool (sameE d a b)) ∧ Below w.heap.size w w'
  | 0, _, _, _, _, _, _, _, _, _, h, _ => h.elim
  | d + 1, a, b, A, A2, c, c2, w, L, L2, ha, hb => by
    have HI := Lib.hid (rSame_any d)
    obtain ⟨op, n, ⟨k1, k2, s⟩, nm, es⟩ := a
    obtain ⟨op2, n2, ⟨j1, j2, s2⟩, nm2, fs⟩ := b
    unfold sameE sameF exV
    dsimp only at ha hb ⊢
    obtain ⟨A', c', hv, hl, hc⟩ := ha
    injection hv with e1 e2 e3
    subst e1 e3
    clear e2
    obtain ⟨A'', c'', hv, hl2, hc2⟩ := hb
    injection hv with e1 e2 e3
    subst e1 e3
    clear e2
    have HC := Lib.hid hc
    have HC2 := Lib.hid hc2
    have b1 := bel_mk w (.cells #[.int .i64 op, .int .i64 n, .int .i64 k1, .int .i64 k2, .string s, .string nm, .slice A es.length c] 65)
    have b2 := bel_mk (w.alloc (.cells #[.int .i64 op, .int .i64 n, .int .i64 k1, .int .i64 k2, .string s, .string nm, .slice A es.length c] 65)) (.cells #[.int .i64 op2, .int .i64 n2, .int .i64 j1, .int .i64 j2, .string s2, .string nm2, .slice A2 fs.length c2] 65)
    have HB := Lib.hid (b1.trans (b2.mono b1.size))
    have q := fun W => Va.neq_val k1 k2 s j1 j2 s2 W
    have oa := (Own.new w 65 #[.int .i64 op, .int .i64 n, .int .i64 k1, .int .i64 k2, .string s, .string nm, .slice A es.length c]).alloc (.cells #[.int .i64 op2, .int .i64 n2, .int .i64 j1, .int .i64 j2, .string s2, .string nm2, .slice A2 fs.length c2] 65)
    have ob : Own ((w.alloc (.cells #[.int .i64 op, .int .i64 n, .int .i64 k1, .int .i64 k2, .string s, .string nm, .slice A es.length c] 65)).alloc (.cells #[.int .i64 op2, .int .i64 n2, .int .i64 j1, .int .i64 j2, .string s2, .string nm2, .slice A2 fs.length c2] 65)) (w.heap.size + 1) 65 #[.int .i64 op2, .int .i64 n2, .int .i64 j1, .int .i64 j2, .string s2, .string nm2, .slice A2 fs.length c2] := Va.own_two _
    have HOA := Lib.hid oa
    have HOB := Lib.hid ob
    have x0 := oa.cell 0
    have x1 := oa.cell 1
    have x2 := oa.cell 2
    have x3 := oa.cell 3
    have x4 := oa.cell 4
    have x5 := oa.cell 5
    have x6 := oa.cell 6
    clear b1 b2 oa ob hc hc2
    generalize hS : sameL (sameE d) es fs = S at *
    have HS := Lib.hid hS
    clear hS
    generalize Va.eqV k1 k2 s j1 j2 s2 = V at *
    cases h1 : (op == op2)
    · have g1 : (op != op2) = true := by simp only [bne, h1]; rfl
      clear h1
      go_enter Try.func38, Try.ntmps38
      go_wp2
      go_ret
      refine ⟨rfl, ?_⟩
      (repeat' (first | (with_reducible exact Below.refl _ _) | (with_reducible assumption) | (with_reducible refine Below.alloc ?_ ?_ _) | (with_reducible refine Below.drew ?_) | (with_reducible refine Below.setCell ?_ ?_ _) | (with_reducible refine Below.trans ?_ (Below.mono (by assumption) ?_)) | go_size))
    obtain rfl : op = op2 := by simpa using h1
    clear h1
    have g1 : (op != op) = false := by simp
    cases h2 : (n == n2)
    · have g2 : (n != n2) = true := by simp only [bne, h2]; rfl
      clear h2
      go_enter Try.func38, Try.ntmps38
      go_wp2
      go_ret
      refine ⟨rfl, ?_⟩
      (repeat' (first | (with_reducible exact Below.refl _ _) | (with_reducible assumption) | (with_reducible refine Below.alloc ?_ ?_ _) | (with_reducible refine Below.drew ?_) | (with_reducible refine Below.setCell ?_ ?_ _) | (with_reducible refine Below.trans ?_ (Below.mono (by assumption) ?_)) | go_size))
    obtain rfl : n = n2 := by simpa using h2
    clear h2
    have g2 : (n != n) = false := by simp
    cases V
    · go_enter Try.func38, Try.ntmps38
      go_wp2
      go_ret
      refine ⟨rfl, ?_⟩
      (repeat' (first | (with_reducible exact Below.refl _ _) | (with_reducible assumption) | (with_reducible refine Below.alloc ?_ ?_ _) | (with_reducible refine Below.drew ?_) | (with_reducible refine Below.setCell ?_ ?_ _) | (with_reducible refine Below.trans ?_ (Below.mono (by assumption) ?_)) | go_size))
    cases h4 : (nm.toList == nm2.toList)
    · go_enter Try.func38, Try.ntmps38
      go_wp2
      go_ret
      refine ⟨rfl, ?_⟩
      (repeat' (first | (with_reducible exact Below.refl _ _) | (with_reducible assumption) | (with_reducible refine Below.alloc ?_ ?_ _) | (with_reducible refine Below.drew ?_) | (with_reducible refine Below.setCell ?_ ?_ _) | (with_reducible refine Below.trans ?_ (Below.mono (by assumption) ?_)) | go_size))
    by_cases hln : es.length = fs.length
    rotate_left
    · have hS0 : S = false := by rw [← HS.out]; exact sameL_len _ _ _ hln
      subst hS0
      have hne : ¬ (es.length : Int) = fs.length := by omega
      go_enter Try.func38, Try.ntmps38
      go_wp2
      go_ret
      refine ⟨rfl, ?_⟩
      (repeat' (first | (with_reducible exact Below.refl _ _) | (with_reducible assumption) | (with_reducible refine Below.alloc ?_ ?_ _) | (with_reducible refine Below.drew ?_) | (with_reducible refine Below.setCell ?_ ?_ _) | (with_reducible refine Below.trans ?_ (Below.mono (by assumption) ?_)) | go_size))
    have hne : (es.length : Int) = fs.length := by omega
    have HLN := Lib.hid hln
    clear hln
    go_enter Try.func38, Try.ntmps38
    go_wp2
    clear hne x0 x1 x2 x3 x4 x5 x6 q g1 g2 h4
    go_loopw [5] (fun i wr => ∃ k : Nat, k ≤ es.length ∧ i = .int .i64 k ∧ Hid (S = sameL (sameE d) (es.drop k) (fs.drop k)) ∧ Hid (Own wr w.heap.size 65 #[.int .i64 op, .int .i64 n, .int .i64 k1, .int .i64 k2, .string s, .string nm, .slice A es.length c]) ∧ Hid (Own wr (w.heap.size + 1) 65 #[.int .i64 op, .int .i64 n, .int .i64 j1, .int .i64 j2, .string s2, .string nm2, .slice A2 fs.length c2]) ∧ Below w.heap.size w wr) (fun i _ => es.length - (intOf i).toNat)
    case atStart => exact ⟨0, Nat.zero_le _, rfl, Lib.hid HS.out.symm, HOA, HOB, HB.out⟩
    case round =>
      clear HS HOA HOB HB
      obtain ⟨k, hk, rfl, HR, HOA, HOB, hbr⟩ := hrel
      have hbz := hbr.size
      have z6 := HOA.out.cell 6
      by_cases hlt : k < es.length
      · have hki : (k : Int) < es.length := by omega
        have hlt2 : k < fs.length := by have := HLN.out; omega
        have hki2 : (k : Int) < fs.length := by omega
        obtain ⟨ad, x, rfl, _, hab, hxc, hxr⟩ := HC.out k _ (List.getElem?_eq_getElem hlt)
        obtain ⟨A3, c3, rfl, hl3⟩ := hxr.slice
        obtain ⟨ad2, x2, rfl, _, hab2, hxc2, hxr2⟩ := HC2.out k _ (List.getElem?_eq_getElem hlt2)
        obtain ⟨A4, c4, rfl, hl4⟩ := hxr2.slice
        have hx := exc_after (hxc.below hbr (by rw [add_blk]; exact hab)) (by rw [add_blk]; omega)
        have hx2 := exc_after (hxc2.below hbr (by rw [add_blk]; exact hab2)) (by rw [add_blk]; omega)
        have hsd := sameL_drop (sameE d) es fs k _ _ (List.getElem?_eq_getElem hlt) (List.getElem?_eq_getElem hlt2)
        rw [← HR.out] at hsd
        have HSD := Lib.hid hsd
        clear hxc hxc2 hsd HR
        generalize es[k] = y at *
        generalize fs[k] = z at *
        have RY := (hxr.below hbr).more hbz (Nat.le_refl _)
        have RZ := (hxr2.below hbr).more hbz (Nat.le_refl _)
        have HX := Lib.hid (fun r : After wr => HI.out y z A3 A4 c3 c4 r.w L L2 (RY.step r.h (Nat.le_refl _)) (RZ.step r.h (Nat.le_refl _)))
        unfold exV at HX
        obtain ⟨d0, d1, d2, d3, d4, d5, d6⟩ := hx
        obtain ⟨f0, f1, f2, f3, f4, f5, f6⟩ := hx2
        have qa : ∀ r : After wr, r.w.cell? ⟨w.heap.size, 6, none⟩ = some (.slice (some ad) es.length c) := after_cell HOA.out.lt (HOA.out.cell 6)
        have qb : ∀ r : After wr, r.w.cell? ⟨w.heap.size + 1, 6, none⟩ = some (.slice (some ad2) fs.length c2) := after_cell HOB.out.lt (HOB.out.cell 6)
        clear RY RZ hxr hxr2
        cases hb : sameE d y z
        · rw [hb] at HX HSD
          have HF := Lib.hid (show S = false by rw [HSD.out]; rfl)
          clear HSD hb
          go_wp2_with fail
          (refine wp_region_after (by kernel_rfl) (by kernel_rfl) ?_; (repeat (go_big_quiet_step ((go_at_call 38; exact calls_after (HX.out _))))); refine wpQuiet_nil ?_; intro wq hw0; obtain ⟨⟨wq0, hbq⟩, hw1⟩ := hw0; subst hw1; (try dsimp only))
          go_wp2
          go_ret
          exact ⟨by rw [HF.out]; rfl, hbr.trans (hbq.mono hbz)⟩
        · rw [hb] at HX HSD
          have HF := Lib.hid (show S = sameL (sameE d) (es.drop (k + 1)) (fs.drop (k + 1)) by rw [HSD.out, Bool.true_and])
          clear HSD hb
          go_wp2_with fail
          (refine wp_region_after (by kernel_rfl) (by kernel_rfl) ?_; (repeat (go_big_quiet_step ((go_at_call 38; exact calls_after (HX.out _))))); refine wpQuiet_nil ?_; intro wq hw0; obtain ⟨⟨wq0, hbq⟩, hw1⟩ := hw0; subst hw1; (try dsimp only))
          have HA2 := Lib.hid (HOA.out.below hbq HOA.out.lt)
          have HB2 := Lib.hid (HOB.out.below hbq HOB.out.lt)
          have B3 := hbr.trans (hbq.mono hbz)
          clear HX d0 d1 d2 d3 d4 d5 d6 f0 f1 f2 f3 f4 f5 f6 qa qb z6
          go_wp2
          go_round
          case rel => exact ⟨k + 1, by omega, by go_num, HF, HA2, HB2, B3⟩
          case measure => simp [intOf]; omega
      · have hki : ¬ (k : Int) < es.length := by omega
        have HF := Lib.hid (show S = true by rw [HR.out, List.drop_eq_nil_of_le (by omega), List.drop_eq_nil_of_le (by have := HLN.out; omega)]; rfl)
        clear HR
        go_wp2
        go_ret
        exact ⟨by rw [HF.out]; rfl, hbr⟩
end Go.Proofs.Yteihjneeiojgaaa
