import Derived.Test.YtdhemhmgenhmaaaGreatSPdZm
import Derived.Laws.AppendOwnNone
import Derived.WalkKit
import Derived.WalkSpells
import Derived.WalkLawsBesides
import Derived.Deep.QuietTactic
import Derived.BigQuiet
import Derived.Handy
import Derived.Lib.Hide
import Derived.Test.YtdhemhmgenhmaaaGreatPB
import Derived.Test.YtdhemhmgenhmaaaGreatTB
set_option maxRecDepth 100000
set_option maxHeartbeats 25600000
set_option linter.unusedVariables false
set_option linter.unusedSimpArgs false
/-
  Rows of expressions to which one or many are appended. Conditions: lengths.
-/
namespace Go.Proofs.YtdhemhmgenhmaaaGreat
open Go.RowKit Go.Joins Go.Deep
theorem append_ex1 {ops : Array Oper} {rest : List Oper} {o : Oper} {a : Act} {Q : Exit → Act → World → Prop} (W : World) (hgd : o.guard = none) (s x : Operand)
  (ho : o.op = .call { callee := .builtin .append, args := #[s, x], argTypes := #[24, 24] }) (base : Nat) (v : Value) (l : List ExU) (hs : a.eval s = v)
  (hown : W.ownsRow base 26 7 v l.length (flatE l)) (g c : Nat) (p : ExU) (hp : ∃ A4 n4 c4, p.2 = .slice A4 n4 c4) (hx : a.eval x = .slice (some ⟨g, 0, none⟩) 1 c)
  (hnew : ∀ j u, (exL p)[j]? = some u → W.cell? ((⟨g, 0, none⟩ : Addr).add j) = some u) (hl : l.length ≤ 1099511627776) (hbase : base ≤ W.heap.size)
  (h : ∀ g' cap w', w'.ownsRow base 26 7 (.slice (some ⟨g', 0, none⟩) (l.length + 1) cap) (l ++ [p]).length (flatE (l ++ [p])) → W.grownBy w' v.ownBlock → (v.ownBlock = some g' ∨ g' = W.heap.size) → wpList Tryz.prog ops Q rest (a.put o.dst (.slice (some ⟨g', 0, none⟩) (l.length + 1) cap)) w') :
  wpList Tryz.prog ops Q (o :: rest) a W := by
 obtain ⟨i0, hi, hz0, hz1, hz2⟩ := info_partsB infoX
 obtain ⟨A4, n4, c4, hp⟩ := hp
 refine wpList_append_lies W hgd s x 24 ho base 26 i0 (.agg #[.int .i64 0, .int .i64 0, .int .i64 0, .int .i64 0, .string ⟨#[]⟩, .string ⟨#[]⟩, .slice none 0 0]) 7 88 Tryz.underlying24 hi hz0 hz1 hz2 rfl (by decide) v l.length (flatE l) hs hown ⟨g, 0, none⟩ 1 c (exL p) hx rfl hnew (fun u hu => ?_) (by decide) (by unfold maxLen; omega) (by omega) hbase W.heap.size rfl ?_
 ·simp only [exL, List.mem_cons, List.not_mem_nil, or_false, hp] at hu
  rcases hu with rfl | rfl | rfl | rfl | rfl | rfl | rfl <;> rfl
 ·intro g' cap w' h1 h2 h3 h4
  refine h g' cap w' ?_ h2 h3
  rw [flatE_append, List.length_append]
  show w'.ownsRow base _ 7 _ (l.length + 1) (flatE l ++ (exL p ++ []))
  rw [List.append_nil]
  exact h1
end Go.Proofs.YtdhemhmgenhmaaaGreat
namespace Go.Proofs.YtdhemhmgenhmaaaGreat
open Go.RowKit
theorem flat_takeX (f : Ex → List Ex) (es : List Ex) (k : Nat) (y : Ex) (h : es[k]? = some y) : (es.take (k + 1)).flatMap f = (es.take k).flatMap f ++ f y := by
 rw [List.take_add_one, h, List.flatMap_append]
 simp
theorem flat_dropX (f : Ex → List Ex) (es : List Ex) (k : Nat) : es.flatMap f = (es.take k).flatMap f ++ (es.drop k).flatMap f := by
 rw [← List.flatMap_append, List.take_append_drop]
theorem pVisP_any (F : Nat) (cs : Array Value) (R : List Ex → World → Prop) (w0 : World) (B L D : Nat) (T : List Ex) (hB : B ≤ w0.heap.size) (eg : ∀ args w, (callFunc F args).run Tryz.prog w = .ok (.enter F args) w)
  (hR : ∀ zs W, R zs W → Below B w0 W) (hS : ∀ zs W W', R zs W → Below W.heap.size W W' → R zs W')
  (hF : ∀ zs c u d W, d ≤ D → R zs W → (∃ t, T = zs ++ [c] ++ t) → RdE w0 L B d u c.args → Calls Tryz.prog F (#[exV c u] ++ cs) W fun e' w' => e' = .returned (.tuple #[]) ∧ R (zs ++ [c]) w') :
  ∀ (d : Nat), d ≤ D → ∀ (e : Ex) (u : Value) (zs : List Ex) (w : World), R zs w → RdE w0 L B d u e.args → (∃ t, T = zs ++ conjE d e ++ t) →
   Calls Tryz.prog 82 #[exV e u, .func (.func F) #[] cs] w fun e' w' => e' = .returned (.tuple #[]) ∧ R (zs ++ conjE d e) w'
 | 0, _, _, _, _, _, _, h, _ => h.elim
 | d + 1, hD, e, u, zs, w, hr, h, hT => by
  have IH := Lib.hid (pVisP_any F cs R w0 B L D T hB eg hR hS hF d (by omega))
  have hu := h
  obtain ⟨A, c, rfl, hl, hc⟩ := h
  obtain ⟨op, n, ⟨k1, k2, s⟩, nm, es⟩ := e
  dsimp only at hl hc hu ⊢
  have b1 := bel_mk w (.cells #[.int .i64 op, .int .i64 n, .int .i64 k1, .int .i64 k2, .string s, .string nm, .slice A es.length c] 26)
  have HR := Lib.hid hR
  have HS := Lib.hid hS
  have HC := Lib.hid hc
  have hs1 := hS _ _ _ hr b1
  have HR1 := Lib.hid hs1
  have HE1 := Lib.hid (Own.new w 26 #[.int .i64 op, .int .i64 n, .int .i64 k1, .int .i64 k2, .string s, .string nm, .slice A es.length c])
  have HB1 := Lib.hid b1
  by_cases hop : op = 5
  ·have HW := Lib.hid (fun W => pWfP_any ⟨op, n, (k1, k2, s), nm, es⟩ A c hl W)
   cases hwf : wfX ⟨op, n, (k1, k2, s), nm, es⟩
   ·have hcj := conjE_leaf d ⟨op, n, (k1, k2, s), nm, es⟩ (by rw [hwf]; simp)
    rw [hcj] at hT ⊢
    have HF := Lib.hid (fun W hW => hF zs ⟨op, n, (k1, k2, s), nm, es⟩ (.slice A es.length c) (d + 1) W hD hW hT hu)
    rw [hwf] at HW
    clear hs1 b1 hc hF hS hR hr hT hu IH HC hcj
    subst hop
    unfold exV at *
    dsimp only at *
    have e0 := HE1.out.cell 0
    have e1 := HE1.out.cell 1
    have e2 := HE1.out.cell 2
    have e3 := HE1.out.cell 3
    have e4 := HE1.out.cell 4
    have e5 := HE1.out.cell 5
    have e6 := HE1.out.cell 6
    go_enter Tryz.func82, Tryz.ntmps82
    go_wp2_with fail
    with_reducible refine (HW.out _).mono ?_
    rintro e' w2 ⟨rfl, hb2⟩
    have HR2 := Lib.hid (HS.out _ _ _ HR1.out hb2)
    have HE2 := Lib.hid (HE1.out.below hb2 HE1.out.lt)
    clear e0 e1 e2 e3 e4 e5 e6 HR1 HE1
    have e0 := HE2.out.cell 0
    have e1 := HE2.out.cell 1
    have e2 := HE2.out.cell 2
    have e3 := HE2.out.cell 3
    have e4 := HE2.out.cell 4
    have e5 := HE2.out.cell 5
    have e6 := HE2.out.cell 6
    have HF2 := Lib.hid (HF.out w2 HR2.out)
    clear HF
    go_wp2_with fail
    with_reducible refine HF2.out.mono ?_
    rintro e' w3 ⟨rfl, hr3⟩
    have HR3 := Lib.hid hr3
    clear hr3
    go_wp2
    refine bodyPost_ret (results_none rfl _ _ _) rfl ?_
    exact ⟨rfl, HR3.out⟩
   ·have hcj := conjE_and d ⟨op, n, (k1, k2, s), nm, es⟩ ⟨hop, hwf⟩
    rw [hcj] at hT ⊢
    subst hop
    obtain ⟨T2, hT⟩ := hT
    have HT := Lib.hid hT
    rw [hwf] at HW
    clear hs1 b1 hc hF hS hr hT hu hcj
    unfold exV at *
    dsimp only at *
    have e0 := HE1.out.cell 0
    have e1 := HE1.out.cell 1
    have e2 := HE1.out.cell 2
    have e3 := HE1.out.cell 3
    have e4 := HE1.out.cell 4
    have e5 := HE1.out.cell 5
    have e6 := HE1.out.cell 6
    go_enter Tryz.func82, Tryz.ntmps82
    go_wp2_with fail
    with_reducible refine (HW.out _).mono ?_
    rintro e' w2 ⟨rfl, hb2⟩
    have HR2 := Lib.hid (show R (zs ++ (es.take 0).flatMap (conjE d)) w2 from by have := HS.out _ _ _ HR1.out hb2; simpa using this)
    have HE2 := Lib.hid (HE1.out.below hb2 HE1.out.lt)
    clear e0 e1 e2 e3 e4 e5 e6 HR1 HE1 HW
    have e6 := HE2.out.cell 6
    go_wp2_with fail
    go_loopw [20] (fun i wr => ∃ k : Nat, k ≤ es.length ∧ i = .int .i64 k ∧ Hid (R (zs ++ (es.take k).flatMap (conjE d)) wr)) (fun i _ => es.length - (intOf i).toNat)
    case atStart => exact ⟨0, Nat.zero_le _, rfl, HR2⟩
    case round =>
     clear HR2 e6 HE2
     obtain ⟨k, hk, rfl, HQ⟩ := hrel
     by_cases hlt : k < es.length
     ·have hki : (k : Int) < es.length := by omega
      obtain ⟨ad, x, rfl, _, hab, hxc, hxr⟩ := HC.out k _ (List.getElem?_eq_getElem hlt)
      have htk := flat_takeX (conjE d) es k _ (List.getElem?_eq_getElem hlt)
      have hdk := flat_dropX (conjE d) es (k + 1)
      rw [htk] at hdk
      have hTk : ∃ t, T = (zs ++ (es.take k).flatMap (conjE d)) ++ conjE d es[k] ++ t := ⟨(es.drop (k + 1)).flatMap (conjE d) ++ T2, by rw [HT.out, hdk]; simp only [List.append_assoc]⟩
      generalize es[k] = y at *
      obtain ⟨A3, c3, rfl, hl3⟩ := hxr.slice
      obtain ⟨x0, x1, x2, x3, x4, x5, x6⟩ := hxc.below (HR.out _ _ HQ.out) (by rw [add_blk]; exact hab)
      have b2 := bel_mk wr (.cells (exA y (.slice A3 y.args.length c3)) 26)
      have hcall := IH.out y (.slice A3 y.args.length c3) (zs ++ (es.take k).flatMap (conjE d)) (wr.alloc (.cells (exA y (.slice A3 y.args.length c3)) 26)) (HS.out _ _ _ HQ.out b2) hxr hTk
      rw [List.append_assoc, ← htk] at hcall
      have HCL := Lib.hid hcall
      have HY := Lib.hid (Own.new wr 26 (exA y (.slice A3 y.args.length c3)))
      clear hxc hxr htk hdk hTk b2 HQ hcall
      unfold exV exA at *
      have y0 := HY.out.cell 0
      have y1 := HY.out.cell 1
      have y2 := HY.out.cell 2
      have y3 := HY.out.cell 3
      have y4 := HY.out.cell 4
      have y5 := HY.out.cell 5
      have y6 := HY.out.cell 6
      go_wp2_with fail
      with_reducible refine HCL.out.mono ?_
      rintro e' w4 ⟨rfl, hr4⟩
      have HR4 := Lib.hid hr4
      clear hr4 y0 y1 y2 y3 y4 y5 y6 HCL HY
      go_wp2
      go_roundw
      case rel => exact ⟨k + 1, by omega, by go_num, HR4⟩
      case measure => simp [intOf]; omega
     ·have hki : ¬ (k : Int) < es.length := by omega
      have HF := Lib.hid (show R (zs ++ es.flatMap (conjE d)) wr from by
       have := HQ.out
       rwa [List.take_of_length_le (by omega)] at this)
      clear HQ
      go_wp2
      go_end0
      exact ⟨rfl, HF.out⟩
  ·have hcj := conjE_leaf d ⟨op, n, (k1, k2, s), nm, es⟩ (fun h => hop h.1)
   rw [hcj] at hT ⊢
   have HF := Lib.hid (hF zs ⟨op, n, (k1, k2, s), nm, es⟩ (.slice A es.length c) (d + 1) _ hD hs1 hT hu)
   have hop2 : (op == 5) = false := by rw [beq_eq_false_iff_ne]; exact hop
   clear hs1 b1 hc hF hS hR hr hT hu IH HC HR HS hcj HR1
   unfold exV at *
   dsimp only at *
   have e0 := HE1.out.cell 0
   have e1 := HE1.out.cell 1
   have e2 := HE1.out.cell 2
   have e3 := HE1.out.cell 3
   have e4 := HE1.out.cell 4
   have e5 := HE1.out.cell 5
   have e6 := HE1.out.cell 6
   go_enter Tryz.func82, Tryz.ntmps82
   go_wp2_with fail
   with_reducible refine HF.out.mono ?_
   rintro e' w3 ⟨rfl, hr3⟩
   have HR3 := Lib.hid hr3
   clear hr3
   go_wp2
   refine bodyPost_ret (results_none rfl _ _ _) rfl ?_
   exact ⟨rfl, HR3.out⟩
theorem sbX_nil : ∀ (d : Nat) (e : Ex), sbX [] d e = e
 | 0, _ => rfl
 | d + 1, e => by
  unfold sbX
  rw [if_neg (by rintro ⟨_, _, h⟩; unfold idxB at h; simp at h; omega), show e.args.map (sbX [] d) = e.args from (List.map_congr_left fun a _ => sbX_nil d a).trans (List.map_id _)]
  cases e
  rfl
theorem pClo_any (d : Nat) (e : Ex) (u : Value) (w : World) (L : Nat) (h : RdE w L w.heap.size d u e.args) : Calls Tryz.prog 84 #[exV e u] w (RetX w (d + 1) e) := by
 obtain ⟨A, c, rfl, _⟩ := h.slice
 have HC0 := Lib.hid (fun (W : World) (hb : Below w.heap.size w W) => show Calls Tryz.prog 114 #[exV e (.slice A e.args.length c), .slice none 0 0] W (RetX W (d + 1) e) from by
  have h2 := pSubst_any (.slice none 0 0) [] 1 d e (.slice A e.args.length c) W L 0 (h.step hb (Nat.le_refl _)) ⟨none, 0, rfl, by simp, by simp⟩
  rwa [sbX_nil] at h2)
 clear h
 obtain ⟨op, n, ⟨k1, k2, s⟩, nm, es⟩ := e
 unfold exV at *
 dsimp only at *
 have HO1 := Lib.hid (show Own ((w.alloc (.cells #[.int .i64 op, .int .i64 n, .int .i64 k1, .int .i64 k2, .string s, .string nm, .slice A es.length c] 26)).alloc (.cells #[.int .i64 0, .int .i64 0, .int .i64 0, .int .i64 0, .string ⟨#[]⟩, .string ⟨#[]⟩, .slice none 0 0] 26)) (w.heap.size + 1) 26 #[.int .i64 0, .int .i64 0, .int .i64 0, .int .i64 0, .string ⟨#[]⟩, .string ⟨#[]⟩, .slice none 0 0] from Va.own_two _)
 have HB1 := Lib.hid (show Below w.heap.size w ((w.alloc (.cells #[.int .i64 op, .int .i64 n, .int .i64 k1, .int .i64 k2, .string s, .string nm, .slice A es.length c] 26)).alloc (.cells #[.int .i64 0, .int .i64 0, .int .i64 0, .int .i64 0, .string ⟨#[]⟩, .string ⟨#[]⟩, .slice none 0 0] 26)) from (bel_mk w _).trans ((bel_mk _ _).mono (by simp)))
 have HC := Lib.hid (HC0.out _ HB1.out)
 go_enter Tryz.func84, Tryz.ntmps84
 go_wp2_with fail
 with_reducible refine HC.out.mono ?_
 rintro e w3 ⟨u3, rfl, hr3, hb3⟩
 have HO3 := Lib.hid (HO1.out.below hb3 HO1.out.lt)
 have HB3 := Lib.hid (HB1.out.trans (hb3.mono HB1.out.size))
 have HT := Lib.hid (hr3.more (Nat.le_refl _) (show w.heap.size + 2 ≤ _ from HO1.out.lt))
 generalize hrr : (⟨op, n, (k1, k2, s), nm, es⟩ : Ex) = r at *
 obtain ⟨r0, r1, ⟨r2, r3, r4⟩, r5, r6⟩ := r
 obtain ⟨A4, c4, rfl, hl4⟩ := hr3.slice
 unfold exV
 dsimp only
 have o0 := HO3.out.cell 0
 have o1 := HO3.out.cell 1
 have o2 := HO3.out.cell 2
 have o3 := HO3.out.cell 3
 have o4 := HO3.out.cell 4
 have o5 := HO3.out.cell 5
 have o6 := HO3.out.cell 6
 have m0 := HO3.out.free 0
 have m1 := HO3.out.free 1
 have m2 := HO3.out.free 2
 have m3 := HO3.out.free 3
 have m4 := HO3.out.free 4
 have m5 := HO3.out.free 5
 have m6 := HO3.out.free 6
 have HX := Lib.hid (((((((HO3.out.store 0 (.int .i64 r0)).store 1 (.int .i64 r1)).store 2 (.int .i64 r2)).store 3 (.int .i64 r3)).store 4 (.string r4)).store 5 (.string r5)).store 6 (.slice A4 r6.length c4))
 clear hr3 hb3 hrr
 go_wp2
 (try simp only [Exit.inBlock, Exit.then]); refine bodyPost_ret_by (results_cell_row1 (by rfl) _ _ (w.heap.size + 1) _ (by rfl) (load_ex HX.out)) ?_ ?_; (focus rfl); refine ⟨_, rfl, ?_, ?_⟩
 ·simp only [World.size_setCell]
  refine RdE.more (Nat.le_refl _) (show w.heap.size ≤ w.heap.size + 2 by omega) ?_
  exact (((((((HT.out).far (by show w.heap.size + 1 < _; omega)).far (by show w.heap.size + 1 < _; omega)).far (by show w.heap.size + 1 < _; omega)).far (by show w.heap.size + 1 < _; omega)).far (by show w.heap.size + 1 < _; omega)).far (by show w.heap.size + 1 < _; omega)).far (by show w.heap.size + 1 < _; omega)
 ·exact (((((((HB3.out).setCell (Nat.le_succ _) _).setCell (Nat.le_succ _) _).setCell (Nat.le_succ _) _).setCell (Nat.le_succ _) _).setCell (Nat.le_succ _) _).setCell (Nat.le_succ _) _).setCell (Nat.le_succ _) _
end Go.Proofs.YtdhemhmgenhmaaaGreat
