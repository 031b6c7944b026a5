import Derived.Test.YtpiadcfejbnonaaCM
import Derived.Test.YtpiadcfejbnonaaCH
import Derived.StillTailTactics
import Derived.WalkKit
import Derived.WalkSpells
import Derived.WalkLawsBesides
import Derived.Deep.QuietTactic
import Derived.BigQuiet
import Derived.Handy
import Derived.Lib.Hide
/-
  The walk of the statement ExprColumns. Conditions: a bounded depth; lengths.
-/
namespace Go.Proofs.Ytpiadcfejbnonaa
set_option linter.unusedVariables false
set_option linter.unusedSimpArgs false
set_option maxRecDepth 100000
open Go.RowKit

def mxR (row other : List Vl) (k : Nat) : List Vl := other ++ (row.take k).drop other.length
theorem mxR_zero (row other : List Vl) : mxR row other 0 = other := by simp [mxR]
theorem mxR_old (row other : List Vl) (k : Nat) (h : k < other.length) : mxR row other (k + 1) = mxR row other k := by
  unfold mxR
  rw [List.drop_of_length_le (by rw [List.length_take]; omega), List.drop_of_length_le (by rw [List.length_take]; omega)]
theorem mxR_new (row other : List Vl) (k : Nat) (p : Vl) (hk : row[k]? = some p) (h : other.length ≤ k) : mxR row other (k + 1) = mxR row other k ++ [p] := by
  unfold mxR
  have hkl := (List.getElem?_eq_some_iff.1 hk).1
  rw [List.take_add_one, hk, List.drop_append_of_le_length (by rw [List.length_take]; omega), List.append_assoc]
  rfl
theorem mxR_len (row other : List Vl) (k : Nat) (h : k ≤ row.length) : (mxR row other k).length = other.length + (k - other.length) := by
  unfold mxR
  rw [List.length_append, List.length_drop, List.length_take]
  omega
theorem ownV_shape {w : World} {base n : Nat} {v : Value} {xs : List Value} (h : w.ownsRow base 23 3 v n xs) : ∃ Av cv, v = .slice Av n cv := by
  rcases h.2 with ⟨rfl, rfl⟩ | ⟨g, cap, cur, rfl, _⟩
  · exact ⟨_, _, rfl⟩
  · exact ⟨_, _, rfl⟩
def Smalls (before : List Vl) (zs : List Int) (k : Nat) (b : Bool) : Prop := b = true → before.length ≤ 1000 ∧ ∀ c ∈ zs.take k, 0 ≤ c ∧ c < 1048576
theorem smalls_no (before : List Vl) (zs : List Int) (k : Nat) : Smalls before zs k false := fun h => by cases h
theorem smalls_step {before : List Vl} {zs : List Int} {k : Nat} {q : Int} {b : Bool} (h : Smalls before zs k true) (hq : zs[k]? = some q) (hb : b = true → 0 ≤ q ∧ q < 1048576) : Smalls before zs (k + 1) b := fun e => by
  obtain ⟨h1, h2⟩ := h rfl
  refine ⟨h1, fun c hc => ?_⟩
  rw [List.take_add_one, hq, List.mem_append] at hc
  rcases hc with hc | hc
  · exact h2 c hc
  · have : c = q := by simpa using hc
    subst this
    exact hb e
theorem fold_step (row m : List Vl) (zs : List Int) (k : Nat) (q : Int) (h : zs[k]? = some q) : (zs.take (k + 1)).foldl (mixU row) m = mixU row ((zs.take k).foldl (mixU row) m) q := by
  rw [List.take_add_one, h, List.foldl_append]
  rfl
def rowFc (l : List Vl) : Fact := ⟨fun v W => RdV W 0 W.heap.size v l, fun _ _ _ h hb => h.step hb (Nat.le_refl _)⟩
theorem eval_isE {d : Nat} {r : Ex} {x y : Value} {V : World} {l : List Vl} (hx : IsE d r x V) (hy : RdV V 0 V.heap.size y l) : Calls Try.prog 12 #[x, y] V fun e' w' => e' = .returned (valV (evE l d r)) ∧ Below V.heap.size V w' := by
  obtain ⟨A, c, rfl, h1⟩ := hx
  exact pEval_any y l d r A c V 0 0 h1 hy
theorem own_facts {w : World} {base g n cap j : Nat} {m : List Vl} (h : w.ownsRow base 23 3 (.slice (some ⟨g, 0, none⟩) n cap) n (flatV m)) (hj : j < m.length) :
    w.cell? ⟨g, j * 3, none⟩ = some (.int .i64 m[j].1) ∧ w.cell? ⟨g, j * 3 + 1, none⟩ = some (.int .i64 m[j].2.1) ∧ w.cell? ⟨g, j * 3 + 2, none⟩ = some (.string m[j].2.2) ∧
    w.frozen? ⟨g, j * 3, none⟩ = false ∧ w.frozen? ⟨g, j * 3 + 1, none⟩ = false ∧ w.frozen? ⟨g, j * 3 + 2, none⟩ = false := by
  obtain ⟨y0, y1, y2⟩ := flatV_get m j _ (List.getElem?_eq_getElem hj)
  rcases own_get h with ⟨hv, _⟩ | ⟨g2, cc, hv, _, _, _, hcells⟩
  · injection hv with e1; cases e1
  · injection hv with e1 e2 e3
    injection e1 with e1
    injection e1 with e1
    subst e1
    exact ⟨hcells _ _ y0, hcells _ _ y1, hcells _ _ y2, World.ownsRow.frozenAt h _, World.ownsRow.frozenAt h _, World.ownsRow.frozenAt h _⟩
theorem mixU_in (row m : List Vl) (j : Nat) (h : j < row.length) : mixU row m (j : Int) = m.set j row[j] := by
  unfold mixU
  rw [if_pos ⟨by omega, by omega⟩, Int.toNat_natCast]
  simp [List.getD, List.getElem?_eq_getElem h]
theorem mixU_null (row m : List Vl) (j : Nat) (h : ¬ j < row.length) (h2 : j < m.length) : mixU row m (j : Int) = m.set j nullP := by
  unfold mixU
  rw [if_neg (by omega), if_pos ⟨by omega, by omega⟩, Int.toNat_natCast]
theorem mixU_out (row m : List Vl) (c : Int) (h : ¬ (0 ≤ c ∧ c < row.length)) (h2 : ¬ (0 ≤ c ∧ c < m.length)) : mixU row m c = m := by
  unfold mixU
  rw [if_neg h, if_neg h2]
set_option maxRecDepth 100000 in
set_option maxHeartbeats 12800000 in
theorem law_columns (D : Nat) (e : Ex) (A : Option Addr) (c : Nat) (vr vo vb : Value) (row other before : List Vl) (w : World) (h : RdE w 0 w.heap.size D (.slice A e.args.length c) e.args)
    (hr : RdV w 0 w.heap.size vr row) (ho : RdV w 0 w.heap.size vo other) (hb : RdV w 0 w.heap.size vb before) (nr : NilV vr) (no : NilV vo) (nb : NilV vb)
    (lr : row.length ≤ 1048576) (lo : other.length ≤ 1048576) (lb : before.length ≤ 1048576) (hcol : (colE D e).length ≤ 1099511627775) :
    Calls Try.prog 8 #[exV e (.slice A e.args.length c), vr, vo, vb] w fun e' w' => e' = .returned (.bool true) ∧ Below w.heap.size w w' := by
  have b1 := bel_mk w (.cells (exA e (.slice A e.args.length c)) 26)
  have oa := Own.new w 26 (exA e (.slice A e.args.length c))
  obtain ⟨x0, x1, x2, x3, x4, x5, x6⟩ := ex_cells oa.lt oa
  have RA := h.step b1 (Nat.le_refl _)
  have RR := hr.step b1 (Nat.le_refl _)
  have RO := ho.step b1 (Nat.le_refl _)
  have RB := hb.step b1 (Nat.le_refl _)
  have HB := Lib.hid b1
  have HBS := Lib.hid b1.size
  clear b1 oa h hr ho hb
  generalize hWW : w.alloc (.cells (exA e (.slice A e.args.length c)) 26) = W at *
  obtain ⟨Ar, cr, rfl, _, hcr⟩ := id RR
  obtain ⟨Ao, co, rfl, _, _⟩ := id RO
  obtain ⟨Ab, cb, rfl, _, _⟩ := id RB
  have H1 := Lib.hid (pColumns_any D e (.slice A e.args.length c) W 0 RA (by omega))
  have HLZ := Lib.hid (Nat.le_trans (colS_len (colE D e)) hcol)
  have HEV := Lib.hid (fun (V : World) (m : List Vl) (vm : Value) (hb : Below W.heap.size W V) (hm : RdV V 0 V.heap.size vm m) => pEval_any vm m D e A c V 0 0 (RA.step hb (Nat.le_refl _)) hm)
  have HSH := Lib.hid (fun V (hb : Below W.heap.size W V) => gives_ret (pShift_any (before.length : Nat) D e (.slice A e.args.length c) V 0 (RA.step hb (Nat.le_refl _))))
  have HMX := Lib.hid (fun (m : List Vl) (hl : row.length ≤ m.length) => ev_mixed row m D e hl)
  have HSX := Lib.hid (fun (hb : before.length ≤ 1000) (hs : ∀ c ∈ colS (colE D e), 0 ≤ c ∧ c < 1048576) => ev_shifted before row D e hb hs)
  generalize colS (colE D e) = zs at *
  have HK := Lib.hid (show ∀ V, Below W.heap.size W V → V.cell? ⟨w.heap.size, 0, none⟩ = some (.int .i64 e.op) ∧ V.cell? ⟨w.heap.size, 1, none⟩ = some (.int .i64 e.n) ∧ V.cell? ⟨w.heap.size, 2, none⟩ = some (.int .i64 e.v.1) ∧ V.cell? ⟨w.heap.size, 3, none⟩ = some (.int .i64 e.v.2.1) ∧ V.cell? ⟨w.heap.size, 4, none⟩ = some (.string e.v.2.2) ∧ V.cell? ⟨w.heap.size, 5, none⟩ = some (.string e.nm) ∧ V.cell? ⟨w.heap.size, 6, none⟩ = some (.slice A e.args.length c) from fun V hb => ⟨x0 ⟨V, hb⟩, x1 ⟨V, hb⟩, x2 ⟨V, hb⟩, x3 ⟨V, hb⟩, x4 ⟨V, hb⟩, x5 ⟨V, hb⟩, x6 ⟨V, hb⟩⟩)
  have HRR := Lib.hid RR
  have HNU := Lib.hid (show ∀ W, Calls Try.prog 28 #[] W fun e w' => e = .returned (.agg #[.int .i64 0, .int .i64 0, .string ⟨#[]⟩]) ∧ Below W.heap.size W w' from fun W => Va.rNull_any W)
  have HRO := Lib.hid RO
  have HRB := Lib.hid RB
  have HCR := Lib.hid hcr
  have NR := Lib.hid nr
  have NO := Lib.hid no
  have NB := Lib.hid nb
  have LR := Lib.hid lr
  have LO := Lib.hid lo
  have LB := Lib.hid lb
  clear RA RR RO RB hcr nr no nb lr lo lb hcol x0 x1 x2 x3 x4 x5 x6
  obtain ⟨x0, x1, x2, x3, x4, x5, x6⟩ := HK.out W (Below.refl _ _)
  unfold exA exV at *
  go_enter Try.func8, Try.ntmps8
  go_wp2_with fail
  with_reducible refine H1.out.mono ?_
  rintro e' w1 ⟨v1, rfl, hr1, hb1⟩
  obtain ⟨A1, c1, rfl, _, hc1⟩ := hr1
  have HC1 := Lib.hid hc1
  have HB1 := Lib.hid hb1
  have HW := Lib.hid (emptyV w1)
  have HBa := Lib.hid (bel_mk w1 (.cells #[] 23))
  have HO1 := Lib.hid ((HRO.out.below hb1).below (HBa.out.mono hb1.size))
  clear hc1 hb1 H1 x0 x1 x2 x3 x4 x5 x6
  go_wp2_with (at_builtin; refine append_rowV _ rfl _ _ rfl w1.heap.size _ [] rfl HW.out _ other 0 W.heap.size rfl HO1.out NO.out (by have := LO.out; simp only [List.length_nil]; omega) HBa.out.size ?_; intro v2 w2 hr2 hb2; have HR2 := Lib.hid hr2; have HB2 := Lib.hid (HBa.out.trans hb2); clear hr2 hb2)
  go_loopw [10, 11, 21] (fun vm _ j wr => ∃ k : Nat, k ≤ row.length ∧ j = .int .i64 k ∧ Hid (wr.ownsRow w1.heap.size 23 3 vm (mxR row other k).length (flatV (mxR row other k))) ∧ Below w1.heap.size w1 wr) (fun _ _ j _ => row.length - (intOf j).toNat)
  case atStart => exact ⟨0, Nat.zero_le _, rfl, Lib.hid (by rw [mxR_zero]; exact HR2.out), HB2.out⟩
  case round =>
    clear HR2 HB2 HW HBa HO1
    obtain ⟨k, hk, rfl, HR, hbr⟩ := hrel
    have hbz := hbr.size
    obtain ⟨Av, cv, rfl⟩ := ownV_shape HR.out
    have hlm := mxR_len row other k hk
    by_cases hlt : k < row.length
    · have hki : (k : Int) < row.length := by omega
      by_cases hge : other.length ≤ k
      · have hgi : ((mxR row other k).length : Int) ≤ (k : Int) := by omega
        obtain ⟨ad, rfl, _, hab, a0, a1, a2⟩ := HCR.out k _ (List.getElem?_eq_getElem hlt)
        have hnew := mxR_new row other k _ (List.getElem?_eq_getElem hlt) hge
        generalize row[k] = p at *
        obtain ⟨p1, p2, p3⟩ := p
        dsimp only at a0 a1 a2
        have HBW := HB1.out.trans (hbr.mono HB1.out.size)
        have f0 := (HBW.cell (p := ad.add (k * 3)) (by rw [add_block]; exact hab)).trans a0
        have f1 := (HBW.cell (p := ⟨(ad.add (k * 3)).block, (ad.add (k * 3)).off + 1, none⟩) (by show (ad.add (k * 3)).block < _; rw [add_block]; exact hab)).trans a1
        have f2 := (HBW.cell (p := ⟨(ad.add (k * 3)).block, (ad.add (k * 3)).off + 2, none⟩) (by show (ad.add (k * 3)).block < _; rw [add_block]; exact hab)).trans a2
        have b2 := bel_mk wr (.cells #[.int .i64 p1, .int .i64 p2, .string p3] 23)
        have HR2 := Lib.hid (own_below HR.out b2)
        have HB2 := Lib.hid (hbr.trans (b2.mono hbz))
        have HNW := Lib.hid hnew
        have HLM := Lib.hid (show (mxR row other k).length + 1 ≤ 2199023255552 by have := LR.out; have := LO.out; omega)
        clear a0 a1 a2 b2 hnew HBW
        go_wp2_with (at_builtin; refine append_val _ rfl _ _ rfl w1.heap.size _ (mxR row other k) rfl HR2.out ⟨wr.heap.size, 0, none⟩ [(p1, p2, p3)] 1 rfl (lit_cells wr wr.heap.size rfl p1 p2 p3) HLM.out HB2.out.size ?_; intro v3 w3 hr3 hb3)
        rw [← HNW.out] at hr3
        have B3 := HB2.out.trans hb3
        go_roundw
        case rel => exact ⟨k + 1, by omega, by go_num, Lib.hid hr3, B3⟩
        case measure => simp [intOf]; omega
      · have hgi : ¬ ((mxR row other k).length : Int) ≤ (k : Int) := by omega
        have HR3 := Lib.hid (show wr.ownsRow w1.heap.size 23 3 (.slice Av (mxR row other k).length cv) (mxR row other (k + 1)).length (flatV (mxR row other (k + 1))) from by rw [mxR_old row other k (by omega)]; exact HR.out)
        go_wp2
        go_roundw
        case rel => exact ⟨k + 1, by omega, by go_num, HR3, hbr⟩
        case measure => simp [intOf]; omega
    · have hki : ¬ (k : Int) < row.length := by omega
      have hkl : k = row.length := by omega
      subst hkl
      have HML := Lib.hid (show row.length ≤ (mxR row other row.length).length by omega)
      have HMM := Lib.hid (show (mxR row other row.length).length ≤ 2097152 by have := LR.out; have := LO.out; omega)
      have HQ := Lib.hid (show ∃ b, Value.bool (decide ((before.length : Int) ≤ 1000)) = Value.bool b ∧ Smalls before zs 0 b from ⟨_, rfl, fun hb => ⟨by have := of_decide_eq_true hb; omega, fun c hc => by simp at hc⟩⟩)
      generalize mxR row other row.length = m0 at *
      clear hlm hlt hk
      go_wp2_with fail
      go_loopw [12, 13, 41] (fun s _ j wr => ∃ k : Nat, k ≤ zs.length ∧ j = .int .i64 k ∧ (∃ b, s = .bool b ∧ Smalls before zs k b) ∧ Hid (wr.ownsRow w1.heap.size 23 3 (.slice Av m0.length cv) m0.length (flatV ((zs.take k).foldl (mixU row) m0))) ∧ Below w1.heap.size w1 wr) (fun _ _ j _ => zs.length - (intOf j).toNat)
      case atStart => exact ⟨0, Nat.zero_le _, rfl, HQ.out, HR, hbr⟩
      case round =>
        clear HQ HR hbr hbz hki
        obtain ⟨k, hk, rfl, ⟨b, rfl, hsm⟩, HR, hbr⟩ := hrel
        have hbz := hbr.size
        have HSM := Lib.hid hsm
        clear hsm
        by_cases hlt : k < zs.length
        · have hki : (k : Int) < zs.length := by omega
          have hx := List.getElem?_eq_getElem hlt
          obtain ⟨ad, rfl, _, hab, a0⟩ := HC1.out k _ hx
          have hst := fold_step row m0 zs k _ hx
          have hml := mix_len row (zs.take k) m0
          generalize zs[k] = q at *
          generalize (zs.take k).foldl (mixU row) m0 = m at *
          have q0 := (hbr.cell (p := ad.add k) (by rw [add_block]; exact hab)).trans a0
          have HX := Lib.hid hx
          clear a0 hx
          by_cases hq0 : (0 : Int) ≤ q
          · obtain ⟨j, rfl⟩ := Int.eq_ofNat_of_zero_le hq0
            by_cases hqr : (j : Int) < row.length
            · have hjr : j < row.length := by omega
              rw [mixU_in row m j hjr] at hst
              have hjm : j < m.length := by have := HML.out; omega
              rcases own_get HR.out with ⟨_, h0⟩ | ⟨g, cc, hv, hbg, hg, hnc, hcells⟩
              · omega
              · injection hv with e1 e2 e3
                subst e1 e3
                clear e2
                obtain ⟨ad2, rfl, _, hab2, a0, a1, a2⟩ := HCR.out j _ (List.getElem?_eq_getElem hjr)
                generalize row[j] = p at *
                obtain ⟨p1, p2, p3⟩ := p
                dsimp only at a0 a1 a2
                have HBW := HB1.out.trans (hbr.mono HB1.out.size)
                have f0 := (HBW.cell (p := ad2.add (j * 3)) (by rw [add_block]; exact hab2)).trans a0
                have f1 := (HBW.cell (p := ⟨(ad2.add (j * 3)).block, (ad2.add (j * 3)).off + 1, none⟩) (by show (ad2.add (j * 3)).block < _; rw [add_block]; exact hab2)).trans a1
                have f2 := (HBW.cell (p := ⟨(ad2.add (j * 3)).block, (ad2.add (j * 3)).off + 2, none⟩) (by show (ad2.add (j * 3)).block < _; rw [add_block]; exact hab2)).trans a2
                obtain ⟨y0, y1, y2⟩ := flatV_get m j _ (List.getElem?_eq_getElem hjm)
                have HP := Lib.hid (own_put (show (wr.drew).ownsRow w1.heap.size 23 3 (.slice (some ⟨g, 0, none⟩) m0.length cv) m0.length (flatV m) from own_below HR.out (Below.refl _ _).drew) hjm (p1, p2, p3))
                have u0 : wr.drew.cell? ((⟨g, 0, none⟩ : Addr).add (j * 3)) = some (.int .i64 m[j].1) := by rw [plain_add]; exact hcells _ _ y0
                have u1 : wr.drew.cell? ⟨g, j * 3 + 1, none⟩ = some (.int .i64 m[j].2.1) := hcells _ _ y1
                have u2 : wr.drew.cell? ⟨g, j * 3 + 2, none⟩ = some (.string m[j].2.2) := hcells _ _ y2
                have z0 : wr.drew.frozen? ((⟨g, 0, none⟩ : Addr).add (j * 3)) = false := by rw [plain_add]; exact World.ownsRow.frozenAt HR.out _
                have u0b : wr.drew.cell? ⟨g, j * 3, none⟩ = some (.int .i64 m[j].1) := hcells _ _ y0
                have z0b : wr.drew.frozen? ⟨g, j * 3, none⟩ = false := World.ownsRow.frozenAt HR.out _
                have z1 : wr.drew.frozen? ⟨g, j * 3 + 1, none⟩ = false := World.ownsRow.frozenAt HR.out _
                have z2 : wr.drew.frozen? ⟨g, j * 3 + 2, none⟩ = false := World.ownsRow.frozenAt HR.out _
                have HBD := Lib.hid hbr.drew
                have HST := Lib.hid hst
                clear hst a0 a1 a2 y0 y1 y2 hcells HBW
                have hqm : (j : Int) < m0.length := by omega
                cases b
                all_goals
                  go_wp2
                  go_still_tail 13, (by kernel_rfl)
                  change wpList _ _ _ _ _ wr.drew
                  generalize wr.drew = wd at *
                  go_wp2
                  go_roundw
                  case rel => exact ⟨k + 1, by omega, by go_num, ⟨_, rfl, by first | exact smalls_step HSM.out HX.out (fun hb => ⟨by omega, of_decide_eq_true hb⟩) | exact smalls_no _ _ _⟩, Lib.hid (by rw [HST.out]; exact HP.out), (((HBD.out.setCell (by show w1.heap.size ≤ g; exact hbg) _).setCell (by show w1.heap.size ≤ g; exact hbg) _).setCell (by show w1.heap.size ≤ g; exact hbg) _)⟩
                  case measure => simp [intOf]; omega
            · by_cases hqm : (j : Int) < m0.length
              · have hjr : ¬ j < row.length := by omega
                have hjm : j < m.length := by omega
                rw [mixU_null row m j hjr hjm] at hst
                rcases own_get HR.out with ⟨_, h0⟩ | ⟨g, cc, hv, hbg, hg, hnc, hcells⟩
                · omega
                · injection hv with e1 e2 e3
                  subst e1 e3
                  clear e2 hcells hnc
                  have HST := Lib.hid hst
                  have HBD := Lib.hid hbr.drew
                  have HRD := Lib.hid (show wr.drew.ownsRow w1.heap.size 23 3 (.slice (some ⟨g, 0, none⟩) m0.length cv) m0.length (flatV m) from own_below HR.out (Below.refl _ _).drew)
                  have q0d : wr.drew.cell? (ad.add k) = some (.int .i64 (j : Int)) := q0
                  have HAB := Lib.hid (show (ad.add k).block < wr.drew.heap.size from by rw [add_block]; exact Nat.lt_of_lt_of_le hab HBD.out.size)
                  have HJM := Lib.hid hjm
                  clear hst
                  cases b
                  all_goals
                    go_wp2
                    go_region_law (first
                      | (go_simp; go_at_call 28; with_reducible refine (HNU.out _).mono ?_; rintro e9 w9 ⟨rfl, hb9⟩; have HR9 := Lib.hid (own_below HRD.out hb9); have HB9 := Lib.hid (HBD.out.trans (hb9.mono HBD.out.size)); have q9 : w9.cell? (ad.add k) = some (.int .i64 (j : Int)) := (hb9.cell HAB.out).trans q0d; obtain ⟨u0, u1, u2, z0, z1, z2⟩ := own_facts HR9.out HJM.out; clear hb9))
                    all_goals
                      have HP := Lib.hid (own_put HR9.out HJM.out nullP)
                      go_wp2
                      go_roundw
                      case rel => exact ⟨k + 1, by omega, by go_num, ⟨_, rfl, by first | exact smalls_step HSM.out HX.out (fun hb => ⟨by omega, of_decide_eq_true hb⟩) | exact smalls_no _ _ _⟩, Lib.hid (by rw [HST.out]; exact HP.out), (((HB9.out.setCell (by show w1.heap.size ≤ g; exact hbg) _).setCell (by show w1.heap.size ≤ g; exact hbg) _).setCell (by show w1.heap.size ≤ g; exact hbg) _)⟩
                      case measure => simp [intOf]; omega
              · rw [mixU_out row m (j : Int) (fun q => hqr q.2) (fun q => by have := q.2; omega)] at hst
                have HST := Lib.hid hst
                clear hst
                cases b
                all_goals
                  go_wp2
                  go_roundw
                  case rel => exact ⟨k + 1, by omega, by go_num, ⟨_, rfl, by first | exact smalls_step HSM.out HX.out (fun hb => ⟨by omega, of_decide_eq_true hb⟩) | exact smalls_no _ _ _⟩, Lib.hid (by rw [HST.out]; exact HR.out), hbr⟩
                  case measure => simp [intOf]; omega
          · rw [mixU_out row m q (fun x => hq0 x.1) (fun x => hq0 x.1)] at hst
            have HST := Lib.hid hst
            clear hst
            cases b
            all_goals
              go_wp2
              go_roundw
              case rel => exact ⟨k + 1, by omega, by go_num, ⟨_, rfl, smalls_no _ _ _⟩, Lib.hid (by rw [HST.out]; exact HR.out), hbr⟩
              case measure => simp [intOf]; omega
        · have hki : ¬ (k : Int) < zs.length := by omega
          have HBV := Lib.hid (HB1.out.trans (hbr.mono HB1.out.size))
          have hkz : k = zs.length := by omega
          subst hkz
          have hml := mix_len row (zs.take zs.length) m0
          rw [List.take_length] at hml
          have hown := HR.out
          rw [List.take_length] at hown
          have hsm := HSM.out
          unfold Smalls at hsm
          rw [List.take_length] at hsm
          have hrm : RdV wr 0 wr.heap.size (.slice Av m0.length cv) (zs.foldl (mixU row) m0) := RdV.more (RdV.of_own (by rw [hml]; exact hown) (by have := HMM.out; omega)) (Nat.le_refl _) (Nat.zero_le _)
          have hme := HMX.out m0 HML.out
          generalize zs.foldl (mixU row) m0 = mf at *
          have HE1 := Lib.hid (fun r : After wr => by have h := HEV.out r.w mf (.slice Av m0.length cv) (HBV.out.trans (r.h.mono HBV.out.size)) (hrm.step r.h (Nat.le_refl _)); rw [hme] at h; exact h)
          have HE2 := Lib.hid (fun r : After wr => HEV.out r.w row (.slice Ar row.length cr) (HBV.out.trans (r.h.mono HBV.out.size)) (HRR.out.step (HBV.out.trans (r.h.mono HBV.out.size)) (Nat.le_refl _)))
          have HEVR := Lib.hid (fun (V : World) (hb : Below W.heap.size W V) => HEV.out V row (.slice Ar row.length cr) hb (HRR.out.step hb (Nat.le_refl _)))
          have HSS := Lib.hid (fun hb => by obtain ⟨h1, h2⟩ := hsm hb; exact HSX.out h1 h2)
          clear hsm hme hrm hown hml HSM HR HSX HMX HEV HML HMM HC1 HLZ hbr hbz hki hlt hk
          obtain ⟨x0, x1, x2, x3, x4, x5, x6⟩ := HK.out wr HBV.out
          generalize evE row D e = p at *
          obtain ⟨p1, p2, p3⟩ := p
          unfold valV at *
          dsimp only at *
          have hne := fun W => neq_self p1 p2 p3 W
          have heq : ∀ W, (binOp .eql 23 (.agg #[.int .i64 p1, .int .i64 p2, .string p3]) (.agg #[.int .i64 p1, .int .i64 p2, .string p3])).run Try.prog W = .ok (.bool true) W := fun W => by
            have h := Va.eql_val p1 p2 p3 p1 p2 p3 W
            rwa [show Va.eqV p1 p2 p3 p1 p2 p3 = true by unfold Va.eqV; simp] at h
          obtain ⟨k0, k1, k2, k3, k4, k5, k6⟩ := (show (∀ q : After wr, q.w.cell? ⟨w.heap.size, 0, none⟩ = some (.int .i64 e.op)) ∧ (∀ q : After wr, q.w.cell? ⟨w.heap.size, 1, none⟩ = some (.int .i64 e.n)) ∧ (∀ q : After wr, q.w.cell? ⟨w.heap.size, 2, none⟩ = some (.int .i64 e.v.1)) ∧ (∀ q : After wr, q.w.cell? ⟨w.heap.size, 3, none⟩ = some (.int .i64 e.v.2.1)) ∧ (∀ q : After wr, q.w.cell? ⟨w.heap.size, 4, none⟩ = some (.string e.v.2.2)) ∧ (∀ q : After wr, q.w.cell? ⟨w.heap.size, 5, none⟩ = some (.string e.nm)) ∧ (∀ q : After wr, q.w.cell? ⟨w.heap.size, 6, none⟩ = some (.slice A e.args.length c)) from
            ⟨fun q => (HK.out q.w (HBV.out.trans (q.h.mono HBV.out.size))).1, fun q => (HK.out q.w (HBV.out.trans (q.h.mono HBV.out.size))).2.1, fun q => (HK.out q.w (HBV.out.trans (q.h.mono HBV.out.size))).2.2.1, fun q => (HK.out q.w (HBV.out.trans (q.h.mono HBV.out.size))).2.2.2.1, fun q => (HK.out q.w (HBV.out.trans (q.h.mono HBV.out.size))).2.2.2.2.1, fun q => (HK.out q.w (HBV.out.trans (q.h.mono HBV.out.size))).2.2.2.2.2.1, fun q => (HK.out q.w (HBV.out.trans (q.h.mono HBV.out.size))).2.2.2.2.2.2⟩)
          clear x0 x1 x2 x3 x4 x5 x6
          go_wp2
          (refine wp_region_after (by kernel_rfl) (by kernel_rfl) ?_; (repeat (go_big_quiet_step (first | (go_at_call 12; with_reducible exact calls_after (HE1.out _)) | (go_at_call 12; with_reducible exact calls_after (HE2.out _))))); refine wpQuiet_nil ?_; intro wq hw0; obtain ⟨⟨wq0, hbq⟩, hw1⟩ := hw0; subst hw1; (try dsimp only))
          have HBQ := Lib.hid (HBV.out.trans (hbq.mono HBV.out.size))
          clear hbq HBV k0 k1 k2 k3 k4 k5 k6 HE1 HE2
          cases b
          · go_wp2_with fail
            refine (awake_any _).mono ?_
            rintro e' w8 ⟨rfl, hb8⟩
            go_wp2
            go_ret
            exact ⟨rfl, HB.out.trans ((HBQ.out.trans (hb8.mono HBQ.out.size)).mono HBS.out)⟩
          · have HSF := Lib.hid (HSS.out rfl)
            clear HSS
            generalize hrs : shX (before.length : Nat) D e = rs at *
            clear hrs
            go_wp2_with fail
            refine wp_region_invV (w := wq) (fun x => { tmps := #[.agg #[.int .i64 e.op, .int .i64 e.n, .int .i64 e.v.1, .int .i64 e.v.2.1, .string e.v.2.2, .string e.nm, .slice A e.args.length c], .slice Ar row.length cr, .slice Ao other.length co, .slice Ab before.length cb, .pointer (some ⟨w.heap.size, 0, none⟩), undef, undef, undef, x 15, .slice A1 zs.length c1, .slice Av m0.length cv, u11, .bool true, u13, .agg #[.int .i64 e.op, .int .i64 e.n, .int .i64 e.v.1, .int .i64 e.v.2.1, .string e.v.2.2, .string e.nm, .slice A e.args.length c], .slice A1 zs.length c1, .slice (some ⟨w1.heap.size, 0, none⟩) 0 0, .slice Ao other.length co, v2, .slice Ar row.length cr, .int .i64 (row.length : Nat), .int .i64 (row.length : Nat), .bool false, u23, u24, u25, u26, u27, u28, u29, u30, u31, u32, u33, u34, u35, .slice Ab before.length cb, .int .i64 (before.length : Nat), .bool (decide ((before.length : Int) ≤ 1000)), .slice A1 zs.length c1, .int .i64 (zs.length : Nat), .int .i64 (zs.length : Nat), .bool false, u43, u44, u45, u46, u47, u48, u49, u50, u51, u52, u53, u54, u55, u56, u57, u58, u59, u60, u61, u62, u63, u64, u65, u66, u67, u68, u69, u70, u71, u72, u73, u74, u75, u76, u77, u78, u79, u80, u81, u82, u83, u84, u85, u86, u87, u88, u89, u90, u91, u92, u93, u94, u95, u96, u97, u98, u99, u100, u101, u102, u103, u104, u105, u106, u107, .agg #[.int .i64 e.op, .int .i64 e.n, .int .i64 e.v.1, .int .i64 e.v.2.1, .string e.v.2.2, .string e.nm, .slice A e.args.length c], .slice Av m0.length cv, .agg #[.int .i64 p1, .int .i64 p2, .string p3], .agg #[.int .i64 e.op, .int .i64 e.n, .int .i64 e.v.1, .int .i64 e.v.2.1, .string e.v.2.2, .string e.nm, .slice A e.args.length c], .slice Ar row.length cr, .agg #[.int .i64 p1, .int .i64 p2, .string p3], .bool false, .bool true, .bool false, undef, x 0, x 1, x 2, x 3, x 4, x 5, x 6, x 7, x 8, x 9, x 10, x 11, x 12, x 13, x 14], defers := [] }) [isF (.agg #[.int .i64 e.op, .int .i64 e.n, .int .i64 e.v.1, .int .i64 e.v.2.1, .string e.v.2.2, .string e.nm, .slice A e.args.length c]), isF (.slice Ab before.length cb), isF (.int .i64 (before.length : Nat)), exF (D) rs, isF (.slice Ab before.length cb), isF (.slice Ar row.length cr), rowFc (before ++ row), isF (.agg #[.int .i64 p1, .int .i64 p2, .string p3]), isF (.agg #[.int .i64 e.op, .int .i64 e.n, .int .i64 e.v.1, .int .i64 e.v.2.1, .string e.v.2.2, .string e.nm, .slice A e.args.length c]), isF (.slice Ar row.length cr), isF (.agg #[.int .i64 p1, .int .i64 p2, .string p3]), isF (.bool true), isF (.bool true), isF (.bool true), isF (.bool true), isF (.bool true)] (fun j => if j = 15 then .bool false else undef) (by kernel_rfl) (by kernel_rfl) (by rfl) ?_ ?_ ?_
            · intro x i o v ho
              have hi : i < 16 := (Array.getElem?_eq_some_iff.1 ho).1
              have hi2 : i = 0 ∨ i = 1 ∨ i = 2 ∨ i = 3 ∨ i = 4 ∨ i = 5 ∨ i = 6 ∨ i = 7 ∨ i = 8 ∨ i = 9 ∨ i = 10 ∨ i = 11 ∨ i = 12 ∨ i = 13 ∨ i = 14 ∨ i = 15 := by omega
              rcases hi2 with rfl | rfl | rfl | rfl | rfl | rfl | rfl | rfl | rfl | rfl | rfl | rfl | rfl | rfl | rfl | rfl
              all_goals (obtain rfl := Option.some.inj ho; rfl)
            · intro i o ho x W hb hd K hK
              have hi : i < 16 := (Array.getElem?_eq_some_iff.1 ho).1
              have hi2 : i = 0 ∨ i = 1 ∨ i = 2 ∨ i = 3 ∨ i = 4 ∨ i = 5 ∨ i = 6 ∨ i = 7 ∨ i = 8 ∨ i = 9 ∨ i = 10 ∨ i = 11 ∨ i = 12 ∨ i = 13 ∨ i = 14 ∨ i = 15 := by omega
              clear hi
              rcases hi2 with rfl | rfl | rfl | rfl | rfl | rfl | rfl | rfl | rfl | rfl | rfl | rfl | rfl | rfl | rfl | rfl
              · obtain rfl := Option.some.inj ho
                obtain ⟨k0, k1, k2, k3, k4, k5, k6⟩ := HK.out W (HBQ.out.trans (hb.mono HBQ.out.size))
                clear hd
                rw [if_pos (by rfl)]
                try dsimp only at hK ⊢
                go_simp
                exact hK.out _ W (Below.refl _ _) rfl
              · obtain rfl := Option.some.inj ho
                clear hd
                rw [if_pos (by rfl)]
                try dsimp only at hK ⊢
                go_simp
                exact hK.out _ W (Below.refl _ _) rfl
              · obtain rfl := Option.some.inj ho
                have h1 : x 1 = .slice Ab before.length cb := hd 1 (by kernel_rfl)
                simp only [h1] at hK ⊢
                clear hd
                rw [if_pos (by rfl)]
                try dsimp only at hK ⊢
                go_simp
                exact hK.out _ W (Below.refl _ _) rfl
              · obtain rfl := Option.some.inj ho
                have h0 : x 0 = .agg #[.int .i64 e.op, .int .i64 e.n, .int .i64 e.v.1, .int .i64 e.v.2.1, .string e.v.2.2, .string e.nm, .slice A e.args.length c] := hd 0 (by kernel_rfl)
                simp only [h0] at hK ⊢
                have h2 : x 2 = .int .i64 (before.length : Nat) := hd 2 (by kernel_rfl)
                simp only [h2] at hK ⊢
                have hcl := Lib.hid (HSH.out W (HBQ.out.trans (hb.mono HBQ.out.size)))
                clear hd
                rw [if_pos (by rfl)]
                try dsimp only at hK ⊢
                go_simp
                (go_at_call 19; refine hcl.out.mono ?_; rintro e1 W1 ⟨v, rfl, hr, hb1⟩; exact hK.out _ W1 hb1 hr)
              · obtain rfl := Option.some.inj ho
                clear hd
                rw [if_pos (by rfl)]
                try dsimp only at hK ⊢
                go_simp
                exact hK.out _ W (Below.refl _ _) rfl
              · obtain rfl := Option.some.inj ho
                clear hd
                rw [if_pos (by rfl)]
                try dsimp only at hK ⊢
                go_simp
                exact hK.out _ W (Below.refl _ _) rfl
              · obtain rfl := Option.some.inj ho
                have h4 : x 4 = .slice Ab before.length cb := hd 4 (by kernel_rfl)
                simp only [h4] at hK ⊢
                have h5 : x 5 = .slice Ar row.length cr := hd 5 (by kernel_rfl)
                simp only [h5] at hK ⊢
                have hcl := Lib.hid (rConcat_any (.slice Ab before.length cb) (.slice Ar row.length cr) before row W 0 0 (HRB.out.step (HBQ.out.trans (hb.mono HBQ.out.size)) (Nat.le_refl _)) (HRR.out.step (HBQ.out.trans (hb.mono HBQ.out.size)) (Nat.le_refl _)) NB.out NR.out (by have := LB.out; have := LR.out; omega))
                clear hd
                rw [if_pos (by rfl)]
                try dsimp only at hK ⊢
                go_simp
                (go_at_call 29; refine hcl.out.mono ?_; rintro e1 W1 ⟨v, rfl, hr, hb1⟩; exact hK.out _ W1 hb1 hr)
              · obtain rfl := Option.some.inj ho
                have h3 : IsE D rs (x 3) W := hd 3 (by kernel_rfl)
                have h6 : RdV W 0 W.heap.size (x 6) (before ++ row) := hd 6 (by kernel_rfl)
                have hcl := Lib.hid (show Calls Try.prog 12 #[x 3, x 6] W (fun e' w' => e' = .returned (.agg #[.int .i64 p1, .int .i64 p2, .string p3]) ∧ Below W.heap.size W w') from by have h := eval_isE h3 h6; rw [HSF.out] at h; exact h)
                clear hd
                rw [if_pos (by rfl)]
                try dsimp only at hK ⊢
                go_simp
                (go_at_call 12; refine hcl.out.mono ?_; rintro e1 W1 ⟨rfl, hb1⟩; exact hK.out _ W1 hb1 rfl)
              · obtain rfl := Option.some.inj ho
                obtain ⟨k0, k1, k2, k3, k4, k5, k6⟩ := HK.out W (HBQ.out.trans (hb.mono HBQ.out.size))
                clear hd
                rw [if_pos (by rfl)]
                try dsimp only at hK ⊢
                go_simp
                exact hK.out _ W (Below.refl _ _) rfl
              · obtain rfl := Option.some.inj ho
                clear hd
                rw [if_pos (by rfl)]
                try dsimp only at hK ⊢
                go_simp
                exact hK.out _ W (Below.refl _ _) rfl
              · obtain rfl := Option.some.inj ho
                have h8 : x 8 = .agg #[.int .i64 e.op, .int .i64 e.n, .int .i64 e.v.1, .int .i64 e.v.2.1, .string e.v.2.2, .string e.nm, .slice A e.args.length c] := hd 8 (by kernel_rfl)
                simp only [h8] at hK ⊢
                have h9 : x 9 = .slice Ar row.length cr := hd 9 (by kernel_rfl)
                simp only [h9] at hK ⊢
                have hcl := Lib.hid (HEVR.out W (HBQ.out.trans (hb.mono HBQ.out.size)))
                clear hd
                rw [if_pos (by rfl)]
                try dsimp only at hK ⊢
                go_simp
                (go_at_call 12; refine hcl.out.mono ?_; rintro e1 W1 ⟨rfl, hb1⟩; exact hK.out _ W1 hb1 rfl)
              · obtain rfl := Option.some.inj ho
                have h7 : x 7 = .agg #[.int .i64 p1, .int .i64 p2, .string p3] := hd 7 (by kernel_rfl)
                simp only [h7] at hK ⊢
                have h10 : x 10 = .agg #[.int .i64 p1, .int .i64 p2, .string p3] := hd 10 (by kernel_rfl)
                simp only [h10] at hK ⊢
                clear hd
                rw [if_pos (by rfl)]
                try dsimp only at hK ⊢
                go_simp
                exact hK.out _ W (Below.refl _ _) rfl
              · obtain rfl := Option.some.inj ho
                have h11 : x 11 = .bool true := hd 11 (by kernel_rfl)
                simp only [h11] at hK ⊢
                clear hd
                rw [if_pos (by rfl)]
                try dsimp only at hK ⊢
                go_simp
                exact hK.out _ W (Below.refl _ _) rfl
              · obtain rfl := Option.some.inj ho
                have h12 : x 12 = .bool true := hd 12 (by kernel_rfl)
                simp only [h12] at hK ⊢
                clear hd
                rw [if_pos (by rfl)]
                try dsimp only at hK ⊢
                go_simp
                (go_at_call 11; refine (awake_any W).mono ?_; rintro e1 W1 ⟨rfl, hb1⟩; exact hK.out _ W1 hb1 rfl)
              · obtain rfl := Option.some.inj ho
                have h12 : x 12 = .bool true := hd 12 (by kernel_rfl)
                simp only [h12] at hK ⊢
                have h13 : x 13 = .bool true := hd 13 (by kernel_rfl)
                simp only [h13] at hK ⊢
                clear hd
                rw [if_pos (by rfl)]
                try dsimp only at hK ⊢
                go_simp
                exact hK.out _ W (Below.refl _ _) rfl
              · obtain rfl := Option.some.inj ho
                have h14 : x 14 = .bool true := hd 14 (by kernel_rfl)
                simp only [h14] at hK ⊢
                clear hd
                rw [if_pos (by rfl)]
                try dsimp only at hK ⊢
                go_simp
                exact hK.out _ W (Below.refl _ _) rfl
            · intro x U hb hf
              have h15 : x 15 = .bool true := hf 15 (by decide)
              have BU := Lib.hid (HBQ.out.trans (hb.mono HBQ.out.size))
              clear hf hb
              try dsimp only
              rw [h15]
              clear h15
              generalize x 0 = y0
              generalize x 1 = y1
              generalize x 2 = y2
              generalize x 3 = y3
              generalize x 4 = y4
              generalize x 5 = y5
              generalize x 6 = y6
              generalize x 7 = y7
              generalize x 8 = y8
              generalize x 9 = y9
              generalize x 10 = y10
              generalize x 11 = y11
              generalize x 12 = y12
              generalize x 13 = y13
              generalize x 14 = y14
              clear x
              go_wp2
              go_ret
              exact ⟨rfl, HB.out.trans (BU.out.mono HBS.out)⟩
end Go.Proofs.Ytpiadcfejbnonaa
