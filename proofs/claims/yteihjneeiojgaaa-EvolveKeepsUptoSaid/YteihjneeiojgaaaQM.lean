import Derived.Test.YteihjneeiojgaaaMG
import Derived.Test.YteihjneeiojgaaaQH
import Derived.Test.YteihjneeiojgaaaME
import Derived.WalkKit
import Derived.WalkSpells
import Derived.WalkLawsBesides
import Derived.Deep.QuietTactic
import Derived.BigQuiet
import Derived.Handy
import Derived.Lib.Hide
/-
  The kind of an expression, by the program: kindOf, Check. Conditions: lengths, a bounded depth.
-/
namespace Go.Proofs.Yteihjneeiojgaaa
set_option maxRecDepth 100000
set_option linter.unusedVariables false
set_option linter.unusedSimpArgs false
open Go.RowKit

/-- The first error of several arguments, or 0. -/
def ersK (f : Ex → Int × Int) : List Ex → Int
  | [] => 0
  | a :: l => if (f a).2 = 0 then ersK f l else (f a).2
def resG (op : Int) (zs : List Int) : Int × Int := if op = 22 then resI (zs.getD 0 0) (zs.getD 1 0) (zs.getD 2 0) else resT (opAr op) (opRs op) zs
def exK (e : Ex) (cols : Int) : Int := chkE e.op e.n e.v.1 e.v.2.1 e.v.2.2 e.nm e.args.length cols
/-- The kind of an expression, and the error. -/
def kndE (zs : List Int) : Nat → Ex → Int × Int
  | 0, _ => (0, 0)
  | d + 1, e =>
    if exK e zs.length ≠ 0 then (0, exK e zs.length)
    else if ersK (kndE zs d) e.args ≠ 0 then (0, ersK (kndE zs d) e.args)
    else if e.op = 1 then (e.v.1, 0)
    else if e.op = 2 then (zs.getD e.n.toNat 0, 0)
    else resG e.op (e.args.map fun a => (kndE zs d a).1)
theorem ersK_drop (f : Ex → Int × Int) (es : List Ex) (k : Nat) (e : Ex) (h : es[k]? = some e) : ersK f (es.drop k) = if (f e).2 = 0 then ersK f (es.drop (k + 1)) else (f e).2 := by
  obtain ⟨h1, rfl⟩ := List.getElem?_eq_some_iff.1 h
  rw [List.drop_eq_getElem_cons h1]
  rfl
theorem exK_wf {e : Ex} {c : Int} (h : exK e c = 0) : wfE e.op e.n e.v.1 e.v.2.1 e.v.2.2 e.nm e.args.length = true ∧ (e.op = 2 → idxB e.n c = true) := by
  unfold exK chkE at h
  split at h
  · simp at h
  · split at h
    · simp at h
    · split at h
      · simp at h
      · rename_i h1 h2 h3
        exact ⟨by simpa using h2, fun ho => by cases hb : idxB e.n c with | true => rfl | false => exact absurd ⟨ho, hb⟩ h3⟩
theorem wf_if {n k m : Int} {s nm : ByteArray} {l : Nat} (h : wfE 22 n k m s nm l = true) : l = 3 := by
  unfold wfE at h
  simp only [Bool.and_eq_true, decide_eq_true_eq] at h
  have h1 : opLo 22 = 3 := rfl
  have h2 : opHi 22 = 3 := rfl
  omega
set_option maxRecDepth 100000 in
set_option maxHeartbeats 12800000 in
theorem pKnd_any (v : Value) (zs : List Int) : ∀ (d : Nat) (e : Ex) (u : Value) (w : World) (L L2 : Nat), RdE w L w.heap.size d u e.args → RdI w L2 w.heap.size v zs →
    Calls Try.prog 61 #[exV e u, v] w fun e' w' => e' = .returned (resV (kndE zs d e)) ∧ Below w.heap.size w w'
  | 0, _, _, _, _, _, h, _ => h.elim
  | d + 1, e, u, w, L, L2, h, hz => by
    have IH := Lib.hid (pKnd_any v zs d)
    obtain ⟨op, n, ⟨k1, k2, s⟩, nm, es⟩ := e
    have HWF := Lib.hid (exK_wf (e := ⟨op, n, (k1, k2, s), nm, es⟩) (c := zs.length))
    unfold kndE
    unfold exK at *
    unfold exV
    dsimp only at h HWF ⊢
    obtain ⟨A, c, rfl, hl, hc⟩ := h
    have HC := Lib.hid hc
    obtain ⟨A2, cz, rfl, hlz, hcz⟩ := hz
    have HZ := Lib.hid (show RdI w L2 w.heap.size (.slice A2 zs.length cz) zs from ⟨A2, cz, rfl, hlz, hcz⟩)
    clear hc hcz
    have hit := fun W => pItself_any op n k1 k2 s nm A es.length c zs.length W
    have HO := Lib.hid (Own.new w 65 #[.int .i64 op, .int .i64 n, .int .i64 k1, .int .i64 k2, .string s, .string nm, .slice A es.length c])
    have HB0 := Lib.hid (bel_mk w (.cells #[.int .i64 op, .int .i64 n, .int .i64 k1, .int .i64 k2, .string s, .string nm, .slice A es.length c] 65))
    generalize chkE op n k1 k2 s nm es.length zs.length = cc at *
    have HIT := Lib.hid hit
    clear hit
    by_cases c0 : cc = 0
    rotate_left
    · have e1 : (cc != 0) = true := by simp [c0]
      rw [if_pos c0]
      unfold resV
      go_enter Try.func61, Try.ntmps61
      go_wp2_with fail
      with_reducible refine (HIT.out _).mono ?_
      rintro e w1 ⟨rfl, hb1⟩
      go_wp2
      go_ret2
      exact ⟨rfl, HB0.out.trans (hb1.mono HB0.out.size)⟩
    subst c0
    rw [if_neg (by simp)]
    obtain ⟨hwf, hidx⟩ := HWF.out rfl
    have HW := Lib.hid hwf
    have HI := Lib.hid hidx
    clear hwf hidx HWF
    generalize hP : (if ersK (kndE zs d) es ≠ 0 then (0, ersK (kndE zs d) es) else if op = 1 then (k1, 0) else if op = 2 then (zs.getD n.toNat 0, 0) else resG op (es.map fun a => (kndE zs d a).1)) = P
    have HP := Lib.hid hP
    clear hP
    obtain ⟨P1, P2⟩ := P
    unfold resV
    dsimp only
    go_enter Try.func61, Try.ntmps61
    go_wp2_with fail
    with_reducible refine (HIT.out _).mono ?_
    rintro e w1 ⟨rfl, hb1⟩
    have hz0 := HB0.out.size
    have hs0 : w.heap.size < (w.alloc (.cells #[.int .i64 op, .int .i64 n, .int .i64 k1, .int .i64 k2, .string s, .string nm, .slice A es.length c] 65)).heap.size := by simp
    have HB1 := Lib.hid (HB0.out.trans (hb1.mono hz0))
    have o1 := HO.out.below hb1 hs0
    have hs1 := hb1.size
    have x6 := o1.cell 6
    have hmk := made_rowZ w1 es.length hl
    have o2 := o1.alloc (.cells (rowZ [] es.length) 3)
    have x6b := o2.cell 6
    have HB2 := Lib.hid (HB1.out.trans ((bel_mk w1 (.cells (rowZ [] es.length) 3)).mono (Nat.le_trans hz0 hs1)))
    have HR2 := Lib.hid (Own.new w1 3 (rowZ [] es.length))
    have HO2 := Lib.hid o2
    generalize hg : w1.heap.size = g at *
    clear hb1 o1 o2 HIT HO
    go_wp2_with fail
    clear hmk x6 x6b
    have hgn : w.heap.size ≠ g := by omega
    have hgw : w.heap.size ≤ g := by omega
    go_loopw [8, 9, 10, 11, 26] (fun _ _ _ _ i wr => ∃ k : Nat, k ≤ es.length ∧ i = .int .i64 k ∧ Hid (ersK (kndE zs d) es = ersK (kndE zs d) (es.drop k)) ∧ Hid (Own wr g 3 (rowZ ((es.take k).map fun a => (kndE zs d a).1) es.length)) ∧ Hid (Own wr w.heap.size 65 #[.int .i64 op, .int .i64 n, .int .i64 k1, .int .i64 k2, .string s, .string nm, .slice A es.length c]) ∧ Below w.heap.size w wr) (fun _ _ _ _ i _ => es.length - (intOf i).toNat)
    case atStart => exact ⟨0, Nat.zero_le _, rfl, Lib.hid rfl, HR2, HO2, HB2.out⟩
    case round =>
      clear HR2 HO2 HB1 HB2
      obtain ⟨k, hk, rfl, HE, HR, HO, hbr⟩ := hrel
      have hbz := hbr.size
      by_cases hlt : k < es.length
      · have hki : (k : Int) < es.length := by omega
        obtain ⟨ad, x, rfl, _, hab, hxc, hxr⟩ := HC.out k _ (List.getElem?_eq_getElem hlt)
        obtain ⟨A3, c3, rfl, hl3⟩ := hxr.slice
        have hx := hxc.below hbr (by rw [add_blk]; exact hab)
        have hed := ersK_drop (kndE zs d) es k _ (List.getElem?_eq_getElem hlt)
        rw [← HE.out] at hed
        have htk : (es.take (k + 1)).map (fun a => (kndE zs d a).1) = (es.take k).map (fun a => (kndE zs d a).1) ++ [(kndE zs d es[k]).1] := by rw [List.take_add_one, List.getElem?_eq_getElem hlt, List.map_append]; rfl
        have HRD := Lib.hid ((hxr.below hbr).more hbz (Nat.le_refl _))
        clear hxc hxr
        generalize es[k] = y at *
        obtain ⟨d0, d1, d2, d3, d4, d5, d6⟩ := hx
        have bX := bel_mk wr (.cells #[.int .i64 y.op, .int .i64 y.n, .int .i64 y.v.1, .int .i64 y.v.2.1, .string y.v.2.2, .string y.nm, .slice A3 y.args.length c3] 65)
        have RX := HRD.out.step bX (Nat.le_refl _)
        have hzx := (wr.alloc (.cells #[.int .i64 y.op, .int .i64 y.n, .int .i64 y.v.1, .int .i64 y.v.2.1, .string y.v.2.2, .string y.nm, .slice A3 y.args.length c3] 65)).heap.size
        have hbX := hbr.trans (bX.mono hbz)
        have hcall := IH.out y (.slice A3 y.args.length c3) _ L L2 RX (HZ.out.step hbX (Nat.le_refl _))
        unfold exV resV at hcall
        have HX := Lib.hid hcall
        have HBX := Lib.hid hbX
        have HOX := Lib.hid (HO.out.alloc (.cells #[.int .i64 y.op, .int .i64 y.n, .int .i64 y.v.1, .int .i64 y.v.2.1, .string y.v.2.2, .string y.nm, .slice A3 y.args.length c3] 65))
        have HRX := Lib.hid (HR.out.alloc (.cells #[.int .i64 y.op, .int .i64 y.n, .int .i64 y.v.1, .int .i64 y.v.2.1, .string y.v.2.2, .string y.nm, .slice A3 y.args.length c3] 65))
        have hlz : ((es.take k).map fun a => (kndE zs d a).1).length = k := by rw [List.length_map, List.length_take]; omega
        have hz0 := rowZ_next ((es.take k).map fun a => (kndE zs d a).1) es.length (by rw [hlz]; exact hlt)
        rw [hlz] at hz0
        generalize kndE zs d y = r at *
        obtain ⟨r1, r2⟩ := r
        have hz1 := rowZ_set ((es.take k).map fun a => (kndE zs d a).1) es.length r1 (by rw [hlz]; exact hlt)
        rw [hlz] at hz1
        dsimp only at hed htk HX
        rw [← htk] at hz1
        have HZ0 := Lib.hid hz0
        have HZ1 := Lib.hid hz1
        have HED := Lib.hid hed
        clear hz0 hz1 hed htk hlz HE HRD bX RX hbX hcall HR HO hzx
        go_wp2_with fail
        with_reducible refine HX.out.mono ?_
        rintro e w2 ⟨rfl, hb2⟩
        have o1 := HOX.out.below hb2 HOX.out.lt
        have o2 := HRX.out.below hb2 HRX.out.lt
        have HB2 := Lib.hid (HBX.out.trans (hb2.mono HBX.out.size))
        have f0 := (o2.cell k).trans HZ0.out
        have f1 := o2.free k
        have o3 := o2.store k (.int .i64 r1)
        rw [HZ1.out] at o3
        have HO3 := Lib.hid o3
        have HO1 := Lib.hid (o1.far (p := ⟨g, k, none⟩) hgn (.int .i64 r1))
        have HB3 := Lib.hid (HB2.out.setCell (p := ⟨g, k, none⟩) hgw (.int .i64 r1))
        clear hb2 o1 o2 o3 HX HBX HOX HRX HZ0 HZ1
        by_cases hr : r2 = 0
        · subst hr
          have HE2 := Lib.hid (show ersK (kndE zs d) es = ersK (kndE zs d) (es.drop (k + 1)) by have := HED.out; simpa using this)
          clear HED
          go_wp2
          go_roundw
          case rel => exact ⟨k + 1, by omega, by go_num, HE2, HO3, HO1, HB3.out⟩
          case measure => simp [intOf]; omega
        · have e1 : (r2 != 0) = true := by simp [hr]
          have HF := Lib.hid (show (P1, P2) = ((0 : Int), r2) by have h1 := HED.out; rw [if_neg hr] at h1; rw [← HP.out, h1, if_pos hr])
          clear HED HP
          go_wp2
          go_ret2
          exact ⟨by have := HF.out; injection this with h1 h2; rw [h1, h2]; rfl, HB2.out⟩
      · have hki : ¬ (k : Int) < es.length := by omega
        have hek : k = es.length := by omega
        subst hek
        have x0 := HO.out.cell 0
        have x1 := HO.out.cell 1
        have x2 := HO.out.cell 2
        have he0 : ersK (kndE zs d) es = 0 := by rw [HE.out, List.drop_eq_nil_of_le (Nat.le_refl _)]; rfl
        have hp1 := HP.out
        rw [he0, if_neg (by simp)] at hp1
        have HP1 := Lib.hid hp1
        have hrow := HR.out
        rw [List.take_length] at hrow
        have hml : (es.map fun a => (kndE zs d a).1).length = es.length := List.length_map _
        have hrd : RdI wr 0 wr.heap.size (.slice (some ⟨g, 0, none⟩) es.length es.length) (es.map fun a => (kndE zs d a).1) := by
          have h2 := hrow
          rw [← hml] at h2 ⊢
          exact rdI_row h2 (Nat.zero_le _) (by omega)
        generalize (es.map fun a => (kndE zs d a).1) = qs at *
        have HRD := Lib.hid hrd
        clear he0 hp1 hrow hrd HP HE HR
        by_cases o1 : op = 1
        · subst o1
          have HF := Lib.hid (show ((k1, 0) : Int × Int) = (P1, P2) by have h1 := HP1.out; rwa [if_pos rfl] at h1)
          clear HP1 HI
          go_wp2
          go_ret2
          exact ⟨by have := HF.out; injection this with h1 h2; rw [← h1, ← h2]; rfl, hbr⟩
        by_cases o2 : op = 2
        · subst o2
          have hi := HI.out rfl
          unfold idxB at hi
          simp only [Bool.and_eq_true, decide_eq_true_eq] at hi
          obtain ⟨m, rfl⟩ := Int.eq_ofNat_of_zero_le hi.1
          have hm : m < zs.length := by omega
          have hmi : (m : Int) < zs.length := by omega
          obtain ⟨A', c', hv', _, hcz⟩ := HZ.out
          injection hv' with e1 e2 e3
          subst e1
          obtain ⟨ad, rfl, _, hab, c0⟩ := hcz m _ (List.getElem?_eq_getElem hm)
          have d0 := (hbr.cell (p := ad.add m) (by rw [add_block]; exact hab)).trans c0
          have HF := Lib.hid (show ((zs[m], 0) : Int × Int) = (P1, P2) by have h1 := HP1.out; rw [if_neg (by simp), if_pos rfl] at h1; rw [← h1]; simp [hm])
          generalize zs[m] = q at *
          clear HP1 HI hcz c0 HZ
          go_wp2
          go_ret2
          exact ⟨by have := HF.out; injection this with h1 h2; rw [← h1, ← h2]; rfl, hbr⟩
        by_cases o3 : op = 22
        · subst o3
          have h3 := wf_if HW.out
          rw [h3] at hml
          obtain ⟨z1, z2, z3, rfl⟩ : ∃ z1 z2 z3, qs = [z1, z2, z3] := by
            match qs, hml with
            | [z1, z2, z3], _ => exact ⟨z1, z2, z3, rfl⟩
          have hrd := HRD.out
          rw [h3] at hrd
          have hcall := pResI_any g z1 z2 z3 wr 0 hrd
          have HF := Lib.hid (show resI z1 z2 z3 = (P1, P2) by have h1 := HP1.out; rw [if_neg (by simp), if_neg (by simp)] at h1; exact h1)
          rw [HF.out] at hcall
          unfold resV at hcall
          rw [show ((3 : Nat)) = es.length from h3.symm] at hcall
          have HCL := Lib.hid hcall
          clear hcall HP1 HI hrd HRD h3 hml HF
          go_wp2_with fail
          with_reducible refine HCL.out.mono ?_
          rintro e w3 ⟨rfl, hb3⟩
          go_wp2
          go_ret2
          exact ⟨rfl, hbr.trans (hb3.mono hbz)⟩
        · have hrd := HRD.out
          rw [← hml] at hrd
          have hcall := pResK_any op (some ⟨g, 0, none⟩) qs wr 0 o3 (by omega) hrd
          have HF := Lib.hid (show resT (opAr op) (opRs op) qs = (P1, P2) by have h1 := HP1.out; rw [if_neg o1, if_neg o2] at h1; unfold resG at h1; rw [if_neg o3] at h1; exact h1)
          rw [HF.out, hml] at hcall
          unfold resV at hcall
          have HCL := Lib.hid hcall
          clear hcall HP1 HI hrd HRD hml HF
          go_wp2_with fail
          with_reducible refine HCL.out.mono ?_
          rintro e w3 ⟨rfl, hb3⟩
          go_wp2
          go_ret2
          exact ⟨rfl, hbr.trans (hb3.mono hbz)⟩
end Go.Proofs.Yteihjneeiojgaaa
/-
  Check, Depth of the program. Conditions: lengths, a bounded depth.
-/
namespace Go.Proofs.Yteihjneeiojgaaa
set_option maxRecDepth 100000
set_option linter.unusedVariables false
set_option linter.unusedSimpArgs false
open Go.RowKit

/-- What Check answers. -/
def chkT (zs : List Int) (d : Nat) (e : Ex) : Int × Int := if 24 < depE d e then (0, 26) else kndE zs d e
set_option maxRecDepth 100000 in
set_option maxHeartbeats 3200000 in
theorem pDepth_any (d : Nat) (e : Ex) (A : Option Addr) (c : Nat) (w : World) (L : Nat) (h : RdE w L w.heap.size d (.slice A e.args.length c) e.args) :
    Calls Try.prog 60 #[exV e (.slice A e.args.length c)] w fun e' w' => e' = .returned (.int .i64 (min (depE d e) 25 : Nat)) ∧ Below w.heap.size w w' := by
  have b1 := bel_mk w (.cells (exA e (.slice A e.args.length c)) 65)
  unfold exA at b1
  have hcall := pLim_any d e (.slice A e.args.length c) 25 _ L (h.step b1 (Nat.le_refl _)) (by omega) (by omega)
  rw [show ((25 : Nat) : Int) = 25 from rfl] at hcall
  unfold exV at *
  have HC := Lib.hid hcall
  have HB := Lib.hid b1
  clear hcall b1 h
  go_enter Try.func60, Try.ntmps60
  go_wp2_with fail
  with_reducible refine HC.out.mono ?_
  rintro e w3 ⟨rfl, hb3⟩
  go_wp2
  go_ret
  exact ⟨rfl, HB.out.trans (hb3.mono HB.out.size)⟩
set_option maxRecDepth 100000 in
set_option maxHeartbeats 3200000 in
theorem pCheck_any (v : Value) (zs : List Int) (d : Nat) (e : Ex) (A : Option Addr) (c : Nat) (w : World) (L L2 : Nat) (h : RdE w L w.heap.size d (.slice A e.args.length c) e.args) (hz : RdI w L2 w.heap.size v zs) :
    Calls Try.prog 49 #[exV e (.slice A e.args.length c), v] w fun e' w' => e' = .returned (resV (chkT zs d e)) ∧ Below w.heap.size w w' := by
  have b1 := bel_mk w (.cells (exA e (.slice A e.args.length c)) 65)
  have o1 := Own.new w 65 (exA e (.slice A e.args.length c))
  unfold exA at b1 o1
  have hdep := pDepth_any d e A c _ L (h.step b1 (Nat.le_refl _))
  unfold exV at *
  have HD := Lib.hid hdep
  have HB := Lib.hid b1
  have HO := Lib.hid o1
  have HK := Lib.hid (fun (W : World) (hb : Below w.heap.size w W) => pKnd_any v zs d e (.slice A e.args.length c) W L L2 (h.step hb (Nat.le_refl _)) (hz.step hb (Nat.le_refl _)))
  clear hdep b1 o1 h hz
  unfold chkT
  by_cases hd : 24 < depE d e
  · have hm : (24 : Int) < ((min (depE d e) 25 : Nat) : Int) := by omega
    rw [if_pos hd]
    unfold resV
    generalize ((min (depE d e) 25 : Nat) : Int) = q at *
    clear hd HK
    go_enter Try.func49, Try.ntmps49
    go_wp2_with fail
    with_reducible refine HD.out.mono ?_
    rintro e w3 ⟨rfl, hb3⟩
    go_wp2
    go_ret2
    exact ⟨rfl, HB.out.trans (hb3.mono HB.out.size)⟩
  · have hm : ¬ (24 : Int) < ((min (depE d e) 25 : Nat) : Int) := by omega
    rw [if_neg hd]
    unfold resV exV at *
    generalize ((min (depE d e) 25 : Nat) : Int) = q at *
    generalize kndE zs d e = P at *
    clear hd
    go_enter Try.func49, Try.ntmps49
    go_wp2_with fail
    with_reducible refine HD.out.mono ?_
    rintro e w3 ⟨rfl, hb3⟩
    have o3 := HO.out.below hb3 HO.out.lt
    have x0 := o3.cell 0
    have x1 := o3.cell 1
    have x2 := o3.cell 2
    have x3 := o3.cell 3
    have x4 := o3.cell 4
    have x5 := o3.cell 5
    have x6 := o3.cell 6
    have HB3 := Lib.hid (HB.out.trans (hb3.mono HB.out.size))
    have hk := HK.out w3 HB3.out
    have HK2 := Lib.hid hk
    clear hb3 o3 hk HK
    go_wp2_with fail
    with_reducible refine HK2.out.mono ?_
    rintro e w4 ⟨rfl, hb4⟩
    go_wp2
    go_ret2
    exact ⟨rfl, HB3.out.trans (hb4.mono HB3.out.size)⟩
end Go.Proofs.Yteihjneeiojgaaa
