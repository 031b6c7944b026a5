import Derived.Test.YthnmcpfmljibeaaPV
import Derived.Test.YthnmcpfmljibeaaQJb
import Derived.Laws.OwnMore
import Derived.WalkKit
import Derived.WalkSpells
import Derived.WalkLawsBesides
import Derived.Deep.QuietTactic
import Derived.BigQuiet
import Derived.Handy
import Derived.Lib.Hide
/-
  Conjuncts, by the reference. Conditions: lengths, a bounded depth.
-/
namespace Go.Proofs.Ythnmcpfmljibeaa
set_option maxRecDepth 100000
set_option linter.unusedVariables false
set_option linter.unusedSimpArgs false
open Go.RowKit

theorem conjE_ne {w : World} {L B : Nat} : ∀ {d : Nat} {u : Value} {e : Ex}, RdE w L B d u e.args → 0 < (conjE d e).length
  | 0, _, _, h => h.elim
  | d + 1, u, e, h => by
    by_cases hc : e.op = 5 ∧ wfX e = true
    · rw [conjE_and d e hc]
      have hw := hc.2
      unfold wfX wfE at hw
      rw [hc.1] at hw
      simp only [Bool.and_eq_true, decide_eq_true_eq] at hw
      have h2 := hw.1.1.2
      unfold opLo at h2
      simp at h2
      obtain ⟨A, c, _, _, hk⟩ := h
      obtain ⟨ad, x, _, _, _, _, hr⟩ := hk 0 _ (List.getElem?_eq_getElem (show 0 < e.args.length by omega))
      have h3 := conjE_ne hr
      have h4 : e.args = e.args[0] :: e.args.drop 1 := by rw [List.getElem_cons_drop]; rfl
      rw [h4, List.flatMap_cons, List.length_append]
      omega
    · rw [conjE_leaf d e hc]
      simp
/-- The conjuncts in a row of the call's own, their arguments where they were. -/
def RetJ (w0 : World) (B L D : Nat) (w : World) (zs : List Ex) (e' : Ending) (w' : World) : Prop :=
  ∃ (ad : Addr) (c : Nat) (ps : List ExU), e' = .returned (.slice (some ad) ps.length c) ∧ ps.map (·.1) = zs ∧ (∀ p ∈ ps, RdE w0 L B D p.2 p.1.args) ∧ w.heap.size ≤ ad.block ∧ (∀ j u, (flatE ps)[j]? = some u → w'.cell? (ad.add j) = some u) ∧ Below w.heap.size w w'
theorem rdE_sl {w : World} {L B d : Nat} {u : Value} {es : List Ex} (h : RdE w L B d u es) : ∃ A4 n4 c4, u = .slice A4 n4 c4 := by
  obtain ⟨A, c, h, _⟩ := h.slice
  exact ⟨_, _, _, h⟩
set_option maxRecDepth 100000 in
set_option maxHeartbeats 6400000 in
theorem rConj_any (w0 : World) (B L D : Nat) (hB : B ≤ w0.heap.size) : ∀ (d : Nat), d ≤ D → ∀ (e : Ex) (u : Value) (w : World), Below B w0 w → RdE w0 L B d u e.args → (conjE d e).length ≤ 1099511627776 →
    Calls Try.prog 8 #[exV e u] w (RetJ w0 B L D w (conjE d e))
  | 0, _, _, _, _, _, h, _ => h.elim
  | d + 1, hD, e, u, w, hbw, h, hlen => by
    have IH := Lib.hid (rConj_any w0 B L D hB d (by omega))
    have hu := h
    obtain ⟨A, c, rfl, hl, hc⟩ := h
    obtain ⟨op, n, ⟨k1, k2, s⟩, nm, es⟩ := e
    dsimp only at hl hc hu
    have b1 := bel_mk w (.cells #[.int .i64 op, .int .i64 n, .int .i64 k1, .int .i64 k2, .string s, .string nm, .slice A es.length c] 26)
    have HC := Lib.hid hc
    have HE1 := Lib.hid (Own.new w 26 #[.int .i64 op, .int .i64 n, .int .i64 k1, .int .i64 k2, .string s, .string nm, .slice A es.length c])
    have HB1 := Lib.hid b1
    have HBW := Lib.hid hbw
    clear hc b1 hbw
    by_cases hop : op = 5
    · subst hop
      have HW := Lib.hid (fun W => rFormed_any 5 n k1 k2 s nm A es.length c W hl)
      cases hwf : wfE 5 n k1 k2 s nm es.length
      · rw [hwf] at HW
        rw [conjE_leaf d ⟨5, n, (k1, k2, s), nm, es⟩ (fun h => by have h2 := h.2; unfold wfX at h2; rw [hwf] at h2; cases h2)]
        unfold exV
        dsimp only
        have e0 := HE1.out.cell 0
        have e1 := HE1.out.cell 1
        have e2 := HE1.out.cell 2
        have e3 := HE1.out.cell 3
        have e4 := HE1.out.cell 4
        have e5 := HE1.out.cell 5
        have e6 := HE1.out.cell 6
        clear IH HC
        go_enter Try.func8, Try.ntmps8
        go_wp2_with fail
        with_reducible refine (HW.out _).mono ?_
        rintro e' w2 ⟨rfl, hb2⟩
        have HE2 := Lib.hid (HE1.out.below hb2 HE1.out.lt)
        have HB2 := Lib.hid (HB1.out.trans (hb2.mono HB1.out.size))
        clear e0 e1 e2 e3 e4 e5 e6 hb2
        have e0 := HE2.out.cell 0
        have e1 := HE2.out.cell 1
        have e2 := HE2.out.cell 2
        have e3 := HE2.out.cell 3
        have e4 := HE2.out.cell 4
        have e5 := HE2.out.cell 5
        have e6 := HE2.out.cell 6
        go_wp2
        go_ret
        exact ⟨⟨w2.heap.size, 0, none⟩, 1, [(⟨5, n, (k1, k2, s), nm, es⟩, .slice A es.length c)], rfl, rfl, fun p hp => by rw [List.mem_singleton.1 hp]; exact hu.up hD, HB2.out.size, fun j u hj => lit_ex w2 (⟨5, n, (k1, k2, s), nm, es⟩, .slice A es.length c) j u (by simpa [flatE] using hj), HB2.out.trans ((bel_mk w2 _).mono HB2.out.size)⟩
      · rw [hwf] at HW
        have hcj := conjE_and d ⟨5, n, (k1, k2, s), nm, es⟩ ⟨rfl, hwf⟩
        rw [hcj] at hlen ⊢
        dsimp only at hlen ⊢
        have HLEN := Lib.hid hlen
        have HNZ := Lib.hid (show 0 < (es.flatMap (conjE d)).length from by have h0 := conjE_ne (e := ⟨5, n, (k1, k2, s), nm, es⟩) hu; rwa [hcj] at h0)
        unfold exV
        dsimp only
        have e0 := HE1.out.cell 0
        have e1 := HE1.out.cell 1
        have e2 := HE1.out.cell 2
        have e3 := HE1.out.cell 3
        have e4 := HE1.out.cell 4
        have e5 := HE1.out.cell 5
        have e6 := HE1.out.cell 6
        clear hcj hu hlen
        go_enter Try.func8, Try.ntmps8
        go_wp2_with fail
        with_reducible refine (HW.out _).mono ?_
        rintro e' w2 ⟨rfl, hb2⟩
        have HE2 := Lib.hid ((HE1.out.below hb2 HE1.out.lt).alloc (.cells #[] 26))
        have HB2 := Lib.hid ((HB1.out.trans (hb2.mono HB1.out.size)).trans ((bel_mk w2 (.cells #[] 26)).mono (by have := HB1.out.size; have := hb2.size; omega)))
        have hz2 : w.heap.size + 1 ≤ w2.heap.size := by have h1 := hb2.size; simp only [World.size_alloc] at h1; exact h1
        have HR2 := Lib.hid (show (w2.alloc (.cells #[] 26)).ownsRow (w.heap.size + 1) 26 7 (.slice (some ⟨w2.heap.size, 0, none⟩) 0 0) ([] : List ExU).length (flatE []) from World.ownsRow_lit w2 #[] 0 hz2 (by decide) rfl)
        clear e0 e1 e2 e3 e4 e5 e6 HE1 HW hb2 HB1
        go_wp2_with fail
        go_loopw [3, 4] (fun vb i wr => ∃ k : Nat, k ≤ es.length ∧ i = .int .i64 k ∧ Hid (∃ ps : List ExU, ps.map (·.1) = (es.take k).flatMap (conjE d) ∧ (∀ p ∈ ps, RdE w0 L B D p.2 p.1.args) ∧ wr.ownsRow (w.heap.size + 1) 26 7 vb ps.length (flatE ps)) ∧ Hid (Own wr w.heap.size 26 #[.int .i64 5, .int .i64 n, .int .i64 k1, .int .i64 k2, .string s, .string nm, .slice A es.length c]) ∧ Below w.heap.size w wr) (fun _ i _ => es.length - (intOf i).toNat)
        case atStart => exact ⟨0, Nat.zero_le _, rfl, Lib.hid ⟨[], rfl, fun p hp => by simp at hp, HR2.out⟩, HE2, HB2.out⟩
        case round =>
          clear HR2 HE2 HB2
          obtain ⟨k, hk, rfl, HQ, HE, hbr⟩ := hrel
          have hbz := hbr.size
          obtain ⟨ps, hpm, hpk, hrow⟩ := HQ.out
          obtain ⟨Av, cv, rfl⟩ := ownX_shape hrow
          have e6 := HE.out.cell 6
          have hel := HE.out.lt
          by_cases hlt : k < es.length
          · have hki : (k : Int) < es.length := by omega
            obtain ⟨ad, x, rfl, _, hab, hxc, hxr⟩ := HC.out k _ (List.getElem?_eq_getElem hlt)
            have htk := flat_takeX (conjE d) es k _ (List.getElem?_eq_getElem hlt)
            have hdk := flat_dropX (conjE d) es (k + 1)
            have hlk : ((es.take k).flatMap (conjE d)).length + (conjE d es[k]).length ≤ 1099511627776 := by
              have h2 := HLEN.out
              rw [hdk, htk] at h2
              simp only [List.length_append] at h2
              omega
            have hpl : ps.length = ((es.take k).flatMap (conjE d)).length := by rw [← hpm, List.length_map]
            rw [← hpm] at htk
            have hne := conjE_ne hxr
            generalize es[k] = y at *
            obtain ⟨A3, c3, rfl, hl3⟩ := hxr.slice
            obtain ⟨x0, x1, x2, x3, x4, x5, x6⟩ := hxc.below (HBW.out.trans (hbr.mono (Nat.le_trans hB HBW.out.size))) (by rw [add_blk]; exact hab)
            have hcall := IH.out y (.slice A3 y.args.length c3) wr (HBW.out.trans (hbr.mono (Nat.le_trans hB HBW.out.size))) hxr (by omega)
            unfold exV at hcall
            have HCL := Lib.hid hcall
            have HTK := Lib.hid htk
            have HRow := Lib.hid hrow
            have HPK := Lib.hid hpk
            have HPM := Lib.hid hpm
            have HLK := Lib.hid hlk
            have HPL := Lib.hid hpl
            have HNE := Lib.hid hne
            clear hxc hxr htk hdk hcall hrow hpk hpm HQ hlk hpl hne
            go_wp2_with fail
            with_reducible refine HCL.out.mono ?_
            rintro e' w4 ⟨ad4, c4, ps4, rfl, hm4, hk4, hb4a, hc4, hb4⟩
            have HE4 := Lib.hid (HE.out.below hb4 HE.out.lt)
            have HB4 := Lib.hid (hbr.trans (hb4.mono hbz))
            have HR4 := Lib.hid (own_below HRow.out hb4)
            have HC4 := Lib.hid hc4
            have HK4 := Lib.hid hk4
            have HM4 := Lib.hid hm4
            have HP4 := Lib.hid (show ps4.length = (conjE d y).length from by rw [← hm4, List.length_map])
            have HGE := Lib.hid (ownX_ge HRow.out)
            have hz4 := hb4.size
            clear hb4 hc4 hk4 hm4 HE HCL x0 x1 x2 x3 x4 x5 x6 e6 hb4a
            go_wp2_with (at_builtin; refine append_exM _ rfl _ _ rfl (w.heap.size + 1) _ ps rfl HR4.out ad4 c4 ps4 (fun p hp => rdE_sl (HK4.out p hp)) rfl HC4.out (by have := HLK.out; have := HPL.out; have := HP4.out; omega) (by have := HP4.out; have := HNE.out; omega) (by omega) ?_; intro g5 cap5 w5 hr5 hg5 hv5; have HR5 := Lib.hid hr5; have HE5 := Lib.hid (HE4.out.grownX hg5 (fun b hb => by have := HGE.out b hb; omega)); have HB5 := Lib.hid (HB4.out.grown hg5 (by omega) (fun b hb => by have := HGE.out b hb; omega)); clear hr5 hg5 hv5)
            go_roundw
            case rel => exact ⟨k + 1, by omega, by go_num, Lib.hid ⟨ps ++ ps4, by rw [List.map_append, HM4.out, HTK.out], fun p hp => by rcases List.mem_append.1 hp with h | h; exact HPK.out p h; exact HK4.out p h, by have h := HR5.out; rw [List.length_append] at h ⊢; exact h⟩, HE5, HB5.out⟩
            case measure => simp [intOf]; omega
          · have hki : ¬ (k : Int) < es.length := by omega
            have HF := Lib.hid (show ps.map (·.1) = es.flatMap (conjE d) from by rw [hpm, List.take_of_length_le (by omega)])
            have HRow := Lib.hid hrow
            have HPK := Lib.hid hpk
            have HBR := Lib.hid hbr
            clear hrow hpm HQ hpk hbr
            go_wp2
            go_ret
            rcases HRow.out.2 with ⟨_, h2⟩ | ⟨g, cap, cur, hv, hb, hh, hn, hcm, hs, ht⟩
            · exfalso
              have h3 := HNZ.out
              rw [← HF.out, List.length_map] at h3
              omega
            · injection hv with v1 v2 v3
              subst v1 v3
              refine ⟨⟨g, 0, none⟩, _, ps, rfl, HF.out, HPK.out, by show w.heap.size ≤ g; omega, fun j u hj => ?_, HBR.out⟩
              rw [addX, cell_of_row wr g j cur _ _ hh, ← Array.getElem?_toList]
              rw [← ht, List.getElem?_take] at hj
              split at hj
              · exact hj
              · cases hj
    · rw [conjE_leaf d ⟨op, n, (k1, k2, s), nm, es⟩ (fun h => hop h.1)]
      have hop2 : (op == 5) = false := by rw [beq_eq_false_iff_ne]; exact hop
      unfold exV
      dsimp only
      have e0 := HE1.out.cell 0
      have e1 := HE1.out.cell 1
      have e2 := HE1.out.cell 2
      have e3 := HE1.out.cell 3
      have e4 := HE1.out.cell 4
      have e5 := HE1.out.cell 5
      have e6 := HE1.out.cell 6
      clear IH HC
      go_enter Try.func8, Try.ntmps8
      go_wp2
      go_ret
      exact ⟨⟨w.heap.size + 1, 0, none⟩, 1, [(⟨op, n, (k1, k2, s), nm, es⟩, .slice A es.length c)], rfl, rfl, fun p hp => by rw [List.mem_singleton.1 hp]; exact hu.up hD, by show w.heap.size ≤ w.heap.size + 1; omega, fun j u hj => by have h := lit_ex (w.alloc (.cells #[.int .i64 op, .int .i64 n, .int .i64 k1, .int .i64 k2, .string s, .string nm, .slice A es.length c] 26)) (⟨op, n, (k1, k2, s), nm, es⟩, .slice A es.length c) j u (by simpa [flatE] using hj); simpa only [World.size_alloc] using h, HB1.out.trans ((bel_mk _ _).mono HB1.out.size)⟩
end Go.Proofs.Ythnmcpfmljibeaa
