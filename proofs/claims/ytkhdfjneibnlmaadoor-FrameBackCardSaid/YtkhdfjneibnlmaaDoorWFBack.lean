/-
  The walk of FrameBack. Conditions: the table lies as the rows say; lengths.
-/
import Derived.Test.YtkhdfjneibnlmaaDoorFrU
import Derived.Test.YtkhdfjneibnlmaaDoorWFScan
import Derived.Outline
import Derived.WalkKit
import Derived.WalkSpells
import Derived.WalkLawsBesides
import Derived.Deep.QuietTactic
import Derived.BigQuiet
import Derived.Handy
import Derived.Lib.Hide
namespace Go.Proofs.YtkhdfjneibnlmaaDoor
open Go.RowKit

theorem encs_len : ∀ ms : List (List UInt8), (encs ms).length = 8 * ms.length + (ms.map List.length).sum := by
  intro ms
  induction ms with
  | nil => rfl
  | cons m ms ih => rw [encs_cons, List.length_append, enc_len, ih]; simp; omega
theorem own_rd {w : World} {base n : Nat} {v : Value} {xs : List Value} (h : w.ownsRow base 3 1 v n xs) : ∃ A c, v = .slice A n c ∧ ∀ (i : Nat) x, xs[i]? = some x → ∃ ad : Addr, A = some ad ∧ w.cell? (ad.add i) = some x := by
  rcases h.2 with ⟨rfl, h0⟩ | ⟨g, cap, cur, rfl, hb, hh, hn, hc, hs, ht⟩
  · subst h0
    refine ⟨none, 0, rfl, fun i x hx => ?_⟩
    have h1 := h.1
    have h2 : xs = [] := List.eq_nil_of_length_eq_zero (by omega)
    subst h2
    simp at hx
  · refine ⟨_, cap, rfl, fun i x hx => ⟨_, rfl, ?_⟩⟩
    have hi : i < xs.length := (List.getElem?_eq_some_iff.1 hx).1
    have h1 := h.1
    rw [show (⟨g, 0, none⟩ : Addr).add i = ⟨g, i, none⟩ by unfold Addr.add; split <;> simp_all, cell_of_row w g i cur _ _ hh, ← hx, ← ht, ← Array.getElem?_toList, List.getElem?_take, if_pos (by omega)]
theorem rdS_take {w : World} {ms : List (List UInt8)} {A : Option Addr} {n c : Nat} (h : RdS w 0 w.heap.size (.slice A n c) ms) (j c' : Nat) (hj : j ≤ ms.length) : RdS w 0 w.heap.size (.slice A j c') (ms.take j) := by
  obtain ⟨A', c2, hv, hl, hx⟩ := h
  injection hv with e1 e2 e3
  subst e1
  have hlen : (ms.take j).length = j := by rw [List.length_take]; omega
  refine ⟨A, c', by rw [hlen], by omega, fun k p hk => ?_⟩
  have hkj : k < j := by have := (List.getElem?_eq_some_iff.1 hk).1; omega
  rw [List.getElem?_take, if_pos hkj] at hk
  exact hx k p hk
/-- What the loop over the offsets has counted: c whole frames. -/
def Cnt (ms : List (List UInt8)) (K i c : Nat) : Prop := c ≤ i ∧ (encs (ms.take c)).length ≤ K ∧ (c = i ∨ K < (encs (ms.take (c + 1))).length)
theorem cnt_yes {ms : List (List UInt8)} {K i c : Nat} (h : Cnt ms K i c) (he : (encs (ms.take (i + 1))).length ≤ K) : c = i := by
  rcases h.2.2 with h1 | h1
  · exact h1
  · have := encs_mono ms (c + 1) (i + 1) (by have := h.1; omega)
    omega
theorem cnt_no {ms : List (List UInt8)} {K i c : Nat} (h : Cnt ms K i c) (he : ¬ (encs (ms.take (i + 1))).length ≤ K) : Cnt ms K (i + 1) c := by
  refine ⟨by have := h.1; omega, h.2.1, .inr ?_⟩
  rcases h.2.2 with h1 | h1
  · subst h1; omega
  · exact h1
set_option maxRecDepth 100000 in
set_option maxHeartbeats 12800000 in
theorem law_back (v : Value) (ms : List (List UInt8)) (cut : Int) (w : World) (henv : Env w) (hv : RdZ w v ms) (hl : ms.length ≤ 1099511627776000) (hml : ∀ m ∈ ms, m.length ≤ 1099511627776000) :
    Calls Tryd.prog 7 #[v, .int .i64 cut] w fun e w' => e = .returned (.bool true) ∧ Below w.heap.size w w' := by
  have hlg := large_any v ms w 0 w.heap.size hv.rd hl hml
  have hv0 := hv
  by_cases h5 : totB ms > 20000
  · rw [decide_eq_true h5] at hlg
    obtain ⟨A, c, rfl, _⟩ := hv
    go_enter Tryd.func7, Tryd.ntmps7
    go_wp2_with fail
    with_reducible refine hlg.mono ?_
    rintro e w1 ⟨rfl, rfl⟩
    have hwk := works_any _ henv
    go_wp2_with fail
    with_reducible refine hwk.mono ?_
    rintro e w2 ⟨rfl, hb1⟩
    go_wp2_with fail
    go_ret
    exact ⟨rfl, hb1⟩
  · rw [decide_eq_false h5] at hlg
    have hE : (encs ms).length ≤ 1000000 := by rw [encs_len]; unfold totB at h5; omega
    have hm : ∀ m ∈ ms, m.length ≤ 1048576 := by
      intro m hm
      obtain ⟨i, hi, rfl⟩ := List.mem_iff_getElem.1 hm
      have := tot_elem ms i hi
      omega
    have hn : ms.length ≤ 1000000 := by unfold totB at h5; omega
    have hap := appended_any v ms w henv hv hm hn hE
    have hall := scan_all ms hm
    have HSC := Lib.hid (fun K c => scan_cut ms hm K c)
    have HZ := Lib.hid hv0
    have HLG := Lib.hid hlg
    have HAP := Lib.hid hap
    have HALL := Lib.hid hall
    obtain ⟨A, c, rfl, ⟨hl63, _⟩, _⟩ := hv
    have hlc : True := trivial
    clear hlg hap hall hm hml hv0 h5
    go_enter Tryd.func7, Tryd.ntmps7
    go_wp2_with fail
    with_reducible refine HLG.out.mono ?_
    rintro e w0 ⟨rfl, rfl⟩
    go_wp2_with fail
    with_reducible refine HAP.out.mono ?_
    rintro e w1 ⟨vb, ve, rfl, hrb, hoe, B1⟩
    have z1 := B1.size
    obtain ⟨A3, c3, hvb, hb63, hbc, _⟩ := hrb
    subst hvb
    have hrb : RdB w1 0 w1.heap.size (.slice A3 (encs ms).length c3) (encs ms) := ⟨A3, c3, rfl, hb63, hbc, by assumption⟩
    have HRB := Lib.hid hrb
    have hsc := pScan_any _ (encs ms) w1 0 (henv.step B1) hrb (by omega)
    rw [HALL.out] at hsc
    have HS1 := Lib.hid hsc
    have HOE := Lib.hid hoe
    clear hsc hrb hoe HAP HLG
    go_wp2_with fail
    with_reducible refine HS1.out.mono ?_
    clear HS1
    rintro e w2 ⟨vx, rfl, hrx, hb2⟩
    dsimp only at hrx
    have B2 := B1.trans (hb2.mono z1)
    have z2 := B2.size
    have HZ2 := Lib.hid (HZ.out.step B2)
    have hli := lists_any vx _ ms w2 0 0 (RdS.of_row hrx (by omega)) HZ2.out.rd
    have HLI := Lib.hid hli
    clear hli hrx
    go_wp2_with fail
    with_reducible refine HLI.out.mono ?_
    clear HLI
    rintro e w3 ⟨rfl, hb3⟩
    have B3 := B2.trans (hb3.mono z2)
    have z3 := B3.size
    have b13 := hb2.trans (hb3.mono hb2.size)
    obtain ⟨K, hK, hKl⟩ : ∃ K : Nat, max 0 (min cut ((encs ms).length : Int)) = (K : Int) ∧ K ≤ (encs ms).length := ⟨(max 0 (min cut ((encs ms).length : Int))).toNat, by omega, by omega⟩
    have HOE3 := Lib.hid (own_below HOE.out b13)
    obtain ⟨A4, c4, hve, hce⟩ := own_rd HOE3.out
    subst hve
    have HCE := Lib.hid hce
    have HRB3 := Lib.hid (HRB.out.step b13 (Nat.le_refl _))
    clear hce HRB
    generalize hEL : (encs ms).length = EL at *
    have HEL := Lib.hid hEL
    clear hEL
    go_wp2_with fail
    go_loopw [11, 12, 52] (fun a b i wr => ∃ k cc : Nat, k ≤ ms.length ∧ i = .int .i64 k ∧ a = .int .i64 cc ∧ b = .int .i64 ((encs (ms.take cc)).length : Nat) ∧ Hid (Cnt ms K k cc) ∧ w3 = wr) (fun _ _ i _ => ms.length - (intOf i).toNat)
    case atStart => exact ⟨0, 0, Nat.zero_le _, rfl, rfl, rfl, Lib.hid ⟨Nat.le_refl _, Nat.zero_le _, .inl rfl⟩, rfl⟩
    case round =>
      obtain ⟨k, cc, hk, rfl, rfl, rfl, HC, rfl⟩ := hrel
      by_cases hlt : k < ms.length
      · have hki : (k : Int) < ms.length := by omega
        obtain ⟨ad, rfl, hce⟩ := HCE.out k (.int .i64 ((encs (ms.take (k + 1))).length : Nat)) (by unfold endsV; rw [List.getElem?_map, List.getElem?_range hlt]; rfl)
        by_cases hle : (encs (ms.take (k + 1))).length ≤ K
        · have hcc := cnt_yes HC.out hle
          subst hcc
          have HC2 := Lib.hid (show Cnt ms K (cc + 1) (cc + 1) from ⟨Nat.le_refl _, hle, .inl rfl⟩)
          generalize (encs (ms.take cc)).length = x0 at *
          generalize hx1 : (encs (ms.take (cc + 1))).length = x1 at *
          have HX1 := Lib.hid hx1
          have hlei : (x1 : Int) ≤ K := by omega
          clear hx1
          go_wp2
          go_round
          case rel => exact ⟨cc + 1, cc + 1, by omega, by go_num, by go_num, by rw [HX1.out], HC2, by first | rfl | trivial⟩
          case measure => simp [intOf]; omega
        · have HC2 := Lib.hid (cnt_no HC.out hle)
          generalize (encs (ms.take (k + 1))).length = x1 at *
          have hlei : ¬ (x1 : Int) ≤ K := by omega
          go_wp2
          go_round
          case rel => exact ⟨k + 1, cc, by omega, by go_num, rfl, rfl, HC2, by first | rfl | trivial⟩
          case measure => simp [intOf]; omega
      · have hki : ¬ (k : Int) < ms.length := by omega
        have hkk : k = ms.length := by omega
        subst hkk
        have hcl : cc ≤ ms.length := HC.out.1
        have hsc2 := HSC.out K cc hKl hcl HC.out.2.1 HC.out.2.2
        have hrk := rdB_take HRB3.out K c3 (by rw [HEL.out]; exact hKl) (by omega)
        have hp2 := pScan_any _ ((encs ms).take K) w3 0 (henv.step B3) hrk (by rw [List.length_take]; omega)
        rw [hsc2] at hp2
        have HP2 := Lib.hid hp2
        have hcA : cc ≤ c := by
          obtain ⟨A', c', hv, ⟨_, hmc⟩, _⟩ := HZ.out
          injection hv with _ _ e3
          omega
        clear hsc2 hrk hp2
        generalize hx0 : (encs (ms.take cc)).length = x0 at *
        have HXE := Lib.hid hx0
        clear hx0
        go_wp2_with fail
        with_reducible refine HP2.out.mono ?_
        clear HP2
        rintro e w5 ⟨vy, rfl, hry, hb5⟩
        dsimp only at hry
        have B5 := B3.trans (hb5.mono z3)
        have z5 := B5.size
        have hti := rdS_take (HZ.out.step B5).rd cc c hcl
        have hli := lists_any vy _ (ms.take cc) w5 0 0 (RdS.of_row hry (by rw [List.length_take]; omega)) hti
        have HLI := Lib.hid hli
        clear hli hry hti
        go_wp2_with fail
        with_reducible refine HLI.out.mono ?_
        clear HLI
        rintro e w6 ⟨rfl, hb6⟩
        have B6 := B5.trans (hb6.mono z5)
        have hwk := works_any w6 (henv.step B6)
        go_wp2_with fail
        with_reducible refine hwk.mono ?_
        rintro e w7 ⟨rfl, hb7⟩
        go_wp2_with fail
        go_ret
        exact ⟨rfl, B6.trans (hb7.mono B6.size)⟩
end Go.Proofs.YtkhdfjneibnlmaaDoor
