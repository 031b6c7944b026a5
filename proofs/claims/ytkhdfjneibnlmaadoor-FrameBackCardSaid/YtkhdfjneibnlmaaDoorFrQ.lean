/-
  Scan of the program and of the reference: which frames it finds. Conditions: lengths; the table lies as the rows say.
-/
import Derived.Test.YtkhdfjneibnlmaaDoorFrP
import Derived.Test.YtkhdfjneibnlmaaDoorFrO
import Derived.WalkKit
import Derived.WalkSpells
import Derived.WalkLawsBesides
import Derived.Deep.QuietTactic
import Derived.BigQuiet
import Derived.Handy
import Derived.Lib.Hide
namespace Go.Proofs.YtkhdfjneibnlmaaDoor
open Go.RowKit

set_option maxRecDepth 100000 in
set_option maxHeartbeats 6400000 in
theorem pScan_any (v : Value) (l : List UInt8) (w : World) (L : Nat) (henv : Env w) (hv : RdB w L w.heap.size v l) (hl : l.length ≤ 1000000) :
    Calls Tryd.prog 19 #[v] w (RetS w (scanF l)) := by
  have hv0 := hv
  obtain ⟨A, c, rfl, _⟩ := hv
  have HV := Lib.hid hv0
  clear hv0
  go_enter Tryd.func19, Tryd.ntmps19
  go_wp2
  go_loopw [4,5] (fun vb i wr => ∃ (k P : Nat) (ms : List (List UInt8)), i = .int .i64 P ∧ Hid (Sc l k ms P) ∧ Hid (RowS wr w.heap.size vb ms) ∧ Below w.heap.size w wr) (fun _ i _ => l.length - (intOf i).toNat)
  case atStart => exact ⟨0, 0, [], rfl, Lib.hid (sc_zero l), Lib.hid (RowS.nil _ _), Below.refl _ _⟩
  case round =>
    obtain ⟨k, P, ms, rfl, HS, HR, hbr⟩ := hrel
    have hbz := hbr.size
    have hN := pNext_any _ l (P : Int) wr L (henv.step hbr) (HV.out.step hbr (Nat.le_refl _))
    have HN := Lib.hid hN
    clear hN
    by_cases h0 : (nextF l (P : Int)).1 = 0
    · have HS2 := Lib.hid (sc_succ HS.out h0)
      have hok := nextF_ok h0
      have hPl : (nextF l (P : Int)).2.2 ≤ l.length := by omega
      have hPm : P < (nextF l (P : Int)).2.2 := by omega
      have hml : ms.length ≤ 1000000 := by obtain ⟨_, h2, h3, h4⟩ := HS.out; omega
      have HML := Lib.hid hml
      clear hok hml
      generalize nextF l (P : Int) = X at *
      obtain ⟨e0, m, n⟩ := X
      dsimp only at h0 HS2 hPl hPm HN
      subst h0
      go_wp2_with fail
      with_reducible refine HN.out.mono ?_
      clear HN
      rintro e w1 ⟨u, rfl, hu, hb1⟩
      dsimp only at hu
      obtain ⟨A2, c2, hu2⟩ : ∃ A2 c2, u = .slice A2 m.length c2 := by obtain ⟨A2, c2, h, _⟩ := hu; exact ⟨A2, c2, h⟩
      subst hu2
      have B1 := hbr.trans (hb1.mono hbz)
      have z1 := B1.size
      have hb1z := hb1.size
      have HR1 := Lib.hid (HR.out.step hb1)
      have hfa : ∀ g, _ = some g → Fa g (.slice A2 m.length c2) := fun g hg => fa_new hu (HR.out.lt hg)
      have HFA := Lib.hid hfa
      have b2 := (Below.refl w1.heap.size w1).alloc (Nat.le_refl _) (.cells #[.slice A2 m.length c2] 22)
      have z2 := b2.size
      have HU := Lib.hid ((hu.more (Nat.le_refl _) (Nat.zero_le _)).step b2 (Nat.le_refl _))
      have HR2 := Lib.hid (HR1.out.step b2)
      have hcu := (Own.new w1 22 #[.slice A2 m.length c2]).cell 0
      have HCU := Lib.hid (show (w1.alloc (.cells #[.slice A2 m.length c2] 22)).cell? ⟨w1.heap.size, 0, none⟩ = some (.slice A2 m.length c2) from hcu)
      clear hfa hu hcu HR HR1
      go_wp2_with (at_builtin; refine append_s _ rfl _ _ rfl w.heap.size _ ms rfl HR2.out w1.heap.size 1 _ m rfl HCU.out HU.out HFA.out HML.out (Nat.le_trans z1 z2) ?_; intro v3 w3 hR3 hb3)
      have B3 := B1.trans ((b2.mono z1).trans hb3)
      go_round
      case rel => exact ⟨k + 1, n, ms ++ [m], rfl, HS2, Lib.hid hR3, B3⟩
      case measure => simp [intOf]; omega
    · have HE := Lib.hid (sc_end HS.out h0)
      generalize nextF l (P : Int) = X at *
      obtain ⟨e0, m, n⟩ := X
      dsimp only at h0 HN
      have h0i : ¬ (e0 : Int) = 0 := by omega
      go_wp2_with fail
      with_reducible refine HN.out.mono ?_
      clear HN
      rintro e w1 ⟨u, rfl, hu, hb1⟩
      have B1 := hbr.trans (hb1.mono hbz)
      have HR1 := Lib.hid (HR.out.step hb1)
      clear hu HR
      go_wp2_with fail
      go_ret2
      rw [HE.out]
      exact ⟨_, rfl, HR1.out, B1⟩
set_option maxRecDepth 100000 in
set_option maxHeartbeats 6400000 in
theorem rScan_any (v : Value) (l : List UInt8) (w : World) (L : Nat) (hv : RdB w L w.heap.size v l) (hl : l.length ≤ 1000000) :
    Calls Tryd.prog 20 #[v] w (RetS w (scanF l)) := by
  have hv0 := hv
  obtain ⟨A, c, rfl, _⟩ := hv
  have HV := Lib.hid hv0
  clear hv0
  go_enter Tryd.func20, Tryd.ntmps20
  go_wp2
  go_loopw [4,5] (fun vb i wr => ∃ (k P : Nat) (ms : List (List UInt8)), i = .int .i64 P ∧ Hid (Sc l k ms P) ∧ Hid (RowS wr w.heap.size vb ms) ∧ Below w.heap.size w wr) (fun _ i _ => l.length - (intOf i).toNat)
  case atStart => exact ⟨0, 0, [], rfl, Lib.hid (sc_zero l), Lib.hid (RowS.nil _ _), Below.refl _ _⟩
  case round =>
    obtain ⟨k, P, ms, rfl, HS, HR, hbr⟩ := hrel
    have hbz := hbr.size
    have hN := rNext_any _ l (P : Int) wr L (HV.out.step hbr (Nat.le_refl _))
    have HN := Lib.hid hN
    clear hN
    by_cases h0 : (nextF l (P : Int)).1 = 0
    · have HS2 := Lib.hid (sc_succ HS.out h0)
      have hok := nextF_ok h0
      have hPl : (nextF l (P : Int)).2.2 ≤ l.length := by omega
      have hPm : P < (nextF l (P : Int)).2.2 := by omega
      have hml : ms.length ≤ 1000000 := by obtain ⟨_, h2, h3, h4⟩ := HS.out; omega
      have HML := Lib.hid hml
      clear hok hml
      generalize nextF l (P : Int) = X at *
      obtain ⟨e0, m, n⟩ := X
      dsimp only at h0 HS2 hPl hPm HN
      subst h0
      go_wp2_with fail
      with_reducible refine HN.out.mono ?_
      clear HN
      rintro e w1 ⟨u, rfl, hu, hb1⟩
      dsimp only at hu
      obtain ⟨A2, c2, hu2⟩ : ∃ A2 c2, u = .slice A2 m.length c2 := by obtain ⟨A2, c2, h, _⟩ := hu; exact ⟨A2, c2, h⟩
      subst hu2
      have B1 := hbr.trans (hb1.mono hbz)
      have z1 := B1.size
      have hb1z := hb1.size
      have HR1 := Lib.hid (HR.out.step hb1)
      have hfa : ∀ g, _ = some g → Fa g (.slice A2 m.length c2) := fun g hg => fa_new hu (HR.out.lt hg)
      have HFA := Lib.hid hfa
      have b2 := (Below.refl w1.heap.size w1).alloc (Nat.le_refl _) (.cells #[.slice A2 m.length c2] 22)
      have z2 := b2.size
      have HU := Lib.hid ((hu.more (Nat.le_refl _) (Nat.zero_le _)).step b2 (Nat.le_refl _))
      have HR2 := Lib.hid (HR1.out.step b2)
      have hcu := (Own.new w1 22 #[.slice A2 m.length c2]).cell 0
      have HCU := Lib.hid (show (w1.alloc (.cells #[.slice A2 m.length c2] 22)).cell? ⟨w1.heap.size, 0, none⟩ = some (.slice A2 m.length c2) from hcu)
      clear hfa hu hcu HR HR1
      go_wp2_with (at_builtin; refine append_s _ rfl _ _ rfl w.heap.size _ ms rfl HR2.out w1.heap.size 1 _ m rfl HCU.out HU.out HFA.out HML.out (Nat.le_trans z1 z2) ?_; intro v3 w3 hR3 hb3)
      have B3 := B1.trans ((b2.mono z1).trans hb3)
      go_round
      case rel => exact ⟨k + 1, n, ms ++ [m], rfl, HS2, Lib.hid hR3, B3⟩
      case measure => simp [intOf]; omega
    · have HE := Lib.hid (sc_end HS.out h0)
      generalize nextF l (P : Int) = X at *
      obtain ⟨e0, m, n⟩ := X
      dsimp only at h0 HN
      have h0i : ¬ (e0 : Int) = 0 := by omega
      go_wp2_with fail
      with_reducible refine HN.out.mono ?_
      clear HN
      rintro e w1 ⟨u, rfl, hu, hb1⟩
      have B1 := hbr.trans (hb1.mono hbz)
      have HR1 := Lib.hid (HR.out.step hb1)
      clear hu HR
      go_wp2_with fail
      go_ret2
      rw [HE.out]
      exact ⟨_, rfl, HR1.out, B1⟩
end Go.Proofs.YtkhdfjneibnlmaaDoor
