import Derived.Test.YthnmcpfmljibeaaQEB
import Derived.Test.YthnmcpfmljibeaaQEC
import Derived.Test.YthnmcpfmljibeaaQED
import Derived.WalkKit
import Derived.WalkSpells
import Derived.WalkLawsBesides
import Derived.Deep.QuietTactic
import Derived.BigQuiet
import Derived.Handy
import Derived.Lib.Hide
import Derived.Test.YthnmcpfmljibeaaQX
import Derived.Test.YthnmcpfmljibeaaMA
import Derived.Test.YthnmcpfmljibeaaME
import Derived.Test.YthnmcpfmljibeaaMC
import Derived.Deep.Slices
import Derived.Test.YthnmcpfmljibeaaQT
import Derived.Test.YthnmcpfmljibeaaQU
/-
  Eval and Truth of the program: the value of any expression. Conditions: lengths, values of rows are read.
-/
namespace Go.Proofs.Ythnmcpfmljibeaa
set_option maxRecDepth 100000
set_option linter.unusedVariables false
set_option linter.unusedSimpArgs false
open Go.RowKit

set_option maxRecDepth 100000 in
set_option maxHeartbeats 3200000 in
theorem ev_bad (op n k1 k2 : Int) (s nm : ByteArray) (u1 : Option Addr) (u2 u3 : Nat) (row : List Vl) (Ar : Option Addr) (cr : Nat) (w : World) (hwf : wfE op n k1 k2 s nm u2 = false) :
    Calls Try.prog 37 #[.agg #[.int .i64 op, .int .i64 n, .int .i64 k1, .int .i64 k2, .string s, .string nm, .slice u1 u2 u3], .slice Ar row.length cr] w fun e w' => e = .returned (valV nullP) ∧ Below w.heap.size w w' := by
  have HWF := Lib.hid (fun W => by have h := pWf_any op n k1 k2 s nm u1 u2 u3 W; rw [hwf] at h; exact h)
  have HN := Lib.hid (fun W => eNull W)
  have HZ0 := Lib.hid (show Own (((w.alloc (.cells #[.int .i64 op, .int .i64 n, .int .i64 k1, .int .i64 k2, .string s, .string nm, .slice u1 u2 u3] 26)).alloc (.cells #[.slice Ar row.length cr] 33)).alloc (.cells #[.int .i64 0, .int .i64 0, .string ⟨#[]⟩] 23)) (w.heap.size + 1 + 1) 23 #[.int .i64 0, .int .i64 0, .string ⟨#[]⟩] from own_three _ _)
  have HB0 := Lib.hid (show Below w.heap.size w (((w.alloc (.cells #[.int .i64 op, .int .i64 n, .int .i64 k1, .int .i64 k2, .string s, .string nm, .slice u1 u2 u3] 26)).alloc (.cells #[.slice Ar row.length cr] 33)).alloc (.cells #[.int .i64 0, .int .i64 0, .string ⟨#[]⟩] 23)) from ((bel_mk w _).trans ((bel_mk _ _).mono (by simp))).trans ((bel_mk _ _).mono (by simp; omega)))
  unfold valV nullP at *
  dsimp only at *
  go_enter Try.func37, Try.ntmps37
  go_wp2_with fail
  with_reducible refine (HWF.out _).mono ?_
  rintro e w1 ⟨rfl, hb1⟩
  have z1 := HZ0.out.below hb1 HZ0.out.lt
  have b1 := HB0.out.trans (hb1.mono HB0.out.size)
  clear hb1 HZ0 HB0 HWF
  go_wp2_with fail
  with_reducible refine (HN.out _).mono ?_
  rintro e w2 ⟨rfl, hb2⟩
  have z2 := z1.below hb2 z1.lt
  have b2 := b1.trans (hb2.mono b1.size)
  clear hb2
  have d0 := z2.cell 0; have e0 := z2.free 0; have d1 := z2.cell 1; have e1 := z2.free 1; have d2 := z2.cell 2; have e2 := z2.free 2; (try simp only [List.getElem?_toArray, List.getElem?_cons_zero, List.getElem?_cons_succ] at d0 d1 d2)
  go_wp2
  (try simp only [Exit.inBlock, Exit.then]); refine bodyPost_ret_by (results_cell_row1 (by rfl) _ _ (w.heap.size + 1 + 1) _ (by rfl) (load_val (((z2.store 0 _).store 1 _).store 2 _))) ?_ ?_; (focus rfl); refine ⟨rfl, ?_⟩
  (repeat' (first | (with_reducible exact Below.refl _ _) | (with_reducible assumption) | (with_reducible refine Below.alloc ?_ ?_ _) | (with_reducible refine Below.drew ?_) | (with_reducible refine Below.setCell ?_ ?_ _) | (with_reducible refine Below.trans ?_ (Below.mono (by assumption) ?_)) | go_size))
theorem knw_cases {op : Int} (h : knw op = true) : op = 1 ∨ op = 2 ∨ (op = 4 ∨ op = 5 ∨ op = 6) ∨ (op = 7 ∨ op = 8 ∨ op = 9 ∨ op = 10 ∨ op = 11 ∨ op = 12) ∨ (op = 13 ∨ op = 14 ∨ op = 15 ∨ op = 16 ∨ op = 17) ∨ op = 18 ∨ op = 19 ∨ op = 20 ∨ op = 21 ∨ op = 22 ∨ op = 23 ∨ op = 24 := by
  simp only [knw, Bool.or_eq_true, beq_iff_eq] at h
  omega
theorem wf_knw {op n k m : Int} {s nm : ByteArray} {l : Nat} (h : wfE op n k m s nm l = true) : knw op = true := by
  unfold wfE at h
  simp only [Bool.and_eq_true] at h
  exact h.1.1.1
/-- What an expression is worth. -/
theorem pEval_any (rv : Value) (row : List Vl) : ∀ (d : Nat) (e : Ex) (A : Option Addr) (c : Nat) (w : World) (L L2 : Nat), RdE w L w.heap.size d (.slice A e.args.length c) e.args → RdV w L2 w.heap.size rv row →
    Calls Try.prog 37 #[exV e (.slice A e.args.length c), rv] w fun e' w' => e' = .returned (valV (evE row d e)) ∧ Below w.heap.size w w'
  | 0, _, _, _, _, _, _, h, _ => h.elim
  | d + 1, e, A, c, w, L, L2, h, hR => by
    have IH := pEval_any rv row d
    obtain ⟨op, n, ⟨k1, k2, s⟩, nm, es⟩ := e
    unfold evE exV
    dsimp only at h ⊢
    obtain ⟨A', c', hv', hl, _⟩ := id h
    cases hwf : wfE op n k1 k2 s nm es.length
    · rw [if_neg (by simp)]
      obtain ⟨Ar, cr, rfl, _, _⟩ := hR
      exact ev_bad op n k1 k2 s nm A es.length c row Ar cr w hwf
    · rw [if_pos rfl]
      have hA : ∀ (W : World) (g h : Nat), Below w.heap.size w W → W.cell? ⟨g, 6, none⟩ = some (.slice A es.length c) → W.cell? ⟨h, 0, none⟩ = some rv → Args W (.pointer (some ⟨g, 0, none⟩)) (.pointer (some ⟨h, 0, none⟩)) (es.map (evE row d)) :=
        fun W g h' hW x6 xr => args_of row d es A c rv g h' W L L2 x6 xr (h.step hW (Nat.le_refl _)) (hR.step hW (Nat.le_refl _)) IH
      have hV : ∀ p ∈ es.map (evE row d), vldP p = true := fun p hp => by obtain ⟨a, _, rfl⟩ := List.mem_map.1 hp; exact vld_evE row d a
      have hk := knw_cases (wf_knw hwf)
      rw [← List.length_map (evE row d)] at hl hwf hA ⊢
      generalize es.map (evE row d) = l at *
      clear h hv' IH
      rcases hk with rfl | rfl | hk | hk | hk | rfl | rfl | rfl | rfl | rfl | rfl | rfl
      · exact ev_const n k1 k2 s nm rv row l A c w L2 hR hl hV hwf hA
      · exact ev_col n k1 k2 s nm rv row l A c w L2 hR hl hV hwf hA
      · have h := ev_log op n k1 k2 s nm rv row l A c w L2 hR hl hV hwf hA hk
        rwa [show opE op n (k1, k2, s) row l = ofP (logP op l) by unfold opE; rw [if_neg (by omega), if_neg (by omega), if_pos hk]]
      · rcases hk with rfl | rfl | rfl | rfl | rfl | rfl
        · exact ev_7 n k1 k2 s nm rv row l A c w L2 hR hl hV hwf hA
        · exact ev_8 n k1 k2 s nm rv row l A c w L2 hR hl hV hwf hA
        · exact ev_9 n k1 k2 s nm rv row l A c w L2 hR hl hV hwf hA
        · exact ev_10 n k1 k2 s nm rv row l A c w L2 hR hl hV hwf hA
        · exact ev_11 n k1 k2 s nm rv row l A c w L2 hR hl hV hwf hA
        · exact ev_12 n k1 k2 s nm rv row l A c w L2 hR hl hV hwf hA
      · rcases hk with rfl | rfl | rfl | rfl | rfl
        · exact ev_13 n k1 k2 s nm rv row l A c w L2 hR hl hV hwf hA
        · exact ev_14 n k1 k2 s nm rv row l A c w L2 hR hl hV hwf hA
        · exact ev_15 n k1 k2 s nm rv row l A c w L2 hR hl hV hwf hA
        · exact ev_16 n k1 k2 s nm rv row l A c w L2 hR hl hV hwf hA
        · exact ev_17 n k1 k2 s nm rv row l A c w L2 hR hl hV hwf hA
      · exact ev_neg n k1 k2 s nm rv row l A c w L2 hR hl hV hwf hA
      · exact ev_cat n k1 k2 s nm rv row l A c w L2 hR hl hV hwf hA
      · exact ev_len n k1 k2 s nm rv row l A c w L2 hR hl hV hwf hA
      · exact ev_null n k1 k2 s nm rv row l A c w L2 hR hl hV hwf hA
      · exact ev_if n k1 k2 s nm rv row l A c w L2 hR hl hV hwf hA
      · exact ev_fst n k1 k2 s nm rv row l A c w L2 hR hl hV hwf hA
      · exact ev_rel n k1 k2 s nm rv row l A c w L2 hR hl hV hwf hA
set_option maxRecDepth 100000 in
set_option maxHeartbeats 3200000 in
theorem pTruthE_any (rv : Value) (row : List Vl) (d : Nat) (e : Ex) (A : Option Addr) (c : Nat) (w : World) (L L2 : Nat) (h : RdE w L w.heap.size d (.slice A e.args.length c) e.args) (hR : RdV w L2 w.heap.size rv row) :
    Calls Try.prog 16 #[exV e (.slice A e.args.length c), rv] w fun e' w' => e' = .returned (.int .i64 (truP (evE row d e))) ∧ Below w.heap.size w w' := by
  have b1 := bel_mk w (.cells (exA e (.slice A e.args.length c)) 26)
  unfold exA at b1
  have hev := pEval_any rv row d e A c _ L L2 (h.step b1 (Nat.le_refl _)) (hR.step b1 (Nat.le_refl _))
  unfold exV at *
  have HT := Lib.hid (fun W => eTruth (evE row d e) W)
  generalize evE row d e = r at *
  have HV := Lib.hid hev
  have HB := Lib.hid b1
  clear hev b1 h hR
  go_enter Try.func16, Try.ntmps16
  go_wp2_with fail
  with_reducible refine HV.out.mono ?_
  rintro e w3 ⟨rfl, hb3⟩
  have B3 := HB.out.trans (hb3.mono HB.out.size)
  go_wp2_with fail
  with_reducible refine (HT.out _).mono ?_
  rintro e w4 ⟨rfl, hb4⟩
  go_wp2
  go_ret
  exact ⟨rfl, B3.trans (hb4.mono B3.size)⟩
end Go.Proofs.Ythnmcpfmljibeaa
/-
  The expressions of the statements' examples: num, two. Conditions: none.
-/
namespace Go.Proofs.Ythnmcpfmljibeaa
set_option maxRecDepth 100000
set_option linter.unusedVariables false
set_option linter.unusedSimpArgs false
open Go.RowKit

def numE (n : Int) : Ex := ⟨1, 0, (1, n, ⟨#[]⟩), ⟨#[]⟩, []⟩
/-- The value v is the expression e, of a depth less than d + 1. -/
def IsE (d : Nat) (e : Ex) (v : Value) (W : World) : Prop := ∃ A c, v = exV e (.slice A e.args.length c) ∧ RdE W 0 W.heap.size d (.slice A e.args.length c) e.args
def exF (d : Nat) (e : Ex) : Fact := ⟨IsE d e, fun _ _ _ ⟨A, c, hv, hr⟩ hb => ⟨A, c, hv, hr.step hb (Nat.le_refl _)⟩⟩
theorem rdE_nil (W : World) (L B d : Nat) (hd : 0 < d) : RdE W L B d (.slice none 0 0) [] := by
  obtain ⟨k, rfl⟩ : ∃ k, d = k + 1 := ⟨d - 1, by omega⟩
  exact ⟨none, 0, rfl, by simp, by simp⟩
theorem load_exp {w : World} {g : Nat} {a b c d e f u : Value} (h : Own w g 26 #[a, b, c, d, e, f, u]) : (loadVar 26 ⟨g, 0, none⟩).run Try.prog w = .ok (.agg #[a, b, c, d, e, f, u]) w :=
  run_loadVar_row w g 26 26 #[a, b, c, d, e, f, u] (0, 0) _ h Try.underlying26 rfl (by kernel_rfl)
/-- Two expressions in a row. -/
theorem rdE_two {W : World} {g d : Nat} {a b : Ex} {Aa Ab : Option Addr} {ca cb : Nat} (ha : RdE W 0 W.heap.size d (.slice Aa a.args.length ca) a.args) (hb : RdE W 0 W.heap.size d (.slice Ab b.args.length cb) b.args)
    (ho : Own W g 26 #[.int .i64 a.op, .int .i64 a.n, .int .i64 a.v.1, .int .i64 a.v.2.1, .string a.v.2.2, .string a.nm, .slice Aa a.args.length ca, .int .i64 b.op, .int .i64 b.n, .int .i64 b.v.1, .int .i64 b.v.2.1, .string b.v.2.2, .string b.nm, .slice Ab b.args.length cb]) :
    RdE W 0 W.heap.size (d + 1) (.slice (some ⟨g, 0, none⟩) 2 2) [a, b] := by
  refine ⟨some ⟨g, 0, none⟩, 2, rfl, by simp, fun k e hk => ?_⟩
  match k, hk with
  | 0, hk =>
    injection hk with hk
    subst hk
    refine ⟨⟨g, 0, none⟩, _, rfl, Nat.zero_le _, ho.lt, ?_, ha⟩
    rw [show ((⟨g, 0, none⟩ : Addr).add (0 * 7)) = ⟨g, 0, none⟩ by rfl]
    exact ⟨ho.cell 0, ho.cell 1, ho.cell 2, ho.cell 3, ho.cell 4, ho.cell 5, ho.cell 6⟩
  | 1, hk =>
    injection hk with hk
    subst hk
    refine ⟨⟨g, 0, none⟩, _, rfl, Nat.zero_le _, ho.lt, ?_, hb⟩
    rw [show ((⟨g, 0, none⟩ : Addr).add (1 * 7)) = ⟨g, 7, none⟩ by rfl]
    exact ⟨ho.cell 7, ho.cell 8, ho.cell 9, ho.cell 10, ho.cell 11, ho.cell 12, ho.cell 13⟩
  | k + 2, hk => simp at hk
theorem own_four {w : World} {t : TypeId} {cs : Array Value} (o o2 o3 : Obj) : Own ((((w.alloc o).alloc o2).alloc o3).alloc (.cells cs t)) (w.heap.size + 1 + 1 + 1) t cs := by
  have h := Own.new (((w.alloc o).alloc o2).alloc o3) t cs
  rwa [World.size_alloc, World.size_alloc, World.size_alloc] at h
theorem own_three0 {w : World} {t : TypeId} {cs : Array Value} (o o2 : Obj) : Own (((w.alloc o).alloc o2).alloc (.cells cs t)) (w.heap.size + 1 + 1) t cs := by
  have h := Own.new ((w.alloc o).alloc o2) t cs
  rwa [World.size_alloc, World.size_alloc] at h
theorem below_four (w : World) (o o2 o3 o4 : Obj) : Below w.heap.size w ((((w.alloc o).alloc o2).alloc o3).alloc o4) :=
  (((bel_mk w o).trans ((bel_mk _ o2).mono (by simp))).trans ((bel_mk _ o3).mono (by simp; omega))).trans ((bel_mk _ o4).mono (by simp; omega))
end Go.Proofs.Ythnmcpfmljibeaa
/-
  Arguments that are expressions, opened, and how much they hold, as the second forms reckon it. Conditions: none.
-/
namespace Go.Proofs.Ythnmcpfmljibeaa
set_option maxRecDepth 100000
set_option linter.unusedVariables false
set_option linter.unusedSimpArgs false
open Go.ChangeShapes Go.WideShapes Go.ChangeAt Go.RowKit Go.Joins Go.Deep

theorem cellsExp : Try.prog.cellsOf 26 = 7 := by kernel_rfl
theorem cellsExps : Try.prog.cellsOf 24 = 1 := by kernel_rfl
theorem cellsIntX : Try.prog.cellsOf 3 = 1 := by kernel_rfl
theorem cellsStrX : Try.prog.cellsOf 9 = 1 := by kernel_rfl
theorem cellsValX : Try.prog.cellsOf 23 = 3 := by kernel_rfl
theorem cell_ltX {w : World} {a : Addr} {v : Value} (h : w.cell? a = some v) : a.block < w.heap.size := World.block_lt_of_cell? w a h
theorem bulk_posX {H : Type} (d : DataW H) : 1 ≤ Rows.uptoBulk d := by
  unfold Rows.uptoBulk
  split <;> omega
theorem bulk_lenX {H : Type} (D : Nat → DataW H) : ∀ l : List Nat, l.length ≤ Rows.uptoBulkAll (l.map D)
  | [] => by simp
  | j :: l => by
    have h1 := bulk_posX (D j)
    have h2 := bulk_lenX D l
    simp only [List.map_cons, Rows.uptoBulkAll, List.length_cons]
    omega
theorem bulk_memX {H : Type} (D : Nat → DataW H) : ∀ (l : List Nat) (i : Nat), i ∈ l → Rows.uptoBulk (D i) ≤ Rows.uptoBulkAll (l.map D)
  | j :: l, i, h => by
    simp only [List.map_cons, Rows.uptoBulkAll]
    rcases List.mem_cons.1 h with rfl | h
    · omega
    · have := bulk_memX D l i h; omega
section
variable {H : Type} {enc : TypeId × Value → H} {W : World} {base : Nat}
end
end Go.Proofs.Ythnmcpfmljibeaa
/-
  What the functions of the reference's Eval answer: kinds of values, comparisons, arithmetic. Conditions: numbers that are values.
-/
namespace Go.Proofs.Ythnmcpfmljibeaa
set_option maxRecDepth 100000
set_option linter.unusedVariables false
set_option linter.unusedSimpArgs false
open Go.RowKit

theorem fBool (b : Bool) (w : World) : Calls Try.prog 29 #[.bool b] w fun e w' => e = .returned (valV (booP b)) ∧ Below w.heap.size w w' := Va.rBool_any b w
end Go.Proofs.Ythnmcpfmljibeaa
