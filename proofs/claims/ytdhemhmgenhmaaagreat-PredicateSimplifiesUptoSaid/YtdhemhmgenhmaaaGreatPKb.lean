import Derived.Test.YtdhemhmgenhmaaaGreatSPdZm
import Derived.Test.YtdhemhmgenhmaaaGreatQEE
import Derived.Test.YtdhemhmgenhmaaaGreatPV
import Derived.WalkKit
import Derived.WalkSpells
import Derived.WalkLawsBesides
import Derived.Deep.QuietTactic
import Derived.BigQuiet
import Derived.Handy
import Derived.Lib.Hide
import Derived.Test.YtdhemhmgenhmaaaGreatUE
import Derived.Test.YtdhemhmgenhmaaaGreatPK
import Derived.Laws.OwnMore
import Derived.Deep.AppendLies
set_option maxRecDepth 100000
set_option maxHeartbeats 25600000
set_option linter.unusedVariables false
set_option linter.unusedSimpArgs false
/-
  The small functions of Simplify: opposite, isTruth, constant, simpleChoice, simpleNegation. Conditions: none.
-/
namespace Go.Proofs.YtdhemhmgenhmaaaGreat
open Go.RowKit
def RetY (w : World) (L d : Nat) (r : Ex) (e : Ending) (w' : World) : Prop := ∃ u, e = .returned (exV r u) ∧ RdE w' L w'.heap.size d u r.args ∧ Below w.heap.size w w'
theorem pIsT_any (op : Int) (w : World) : Calls Tryz.prog 65 #[.int .i64 op] w fun e w' => e = .returned (.bool (isT op)) ∧ Below w.heap.size w w' := by
 by_cases h : op = 4 ∨ op = 5 ∨ op = 6 ∨ op = 7 ∨ op = 8 ∨ op = 9 ∨ op = 10 ∨ op = 11 ∨ op = 12 ∨ op = 21 ∨ op = 24
 ·rcases h with rfl | rfl | rfl | rfl | rfl | rfl | rfl | rfl | rfl | rfl | rfl
  all_goals
   go_enter Tryz.func65, Tryz.ntmps65
   go_wp2
   go_ret
   exact ⟨rfl, Below.refl _ _⟩
 ·have k : isT op = false := by
   unfold isT
   simp only [Bool.or_eq_false_iff, beq_eq_false_iff_ne]
   omega
  rw [k]
  obtain ⟨h4, h5, h6, h7, h8, h9, h10, h11, h12, h21, h24⟩ : op ≠ 4 ∧ op ≠ 5 ∧ op ≠ 6 ∧ op ≠ 7 ∧ op ≠ 8 ∧ op ≠ 9 ∧ op ≠ 10 ∧ op ≠ 11 ∧ op ≠ 12 ∧ op ≠ 21 ∧ op ≠ 24 := by omega
  clear h k
  simp only [← beq_eq_false_iff_ne] at *
  go_enter Tryz.func65, Tryz.ntmps65
  go_wp2
  go_ret
  exact ⟨rfl, Below.refl _ _⟩
theorem pOpp_any (op : Int) (w : World) : Calls Tryz.prog 66 #[.int .i64 op] w fun e w' => e = .returned (.int .i64 (oppO op)) ∧ Below w.heap.size w w' := by
 by_cases h : op = 7 ∨ op = 8 ∨ op = 9 ∨ op = 12 ∨ op = 11
 ·rcases h with rfl | rfl | rfl | rfl | rfl
  all_goals
   go_enter Tryz.func66, Tryz.ntmps66
   go_wp2
   go_ret
   exact ⟨rfl, Below.refl _ _⟩
 ·obtain ⟨h7, h8, h9, h12, h11⟩ : op ≠ 7 ∧ op ≠ 8 ∧ op ≠ 9 ∧ op ≠ 12 ∧ op ≠ 11 := by omega
  have k : oppO op = 11 := by unfold oppO; rw [if_neg h7, if_neg h8, if_neg h9, if_neg h12, if_neg h11]
  rw [k]
  clear h k
  simp only [← beq_eq_false_iff_ne] at *
  go_enter Tryz.func66, Tryz.ntmps66
  go_wp2
  go_ret
  exact ⟨rfl, Below.refl _ _⟩
theorem pCon_any (k1 k2 : Int) (s : ByteArray) (w : World) : Calls Tryz.prog 13 #[.agg #[.int .i64 k1, .int .i64 k2, .string s]] w fun e w' => e = .returned (exV (conX (k1, k2, s)) (.slice none 0 0)) ∧ Below w.heap.size w w' := by
 have o := Own.new w 23 #[.int .i64 k1, .int .i64 k2, .string s]
 have oR : Own ((w.alloc (.cells #[.int .i64 k1, .int .i64 k2, .string s] 23)).alloc (.cells #[.int .i64 1, .int .i64 0, .int .i64 k1, .int .i64 k2, .string s, .string ⟨#[]⟩, .slice none 0 0] 26)) (w.heap.size + 1) 26 #[.int .i64 1, .int .i64 0, .int .i64 k1, .int .i64 k2, .string s, .string ⟨#[]⟩, .slice none 0 0] := by
  have := Own.new (w.alloc (.cells #[.int .i64 k1, .int .i64 k2, .string s] 23)) 26 #[.int .i64 1, .int .i64 0, .int .i64 k1, .int .i64 k2, .string s, .string ⟨#[]⟩, .slice none 0 0]
  rwa [World.size_alloc] at this
 have HX := Lib.hid oR
 have HB := Lib.hid (((Below.refl w.heap.size w).alloc (Nat.le_refl _) (.cells #[.int .i64 k1, .int .i64 k2, .string s] 23)).alloc (by simp) (.cells #[.int .i64 1, .int .i64 0, .int .i64 k1, .int .i64 k2, .string s, .string ⟨#[]⟩, .slice none 0 0] 26))
 have d0 := o.cell 0
 have d1 := o.cell 1
 have d2 := o.cell 2
 clear o oR
 go_enter Tryz.func13, Tryz.ntmps13
 go_wp2
 (try simp only [Exit.inBlock, Exit.then]); refine bodyPost_ret_by (results_cell_row1 (by rfl) _ _ (w.heap.size + 1) _ (by rfl) (load_ex HX.out)) ?_ ?_; (focus rfl); exact ⟨rfl, HB.out⟩
end Go.Proofs.YtdhemhmgenhmaaaGreat
namespace Go.Proofs.YtdhemhmgenhmaaaGreat
open Go.RowKit
theorem ev_constZ (row : List Vl) (d : Nat) (e : Ex) (h : e.op = 1) : evE row (d + 1) e = evE row 1 e := by
 unfold evE
 cases hw : wfE e.op e.n e.v.1 e.v.2.1 e.v.2.2 e.nm e.args.length
 ·rfl
 ·have hz : e.args = [] := wf_con0 (show wfX e = true from hw) h
  rw [hz]
  rfl
theorem pCho_any (op n k1 k2 : Int) (s nm : ByteArray) (c x y : Ex) (d : Nat) (u : Value) (w : World) (L : Nat) (h : RdE w L w.heap.size (d + 1) u [c, x, y]) :
  Calls Tryz.prog 18 #[exV ⟨op, n, (k1, k2, s), nm, [c, x, y]⟩ u] w (RetY w L (d + 1) (simC ⟨op, n, (k1, k2, s), nm, [c, x, y]⟩)) := by
 have H0 := Lib.hid h
 obtain ⟨A, cc, rfl, hl, hc⟩ := h
 obtain ⟨ad, u0, rfl, hL, hB, q0, r0⟩ := hc 0 c rfl
 obtain ⟨_, u1, e1, _, _, q1, r1⟩ := hc 1 x rfl
 injection e1 with e1
 subst e1
 obtain ⟨_, u2, e2, _, _, q2, r2⟩ := hc 2 y rfl
 injection e2 with e2
 subst e2
 rw [Nat.zero_mul, show ad.add 0 = ad by unfold Addr.add; simp] at q0
 have HC0 := Lib.hid q0
 rw [show ad.add (1 * 7) = ⟨ad.block, ad.off + 7, none⟩ by unfold Addr.add; rfl] at q1
 have HC1 := Lib.hid q1
 rw [show ad.add (2 * 7) = ⟨ad.block, ad.off + 14, none⟩ by unfold Addr.add; rfl] at q2
 have HC2 := Lib.hid q2
 have HR0 := Lib.hid r0
 have HR1 := Lib.hid r1
 have HR2 := Lib.hid r2
 obtain ⟨A0, c0, rfl, _⟩ := r0.slice
 obtain ⟨A1, c1, rfl, _⟩ := r1.slice
 obtain ⟨A2, c2, rfl, _⟩ := r2.slice
 clear hc q0 q1 q2 r0 r1 r2
 unfold exV
 dsimp only
 rw [show [c, x, y].length = 3 from rfl]
 have oE := (Own.new w 26 #[.int .i64 op, .int .i64 n, .int .i64 k1, .int .i64 k2, .string s, .string nm, .slice (some ad) 3 cc]).alloc (.cells #[.int .i64 0, .int .i64 0, .int .i64 0, .int .i64 0, .string ⟨#[]⟩, .string ⟨#[]⟩, .slice none 0 0] 26)
 have b1 : Below w.heap.size w ((w.alloc (.cells #[.int .i64 op, .int .i64 n, .int .i64 k1, .int .i64 k2, .string s, .string nm, .slice (some ad) 3 cc] 26)).alloc (.cells #[.int .i64 0, .int .i64 0, .int .i64 0, .int .i64 0, .string ⟨#[]⟩, .string ⟨#[]⟩, .slice none 0 0] 26)) := ((Below.refl _ _).alloc (Nat.le_refl _) _).alloc (by simp) _
 obtain ⟨x0, x1, x2, x3, x4, x5, x6⟩ := HC0.out.below b1 hB
 have y6 := oE.cell 6
 by_cases h1 : c.op = 1
 ·have h1b : (c.op != 1) = false := by simp [h1]
  have hs : simC ⟨op, n, (k1, k2, s), nm, [c, x, y]⟩ = if truC c = 2 then x else y := by unfold simC; dsimp only; rw [if_neg (by simpa using h1)]
  have HS := Lib.hid hs
  clear hs
  have ht : truP (evE [] d c) = truC c := by obtain ⟨d, rfl⟩ : ∃ k, d = k + 1 := ⟨d - 1, by have := HR0.out.pos; omega⟩; unfold truC; rw [ev_constZ [] d c h1]
  have HTr := Lib.hid (fun (W : World) (hb : Below w.heap.size w W) => pTruthE_any (.slice none 0 0) [] d c A0 c0 W L W.heap.size (HR0.out.step hb (Nat.le_refl _)) (rdV_nil W _ _))
  rw [ht] at HTr
  have HH := Lib.hid h1
  clear h1
  generalize simC ⟨op, n, (k1, k2, s), nm, [c, x, y]⟩ = R at *
  have oE2 := oE.alloc (.cells (exA c (.slice A0 c.args.length c0)) 26)
  have oZ : Own (((w.alloc (.cells #[.int .i64 op, .int .i64 n, .int .i64 k1, .int .i64 k2, .string s, .string nm, .slice (some ad) 3 cc] 26)).alloc (.cells #[.int .i64 0, .int .i64 0, .int .i64 0, .int .i64 0, .string ⟨#[]⟩, .string ⟨#[]⟩, .slice none 0 0] 26)).alloc (.cells (exA c (.slice A0 c.args.length c0)) 26)) (w.heap.size + 1) 26 #[.int .i64 0, .int .i64 0, .int .i64 0, .int .i64 0, .string ⟨#[]⟩, .string ⟨#[]⟩, .slice none 0 0] := by
   have := (Own.new (w.alloc (.cells #[.int .i64 op, .int .i64 n, .int .i64 k1, .int .i64 k2, .string s, .string nm, .slice (some ad) 3 cc] 26)) 26 #[.int .i64 0, .int .i64 0, .int .i64 0, .int .i64 0, .string ⟨#[]⟩, .string ⟨#[]⟩, .slice none 0 0]).alloc (.cells (exA c (.slice A0 c.args.length c0)) 26)
   rwa [World.size_alloc] at this
  have b2 := b1.alloc (by simp; omega) (.cells (exA c (.slice A0 c.args.length c0)) 26)
  have HE2 := Lib.hid oE2
  have HZ := Lib.hid oZ
  have HB2 := Lib.hid b2
  unfold exA at HE2 HZ HB2
  unfold exV at HTr
  clear oE oE2 oZ b2 b1
  generalize truC c = T at *
  go_enter Tryz.func18, Tryz.ntmps18
  go_wp2_with fail
  with_reducible refine (HTr.out _ HB2.out).mono ?_
  rintro e w3 ⟨rfl, hb3⟩
  have o3 := HE2.out.below hb3 HE2.out.lt
  have z3 := HZ.out.below hb3 HZ.out.lt
  have B3 := HB2.out.trans (hb3.mono HB2.out.size)
  have g6 := o3.cell 6
  clear x0 x1 x2 x3 x4 x5 x6 y6 HE2 HZ HB2 hb3
  obtain ⟨x0, x1, x2, x3, x4, x5, x6⟩ := HC1.out.below B3 hB
  obtain ⟨y0, y1, y2, y3, y4, y5, y6⟩ := HC2.out.below B3 hB
  have m0 := z3.free 0
  have m1 := z3.free 1
  have m2 := z3.free 2
  have m3 := z3.free 3
  have m4 := z3.free 4
  have m5 := z3.free 5
  have m6 := z3.free 6
  have o0 := z3.cell 0
  have o1 := z3.cell 1
  have o2 := z3.cell 2
  have o3' := z3.cell 3
  have o4 := z3.cell 4
  have o5 := z3.cell 5
  have o6 := z3.cell 6
  by_cases hT : T = 2
  ·have hTb : (T == 2) = true := by simp [hT]
   rw [if_pos hT] at HS
   clear hT
   have HX := Lib.hid (((((((z3.store 0 (.int .i64 x.op)).store 1 (.int .i64 x.n)).store 2 (.int .i64 x.v.1)).store 3 (.int .i64 x.v.2.1)).store 4 (.string x.v.2.2)).store 5 (.string x.nm)).store 6 (.slice A1 x.args.length c1))
   have HF := Lib.hid (((((((B3.sc (w.heap.size + 1) 0 (.int .i64 x.op)).sc (w.heap.size + 1) 1 (.int .i64 x.n)).sc (w.heap.size + 1) 2 (.int .i64 x.v.1)).sc (w.heap.size + 1) 3 (.int .i64 x.v.2.1)).sc (w.heap.size + 1) 4 (.string x.v.2.2)).sc (w.heap.size + 1) 5 (.string x.nm)).sc (w.heap.size + 1) 6 (.slice A1 x.args.length c1))
   go_wp2
   (try simp only [Exit.inBlock, Exit.then]); refine bodyPost_ret_by (results_cell_row1 (by rfl) _ _ (w.heap.size + 1) _ (by rfl) (load_ex HX.out)) ?_ ?_; (focus rfl); exact ⟨.slice A1 x.args.length c1, by rw [HS.out]; rfl, by rw [HS.out]; have h := (HR1.out.step HF.out (Nat.le_refl _)).up1; simp only [World.size_setCell] at h ⊢; exact h, HF.out⟩
  ·have hTb : (T == 2) = false := by simp [hT]
   rw [if_neg hT] at HS
   clear hT
   have HX := Lib.hid (((((((z3.store 0 (.int .i64 y.op)).store 1 (.int .i64 y.n)).store 2 (.int .i64 y.v.1)).store 3 (.int .i64 y.v.2.1)).store 4 (.string y.v.2.2)).store 5 (.string y.nm)).store 6 (.slice A2 y.args.length c2))
   have HF := Lib.hid (((((((B3.sc (w.heap.size + 1) 0 (.int .i64 y.op)).sc (w.heap.size + 1) 1 (.int .i64 y.n)).sc (w.heap.size + 1) 2 (.int .i64 y.v.1)).sc (w.heap.size + 1) 3 (.int .i64 y.v.2.1)).sc (w.heap.size + 1) 4 (.string y.v.2.2)).sc (w.heap.size + 1) 5 (.string y.nm)).sc (w.heap.size + 1) 6 (.slice A2 y.args.length c2))
   go_wp2
   (try simp only [Exit.inBlock, Exit.then]); refine bodyPost_ret_by (results_cell_row1 (by rfl) _ _ (w.heap.size + 1) _ (by rfl) (load_ex HX.out)) ?_ ?_; (focus rfl); exact ⟨.slice A2 y.args.length c2, by rw [HS.out]; rfl, by rw [HS.out]; have h := (HR2.out.step HF.out (Nat.le_refl _)).up1; simp only [World.size_setCell] at h ⊢; exact h, HF.out⟩
 ·have h1b : (c.op != 1) = true := by simp [h1]
  have hs : simC ⟨op, n, (k1, k2, s), nm, [c, x, y]⟩ = ⟨op, n, (k1, k2, s), nm, [c, x, y]⟩ := by unfold simC; dsimp only; rw [if_pos (by simpa using h1)]
  rw [hs]
  have oX := (Own.new (w.alloc (.cells #[.int .i64 op, .int .i64 n, .int .i64 k1, .int .i64 k2, .string s, .string nm, .slice (some ad) 3 cc] 26)) 26 #[.int .i64 op, .int .i64 n, .int .i64 k1, .int .i64 k2, .string s, .string nm, .slice (some ad) 3 cc]).alloc (.cells #[.int .i64 c.op, .int .i64 c.n, .int .i64 c.v.1, .int .i64 c.v.2.1, .string c.v.2.2, .string c.nm, .slice A0 c.args.length c0] 26)
  rw [World.size_alloc] at oX
  have HX := Lib.hid oX
  have bX : Below w.heap.size w (((w.alloc (.cells #[.int .i64 op, .int .i64 n, .int .i64 k1, .int .i64 k2, .string s, .string nm, .slice (some ad) 3 cc] 26)).alloc (.cells #[.int .i64 op, .int .i64 n, .int .i64 k1, .int .i64 k2, .string s, .string nm, .slice (some ad) 3 cc] 26)).alloc (.cells #[.int .i64 c.op, .int .i64 c.n, .int .i64 c.v.1, .int .i64 c.v.2.1, .string c.v.2.2, .string c.nm, .slice A0 c.args.length c0] 26)) := (((Below.refl _ _).alloc (Nat.le_refl _) _).alloc (by simp) _).alloc (by simp; omega) _
  have HB := Lib.hid bX
  clear oX bX hs
  go_enter Tryz.func18, Tryz.ntmps18
  go_wp2
  (try simp only [Exit.inBlock, Exit.then]); refine bodyPost_ret_by (results_cell_row1 (by rfl) _ _ (w.heap.size + 1) _ (by rfl) (load_ex HX.out)) ?_ ?_; (focus rfl); exact ⟨_, rfl, H0.out.step HB.out (Nat.le_refl _), HB.out⟩
end Go.Proofs.YtdhemhmgenhmaaaGreat
namespace Go.Proofs.YtdhemhmgenhmaaaGreat
open Go.ChangeShapes Go.WideShapes Go.ChangeAt Go.RowKit Go.Joins Go.Deep
def nodL : Nat → Ex → List Ex
 | 0, _ => []
 | d + 1, e => e :: e.args.flatMap (nodL d)
theorem nodL_len : ∀ (d : Nat) (e : Ex), (nodL d e).length = nodE d e
 | 0, _ => rfl
 | d + 1, e => by
  unfold nodL
  rw [nod_succ, List.length_cons, List.length_flatMap, List.map_congr_left fun a _ => nodL_len d a]
  omega
theorem col_nod : ∀ (d : Nat) (e : Ex), (colE d e).length ≤ nodE d e
 | 0, _ => Nat.le_refl _
 | d + 1, e => by
  show (colH e ++ e.args.flatMap (colE d)).length ≤ _
  rw [nod_succ, List.length_append, List.length_flatMap]
  have h1 : (colH e).length ≤ 1 := by unfold colH; split <;> simp
  have h2 : (e.args.map fun a => (colE d a).length).sum ≤ (e.args.map (nodE d)).sum := sum_le fun a _ => col_nod d a
  omega
theorem nodL_mk {op n : Int} {v : Vl} {nm : ByteArray} {es : List Ex} {b B : Nat} (h : b < B) (ho : ∀ m, (es.flatMap (nodL m)).length ≤ b) : ∀ m, (nodL m ⟨op, n, v, nm, es⟩).length ≤ B
 | 0 => Nat.zero_le _
 | m + 1 => by
  have := ho m
  unfold nodL
  dsimp only
  rw [List.length_cons]
  omega
theorem flat_bulkN {H : Type} (D : Nat → DataW H) (q : Nat → Ex) (g : Ex → List Ex) : ∀ l : List Nat, (∀ i ∈ l, (g (q i)).length ≤ Rows.uptoBulk (D i)) → ((l.map q).flatMap g).length ≤ Rows.uptoBulkAll (l.map D)
 | [], _ => by simp
 | j :: l, h => by
  have h1 := flat_bulkN D q g l fun i hi => h i (List.mem_cons_of_mem _ hi)
  have h2 := h j List.mem_cons_self
  simp only [List.map_cons, Rows.uptoBulkAll, List.flatMap_cons, List.length_append]
  omega
section
variable {H : Type} {enc : TypeId × Value → H} {W : World} {base : Nat}
theorem open_exprsN : ∀ (N fuel : Nat) (u : Value) (d : DataW H) (p : List MemPlace), Rows.uptoBulk d ≤ N → N ≤ 1048576 → DataW.trod enc Tryz.prog W 0 (fun _ => true) true fuel 24 [u] = some (d, p) →
  ∃ es : List Ex, RdE W 0 W.heap.size N u es ∧ (∀ m, ∀ e ∈ es, okX m e) ∧ ∀ m, (es.flatMap (nodL m)).length ≤ Rows.uptoBulk d
 | 0, _, _, d, _, hN, _, _ => by have := bulk_posX d; omega
 | N + 1, fuel, u, d, p, hN, hbig, hf => by
  rcases open_slice Tryz.underlying24 hf with ⟨hcs, _⟩ | ⟨a, len, cap, m, n, D, Pl, hcs, _, hl, hm, hmm, hxx, hx⟩
  ·injection hcs with hcs _
   subst hcs
   exact ⟨[], ⟨none, 0, rfl, by simp, by simp⟩, by simp, by simp⟩
  ·injection hcs with hcs _
   subst hcs
   rw [if_pos rfl] at hmm
   subst hmm
   have hd : d = .slice ((List.range len).map D) ((List.range (m - len)).map fun j => D (len + j)) := congrArg Prod.fst hxx
   have hlen : len ≤ Rows.uptoBulkAll ((List.range len).map D) := by have := bulk_lenX D (List.range len); rwa [List.length_range] at this
   have hsum : Rows.uptoBulkAll ((List.range len).map D) < Rows.uptoBulk d := by rw [hd]; simp only [Rows.uptoBulk]; omega
   have each : ∀ i, i < len → ∃ q : Ex × Value, ExC W (a.add (i * 7)) q.1 q.2 ∧ RdE W 0 W.heap.size N q.2 q.1.args ∧ (∀ m, okX m q.1) ∧ ∀ m, (nodL m q.1).length ≤ Rows.uptoBulk (D i) := by
    intro i hi
    obtain ⟨cs', hc, ht⟩ := hx i (by omega)
    rw [cellsExp] at hc
    obtain ⟨_, hcl, hat⟩ := World.cells?_some hc
    obtain ⟨op, n1, k, m1, s, nm, w6, f, dd, pp, hwn, rfl, hg, hlt⟩ := open_fieldsC ht
    have hi2 := bulk_memX D (List.range len) i (List.mem_range.2 hi)
    obtain ⟨es, hes, hok, hcl⟩ := open_exprsN N f w6 dd pp (by dsimp only at hlt; omega) (by omega) hg
    refine ⟨(⟨op, n1, (k, m1, s), nm, es⟩, w6), ?_, hes, fun m => okX_mk hwn hok m, fun m => nodL_mk (Nat.lt_of_le_of_lt (Nat.le_refl _) hlt) hcl m⟩
    have c0 := hat 0 (by omega)
    have c1 := hat 1 (by omega)
    have c2 := hat 2 (by omega)
    have c3 := hat 3 (by omega)
    have c4 := hat 4 (by omega)
    have c5 := hat 5 (by omega)
    have c6 := hat 6 (by omega)
    have ea : ∀ j, j ≠ 0 → (a.add (i * 7)).add j = ⟨(a.add (i * 7)).block, (a.add (i * 7)).off + j, none⟩ := fun j hj => by unfold Addr.add; rw [if_neg hj]
    rw [show (a.add (i * 7)).add 0 = a.add (i * 7) by unfold Addr.add; simp] at c0
    rw [ea 1 (by decide)] at c1
    rw [ea 2 (by decide)] at c2
    rw [ea 3 (by decide)] at c3
    rw [ea 4 (by decide)] at c4
    rw [ea 5 (by decide)] at c5
    rw [ea 6 (by decide)] at c6
    exact ⟨by simpa using c0, by simpa using c1, by simpa using c2, by simpa using c3, by simpa using c4, by simpa using c5, by simpa using c6⟩
   haveI : Inhabited (Ex × Value) := ⟨(⟨0, 0, (0, 0, ⟨#[]⟩), ⟨#[]⟩, []⟩, undef)⟩
   obtain ⟨q, hq⟩ := choose_lt each
   refine ⟨(List.range len).map fun i => (q i).1, ⟨some a, _, by rw [List.length_map, List.length_range], by rw [List.length_map, List.length_range]; omega, fun k e hk => ?_⟩, fun m e he => ?_, fun m => ?_⟩
   rotate_left
   ·obtain ⟨i, hi, rfl⟩ := List.mem_map.1 he
    exact (hq i (List.mem_range.1 hi)).2.2.1 m
   ·have h := flat_bulkN D (fun i => (q i).1) (nodL m) (List.range len) (fun i hi => (hq i (List.mem_range.1 hi)).2.2.2 m)
    omega
   obtain ⟨hk1, hk2⟩ := List.getElem?_eq_some_iff.1 hk
   simp at hk1 hk2
   subst hk2
   obtain ⟨g0, g1, _⟩ := hq k hk1
   have hb := cell_ltX g0.1
   rw [add_blk] at hb
   exact ⟨a, (q k).2, rfl, Nat.zero_le _, hb, g0, g1⟩
theorem open_expN {v : Value} {d : DataW H} {p : List MemPlace} (hv : Value.okWide Tryz.prog W .any base 26 v) (h : DataW.Trod enc Tryz.prog W 0 (fun _ => true) true 26 v d p) (hN : Rows.uptoBulk d ≤ 1048576) :
  ∃ (e : Ex) (A : Option Addr) (c : Nat), v = exV e (.slice A e.args.length c) ∧ RdE W 0 W.heap.size 1048576 (.slice A e.args.length c) e.args ∧ (∀ m, okX m e) ∧ ∀ m, (nodL m e).length ≤ Rows.uptoBulk d := by
 obtain ⟨cs, rfl, hsz⟩ := okWide_struct Tryz.underlying26 hv
 obtain ⟨fuel, hf⟩ := h
 obtain ⟨op, n1, k, m1, s, nm, w6, f, dd, pp, hwn, hcs, hg, hlt⟩ := open_fieldsC hf
 obtain ⟨es, hes, hok, hcl⟩ := open_exprsN (Rows.uptoBulk dd) f w6 dd pp (Nat.le_refl _) (by dsimp only at hlt; omega) hg
 obtain ⟨A, c, rfl, _⟩ := hes.slice
 obtain ⟨l⟩ := cs
 simp only [Value.cells] at hcs
 refine ⟨⟨op, n1, (k, m1, s), nm, es⟩, A, c, ?_, hes.up (by dsimp only at hlt; omega), fun m => okX_mk hwn hok m, fun m => nodL_mk hlt hcl m⟩
 unfold exV
 dsimp only
 exact congrArg (fun l => Value.agg l.toArray) hcs
end
end Go.Proofs.YtdhemhmgenhmaaaGreat
namespace Go.Proofs.YtdhemhmgenhmaaaGreat
open Go.RowKit
theorem pCnd_none (op n k1 k2 : Int) (s nm : ByteArray) (A : Option Addr) (l c : Nat) (w : World) (h : cmqO op = false ∨ l ≠ 2) :
  Calls Tryz.prog 86 #[.agg #[.int .i64 op, .int .i64 n, .int .i64 k1, .int .i64 k2, .string s, .string nm, .slice A l c]] w fun e' w' => e' = .returned (.tuple #[.agg #[.int .i64 0, .int .i64 0, .int .i64 0, .int .i64 0, .string ⟨#[]⟩], .bool false]) ∧ Below w.heap.size w w' := by
 have HI := Lib.hid (fun W => pIsC_any op W)
 have HE0 := Lib.hid (show Own ((w.alloc (.cells #[.int .i64 op, .int .i64 n, .int .i64 k1, .int .i64 k2, .string s, .string nm, .slice A l c] 26)).alloc (.cells #[.int .i64 0, .int .i64 0, .int .i64 0, .int .i64 0, .string ⟨#[]⟩] 64)) w.heap.size 26 #[.int .i64 op, .int .i64 n, .int .i64 k1, .int .i64 k2, .string s, .string nm, .slice A l c] from (Own.new w _ _).alloc _)
 have HO0 := Lib.hid (show Own ((w.alloc (.cells #[.int .i64 op, .int .i64 n, .int .i64 k1, .int .i64 k2, .string s, .string nm, .slice A l c] 26)).alloc (.cells #[.int .i64 0, .int .i64 0, .int .i64 0, .int .i64 0, .string ⟨#[]⟩] 64)) (w.heap.size + 1) 64 #[.int .i64 0, .int .i64 0, .int .i64 0, .int .i64 0, .string ⟨#[]⟩] from Va.own_two _)
 have HB0 := Lib.hid (show Below w.heap.size w ((w.alloc (.cells #[.int .i64 op, .int .i64 n, .int .i64 k1, .int .i64 k2, .string s, .string nm, .slice A l c] 26)).alloc (.cells #[.int .i64 0, .int .i64 0, .int .i64 0, .int .i64 0, .string ⟨#[]⟩] 64)) from (bel_mk w _).trans ((bel_mk _ _).mono (by simp)))
 cases ho : cmqO op
 ·rw [ho] at HI
  clear h ho
  go_enter Tryz.func86, Tryz.ntmps86
  go_wp2_with fail
  with_reducible refine (HI.out _).mono ?_
  rintro e w1 ⟨rfl, hb1⟩
  have HE1 := Lib.hid (HE0.out.below hb1 HE0.out.lt)
  have HO1 := Lib.hid (HO0.out.below hb1 HO0.out.lt)
  have HB1 := Lib.hid (HB0.out.trans (hb1.mono HB0.out.size))
  clear hb1 HE0 HO0 HB0
  have e6 := HE1.out.cell 6
  have o0 := HO1.out.cell 0
  have o1 := HO1.out.cell 1
  have o2 := HO1.out.cell 2
  have o3 := HO1.out.cell 3
  have o4 := HO1.out.cell 4
  have m0 := HO1.out.free 0
  have m1 := HO1.out.free 1
  have m2 := HO1.out.free 2
  have m3 := HO1.out.free 3
  have m4 := HO1.out.free 4
  go_wp2
  have hx := ((((HO1.out.store 0 (.int .i64 0)).store 1 (.int .i64 0)).store 2 (.int .i64 0)).store 3 (.int .i64 0)).store 4 (.string ⟨#[]⟩)
  simp only [List.setIfInBounds_toArray, List.set_cons_zero, List.set_cons_succ] at hx
  (try simp only [Exit.inBlock, Exit.then]); refine bodyPost_ret_by (rcell2 (by rfl) _ _ (w.heap.size + 1) _ (by rfl) (load_cnd hx)) ?_ ?_; (focus rfl)
  exact ⟨rfl, ((((HB1.out.sc (w.heap.size + 1) 0 _).sc (w.heap.size + 1) 1 _).sc (w.heap.size + 1) 2 _).sc (w.heap.size + 1) 3 _).sc (w.heap.size + 1) 4 _⟩
 ·rw [ho] at HI h
  have hl5 : l ≠ 2 := by rcases h with h | h; cases h; exact h
  have hl4 : ¬ (l : Int) = 2 := by omega
  have hl3 : ((l : Int) == 2) = false := by rw [beq_eq_false_iff_ne]; exact hl4
  clear h ho
  go_enter Tryz.func86, Tryz.ntmps86
  go_wp2_with fail
  with_reducible refine (HI.out _).mono ?_
  rintro e w1 ⟨rfl, hb1⟩
  have HE1 := Lib.hid (HE0.out.below hb1 HE0.out.lt)
  have HO1 := Lib.hid (HO0.out.below hb1 HO0.out.lt)
  have HB1 := Lib.hid (HB0.out.trans (hb1.mono HB0.out.size))
  clear hb1 HE0 HO0 HB0
  have e6 := HE1.out.cell 6
  have o0 := HO1.out.cell 0
  have o1 := HO1.out.cell 1
  have o2 := HO1.out.cell 2
  have o3 := HO1.out.cell 3
  have o4 := HO1.out.cell 4
  have m0 := HO1.out.free 0
  have m1 := HO1.out.free 1
  have m2 := HO1.out.free 2
  have m3 := HO1.out.free 3
  have m4 := HO1.out.free 4
  go_wp2
  have hx := ((((HO1.out.store 0 (.int .i64 0)).store 1 (.int .i64 0)).store 2 (.int .i64 0)).store 3 (.int .i64 0)).store 4 (.string ⟨#[]⟩)
  simp only [List.setIfInBounds_toArray, List.set_cons_zero, List.set_cons_succ] at hx
  (try simp only [Exit.inBlock, Exit.then]); refine bodyPost_ret_by (rcell2 (by rfl) _ _ (w.heap.size + 1) _ (by rfl) (load_cnd hx)) ?_ ?_; (focus rfl)
  exact ⟨rfl, ((((HB1.out.sc (w.heap.size + 1) 0 _).sc (w.heap.size + 1) 1 _).sc (w.heap.size + 1) 2 _).sc (w.heap.size + 1) 3 _).sc (w.heap.size + 1) 4 _⟩
theorem pCnd_any (d : Nat) (e : Ex) (A : Option Addr) (c : Nat) (w : World) (L : Nat) (h : RdE w L w.heap.size d (.slice A e.args.length c) e.args) :
  Calls Tryz.prog 86 #[exV e (.slice A e.args.length c)] w fun e' w' => e' = .returned (.tuple #[cndV (condE e), .bool (condE e).isSome]) ∧ Below w.heap.size w w' := by
 obtain ⟨op, n, ⟨k1, k2, s⟩, nm, es⟩ := e
 unfold exV
 dsimp only at h ⊢
 by_cases hl : es.length = 2
 ·cases ho : cmqO op
  ·rw [cnd_op op n (k1, k2, s) nm es ho]
   exact pCnd_none op n k1 k2 s nm A es.length c w (.inl ho)
  ·match es, hl, h with
   | [a, b], _, h =>
    obtain ⟨d', rfl⟩ : ∃ d', d = d' + 1 := ⟨d - 1, by have := h.pos; omega⟩
    exact pCnd_two op n k1 k2 s nm a b A c w L d' h ho
 ·rw [cnd_len op n (k1, k2, s) nm es hl]
  exact pCnd_none op n k1 k2 s nm A es.length c w (.inr hl)
end Go.Proofs.YtdhemhmgenhmaaaGreat
namespace Go.Proofs.YtdhemhmgenhmaaaGreat
open Go.RowKit
def cndL (c : Cnd) : List Value := [.int .i64 c.op, .int .i64 c.col, .int .i64 c.v.1, .int .i64 c.v.2.1, .string c.v.2.2]
def flatK : List Cnd → List Value
 | [] => []
 | p :: t => cndL p ++ flatK t
theorem flatK_append : ∀ a b : List Cnd, flatK (a ++ b) = flatK a ++ flatK b
 | [], b => rfl
 | p :: t, b => by
  show cndL p ++ flatK (t ++ b) = (cndL p ++ flatK t) ++ flatK b
  rw [flatK_append t b, List.append_assoc]
theorem flatK_len : ∀ a : List Cnd, (flatK a).length = a.length * 5
 | [] => rfl
 | p :: t => by
  show (cndL p ++ flatK t).length = _
  rw [List.length_append, flatK_len t, List.length_cons]
  show 5 + _ = _
  omega
theorem infoK : (Tryz.prog.info? 64).map (fun i => (i.zero, i.size, i.bytes)) = some (some (.agg #[.int .i64 0, .int .i64 0, .int .i64 0, .int .i64 0, .string ⟨#[]⟩]), 5, 48) := by kernel_rfl
theorem append_k1 {ops : Array Oper} {rest : List Oper} {o : Oper} {a : Act} {Q : Exit → Act → World → Prop} (W : World) (hgd : o.guard = none) (s x : Operand)
  (ho : o.op = .call { callee := .builtin .append, args := #[s, x], argTypes := #[60, 60] }) (base : Nat) (v : Value) (l : List Cnd) (hs : a.eval s = v)
  (hown : W.ownsRow base 64 5 v l.length (flatK l)) (g c : Nat) (p : Cnd) (hx : a.eval x = .slice (some ⟨g, 0, none⟩) 1 c)
  (hnew : ∀ j u, (cndL p)[j]? = some u → W.cell? ((⟨g, 0, none⟩ : Addr).add j) = some u) (hl : l.length ≤ 1099511627776) (hbase : base ≤ W.heap.size)
  (h : ∀ g' cap w', w'.ownsRow base 64 5 (.slice (some ⟨g', 0, none⟩) (l.length + 1) cap) (l ++ [p]).length (flatK (l ++ [p])) → W.grownBy w' v.ownBlock → (v.ownBlock = some g' ∨ g' = W.heap.size) → wpList Tryz.prog ops Q rest (a.put o.dst (.slice (some ⟨g', 0, none⟩) (l.length + 1) cap)) w') :
  wpList Tryz.prog ops Q (o :: rest) a W := by
 obtain ⟨i0, hi, hz0, hz1, hz2⟩ := info_partsB infoK
 refine wpList_append_lies W hgd s x 60 ho base 64 i0 (.agg #[.int .i64 0, .int .i64 0, .int .i64 0, .int .i64 0, .string ⟨#[]⟩]) 5 48 Tryz.underlying60 hi hz0 hz1 hz2 rfl (by decide) v l.length (flatK l) hs hown ⟨g, 0, none⟩ 1 c (cndL p) hx rfl hnew (fun u hu => ?_) (by decide) (by unfold maxLen; omega) (by omega) hbase W.heap.size rfl ?_
 ·simp only [cndL, List.mem_cons, List.not_mem_nil, or_false] at hu
  rcases hu with rfl | rfl | rfl | rfl | rfl <;> rfl
 ·intro g' cap w' h1 h2 h3 h4
  refine h g' cap w' ?_ h2 h3
  rw [flatK_append, List.length_append]
  show w'.ownsRow base _ 5 _ (l.length + 1) (flatK l ++ (cndL p ++ []))
  rw [List.append_nil]
  exact h1
theorem ownK_far {w : World} {base n : Nat} {v : Value} {xs : List Value} (h : w.ownsRow base 64 5 v n xs) {p : Addr} (hp : p.block < base) (u : Value) : (w.setCell p u).ownsRow base 64 5 v n xs := by
 refine ⟨h.1, ?_⟩
 rcases h.2 with h0 | ⟨g, cap, cur, rfl, hb, hh, hr⟩
 ·exact .inl h0
 ·exact .inr ⟨g, cap, cur, rfl, hb, (Below.heap_setCell w p u g (by omega)).trans hh, hr⟩
theorem ownK_shape {w : World} {base n : Nat} {v : Value} {xs : List Value} (h : w.ownsRow base 64 5 v n xs) : ∃ Av cv, v = .slice Av n cv := by
 rcases h.2 with ⟨rfl, rfl⟩ | ⟨g, cap, cur, rfl, _⟩
 ·exact ⟨_, _, rfl⟩
 ·exact ⟨_, _, rfl⟩
theorem lit_k (W : World) (p : Cnd) : ∀ j u, (cndL p)[j]? = some u → (W.alloc (.cells #[.int .i64 p.op, .int .i64 p.col, .int .i64 p.v.1, .int .i64 p.v.2.1, .string p.v.2.2] 64)).cell? ((⟨W.heap.size, 0, none⟩ : Addr).add j) = some u := fun j u hu => by
 rw [addX, (Own.new W 64 _).cell j]
 rw [← hu]
 exact List.getElem?_toArray ..
def RowN (w : World) (g base : Nat) (zs : List Cnd) : Prop := ∃ v, Own w g 60 #[v] ∧ w.ownsRow base 64 5 v zs.length (flatK zs)
theorem pCd1_any (d : Nat) (e : Ex) (u : Value) (g base L : Nat) (zs : List Cnd) (W : World) (hu : RdE W L W.heap.size d u e.args) (hR : RowN W g base zs) (hgb : g < base) (hbz : base ≤ W.heap.size) (hl : zs.length ≤ 1099511627776) :
  Calls Tryz.prog 85 #[exV e u, .pointer (some ⟨g, 0, none⟩)] W fun e' w' => e' = .returned (.tuple #[]) ∧ RowN w' g base (zs ++ (condE e).toList) ∧ Below g W w' := by
 obtain ⟨A, c, rfl, hel⟩ := hu.slice
 obtain ⟨v, hg, hown⟩ := hR
 obtain ⟨Av, cv, rfl⟩ := ownK_shape hown
 have b1 := bel_mk W (.cells (exA e (.slice A e.args.length c)) 26)
 have HC := Lib.hid (pCnd_any d e A c (W.alloc (.cells (exA e (.slice A e.args.length c)) 26)) L (hu.step b1 (Nat.le_refl _)))
 have HB1 := Lib.hid b1
 have HG1 := Lib.hid (hg.below b1 hg.lt)
 have HR1 := Lib.hid (own_below hown b1)
 have HGE := Lib.hid (show ∀ b, (Value.slice Av zs.length cv).ownBlock = some b → base ≤ b from fun b hb => (hown.lt b hb).1)
 have hgl := hg.lt
 clear hu hg hown b1
 unfold exV exA at *
 cases hcd : condE e with
 | none =>
  rw [hcd] at HC
  simp only [Option.toList_none, List.append_nil]
  unfold cndV at HC
  dsimp only [Option.isSome] at HC
  go_enter Tryz.func85, Tryz.ntmps85
  go_wp2_with fail
  with_reducible refine HC.out.mono ?_
  rintro e' w2 ⟨rfl, hb2⟩
  have HG2 := Lib.hid (HG1.out.below hb2 HG1.out.lt)
  have HR2 := Lib.hid (own_below HR1.out hb2)
  have HB2 := Lib.hid (HB1.out.trans (hb2.mono HB1.out.size))
  clear hb2
  go_wp2
  go_end0
  exact ⟨rfl, ⟨_, HG2.out.alloc _, own_below HR2.out (bel_mk _ _)⟩, (HB2.out.mono (Nat.le_of_lt hgl)).trans ((bel_mk _ _).mono (Nat.le_trans (Nat.le_of_lt hgl) HB2.out.size))⟩
 | some q =>
  rw [hcd] at HC
  simp only [Option.toList_some]
  unfold cndV at HC
  dsimp only [Option.isSome] at HC
  go_enter Tryz.func85, Tryz.ntmps85
  go_wp2_with fail
  with_reducible refine HC.out.mono ?_
  rintro e' w2 ⟨rfl, hb2⟩
  have HG2 := Lib.hid ((HG1.out.below hb2 HG1.out.lt).alloc (.cells #[.int .i64 q.op, .int .i64 q.col, .int .i64 q.v.1, .int .i64 q.v.2.1, .string q.v.2.2] 64))
  have HR2 := Lib.hid (own_below (own_below HR1.out hb2) (bel_mk _ (.cells #[.int .i64 q.op, .int .i64 q.col, .int .i64 q.v.1, .int .i64 q.v.2.1, .string q.v.2.2] 64)))
  have HB2 := Lib.hid ((HB1.out.trans (hb2.mono HB1.out.size)).trans ((bel_mk w2 (.cells #[.int .i64 q.op, .int .i64 q.col, .int .i64 q.v.1, .int .i64 q.v.2.1, .string q.v.2.2] 64)).mono (by have := HB1.out.size; have := hb2.size; omega)))
  have hg2 := HG2.out.cell 0
  have HB3 := Lib.hid (HB2.out.trans ((bel_mk _ (.cells #[.int .i64 q.op, .int .i64 q.col, .int .i64 q.v.1, .int .i64 q.v.2.1, .string q.v.2.2] 64)).mono HB2.out.size))
  have hl2 : g < w2.heap.size := by have := HG2.out.lt; have h1 := HB1.out.size; have h2 := hb2.size; omega
  have hc2 := (HG1.out.below hb2 HG1.out.lt).cell 0
  clear hb2
  go_wp2_with (at_builtin; refine append_k1 _ rfl _ _ rfl base _ zs rfl (own_below HR2.out (bel_mk _ (.cells #[.int .i64 q.op, .int .i64 q.col, .int .i64 q.v.1, .int .i64 q.v.2.1, .string q.v.2.2] 64))) (w2.heap.size + 1) 1 q rfl (by have h := lit_k (w2.alloc (.cells #[.int .i64 q.op, .int .i64 q.col, .int .i64 q.v.1, .int .i64 q.v.2.1, .string q.v.2.2] 64)) q; simpa only [World.size_alloc] using h) hl (by have := HB3.out.size; omega) ?_; intro g3 cap3 w3 hr3 hg3 hv3; have hgg := (HG2.out.alloc (.cells #[.int .i64 q.op, .int .i64 q.col, .int .i64 q.v.1, .int .i64 q.v.2.1, .string q.v.2.2] 64)).grownX hg3 (fun b hb => by have := HGE.out b hb; omega); have c0 := hgg.cell 0; have k0 := hgg.free 0; have HR3 := Lib.hid hr3; have HG3 := Lib.hid hg3; have HGG := Lib.hid hgg; clear hr3 hg3 hv3 hgg)
  go_end0
  refine ⟨rfl, ⟨_, HGG.out.store 0 _, ?_⟩, (((HB3.out.mono (Nat.le_of_lt hgl)).grown HG3.out (by have := HB3.out.size; omega) (fun b hb => by have := HGE.out b hb; omega)).sc g 0 _)⟩
  rw [List.length_append]
  have h := ownK_far HR3.out (p := ⟨g, 0, none⟩) (by show g < base; exact hgb) (.slice (some ⟨g3, 0, none⟩) (zs.length + 1) cap3)
  rw [List.length_append] at h
  exact h
theorem RowN.below {W W' : World} {g base : Nat} {zs : List Cnd} (h : RowN W g base zs) (hb : Below W.heap.size W W') : RowN W' g base zs := by
 obtain ⟨v, h1, h2⟩ := h
 exact ⟨v, h1.below hb h1.lt, own_below h2 hb⟩
end Go.Proofs.YtdhemhmgenhmaaaGreat
namespace Go.Proofs.YtdhemhmgenhmaaaGreat
open Go.RowKit
def RdQ (w : World) (L B : Nat) (v : Value) (zs : List Cnd) : Prop :=
 ∃ A c, v = .slice A zs.length c ∧ zs.length ≤ 1099511627776 ∧ ∀ (k : Nat) (z : Cnd), zs[k]? = some z → ∃ ad : Addr, A = some ad ∧ L ≤ ad.block ∧ ad.block < B ∧
  w.cell? (ad.add (k * 5)) = some (.int .i64 z.op) ∧ w.cell? ⟨ad.block, ad.off + k * 5 + 1, none⟩ = some (.int .i64 z.col) ∧ w.cell? ⟨ad.block, ad.off + k * 5 + 2, none⟩ = some (.int .i64 z.v.1) ∧ w.cell? ⟨ad.block, ad.off + k * 5 + 3, none⟩ = some (.int .i64 z.v.2.1) ∧ w.cell? ⟨ad.block, ad.off + k * 5 + 4, none⟩ = some (.string z.v.2.2)
theorem RdQ.below {w w' : World} {L B : Nat} {v : Value} {zs : List Cnd} (h : RdQ w L B v zs) (hb : Below B w w') : RdQ w' L B v zs := by
 obtain ⟨A, c, h1, h2, h3⟩ := h
 refine ⟨A, c, h1, h2, fun k z hk => ?_⟩
 obtain ⟨ad, g1, g2, g3, c0, c1, c2, c3, c4⟩ := h3 k z hk
 exact ⟨ad, g1, g2, g3, (hb.cell (by rw [add_blk]; exact g3)).trans c0, (hb.cell (p := ⟨ad.block, _, none⟩) g3).trans c1, (hb.cell (p := ⟨ad.block, _, none⟩) g3).trans c2, (hb.cell (p := ⟨ad.block, _, none⟩) g3).trans c3, (hb.cell (p := ⟨ad.block, _, none⟩) g3).trans c4⟩
theorem RdQ.more {w : World} {L L' B B' : Nat} {v : Value} {zs : List Cnd} (h : RdQ w L B v zs) (hB : B ≤ B') (hL : L' ≤ L) : RdQ w L' B' v zs := by
 obtain ⟨A, c, h1, h2, h3⟩ := h
 refine ⟨A, c, h1, h2, fun k z hk => ?_⟩
 obtain ⟨ad, g1, g2, g3, g4⟩ := h3 k z hk
 exact ⟨ad, g1, by omega, by omega, g4⟩
theorem RdQ.step {w w' : World} {L B : Nat} {v : Value} {zs : List Cnd} (h : RdQ w L B v zs) (hb : Below w.heap.size w w') (hB : B ≤ w.heap.size) : RdQ w' L w'.heap.size v zs := ((h.more hB (Nat.le_refl _)).below hb).more hb.size (Nat.le_refl _)
theorem RdQ.far {w : World} {L B : Nat} {v : Value} {zs : List Cnd} (h : RdQ w L B v zs) {p : Addr} (hp : p.block < L) (u : Value) : RdQ (w.setCell p u) L B v zs := by
 obtain ⟨A, c, h1, h2, h3⟩ := h
 refine ⟨A, c, h1, h2, fun k z hk => ?_⟩
 obtain ⟨ad, g1, g2, g3, c0, c1, c2, c3, c4⟩ := h3 k z hk
 have hne : p.block ≠ ad.block := by omega
 exact ⟨ad, g1, g2, g3, (World.cell?_setCell_far w p (ad.add (k * 5)) u (by rw [add_blk]; exact hne)).trans c0, (World.cell?_setCell_far w p ⟨ad.block, _, none⟩ u hne).trans c1, (World.cell?_setCell_far w p ⟨ad.block, _, none⟩ u hne).trans c2, (World.cell?_setCell_far w p ⟨ad.block, _, none⟩ u hne).trans c3, (World.cell?_setCell_far w p ⟨ad.block, _, none⟩ u hne).trans c4⟩
theorem flatK_get (ps : List Cnd) (k : Nat) (p : Cnd) (h : ps[k]? = some p) (j : Nat) (hj : j < 5) : (flatK ps)[k * 5 + j]? = (cndL p)[j]? := by
 obtain ⟨hk, rfl⟩ := List.getElem?_eq_some_iff.1 h
 have e : ps = ps.take k ++ ps[k] :: ps.drop (k + 1) := by rw [List.getElem_cons_drop, List.take_append_drop]
 have e2 : flatK ps = flatK (ps.take k) ++ (cndL ps[k] ++ flatK (ps.drop (k + 1))) := by
  conv => lhs; rw [e]
  rw [flatK_append]
  rfl
 have hl : (flatK (ps.take k)).length = k * 5 := by rw [flatK_len, List.length_take]; omega
 have h5 : (cndL ps[k]).length = 5 := rfl
 rw [e2, List.getElem?_append_right (by omega), hl, show k * 5 + j - k * 5 = j by omega, List.getElem?_append_left (by omega)]
theorem rdQ_own {w : World} {base : Nat} {v : Value} {zs : List Cnd} (h : w.ownsRow base 64 5 v zs.length (flatK zs)) (hl : zs.length ≤ 1099511627776) : RdQ w base w.heap.size v zs := by
 rcases h.2 with ⟨rfl, h0⟩ | ⟨g, cap, cur, rfl, hb, hh, hn, hc, hs, ht⟩
 ·obtain rfl := List.eq_nil_of_length_eq_zero h0
  exact ⟨none, 0, rfl, by simp, fun k e hk => by simp at hk⟩
 ·have hg : g < w.heap.size := by
   rcases Nat.lt_or_ge g w.heap.size with h1 | h1
   ·exact h1
   ·rw [Array.getElem?_eq_none h1] at hh; cases hh
  have he : ∀ i u, (flatK zs)[i]? = some u → w.cell? ⟨g, i, none⟩ = some u := fun i u hu => by
   rw [cell_of_row w g i cur _ _ hh, ← Array.getElem?_toList]
   rw [← ht, List.getElem?_take] at hu
   split at hu
   ·exact hu
   ·cases hu
  refine ⟨some ⟨g, 0, none⟩, cap, rfl, hl, fun k z hk => ⟨⟨g, 0, none⟩, rfl, hb, hg, ?_⟩⟩
  rw [addX]
  have G := fun j hj u hu => he (k * 5 + j) u ((flatK_get zs k z hk j hj).trans hu)
  refine ⟨G 0 (by decide) _ rfl, ?_, ?_, ?_, ?_⟩
  ·show w.cell? ⟨g, 0 + k * 5 + 1, none⟩ = _
   rw [Nat.zero_add]; exact G 1 (by decide) _ rfl
  ·show w.cell? ⟨g, 0 + k * 5 + 2, none⟩ = _
   rw [Nat.zero_add]; exact G 2 (by decide) _ rfl
  ·show w.cell? ⟨g, 0 + k * 5 + 3, none⟩ = _
   rw [Nat.zero_add]; exact G 3 (by decide) _ rfl
  ·show w.cell? ⟨g, 0 + k * 5 + 4, none⟩ = _
   rw [Nat.zero_add]; exact G 4 (by decide) _ rfl
theorem own_two2K (W : World) (g : Nat) (hg : W.heap.size = g) (v : Value) : Own (W.alloc (.cells #[v] 60)) g 60 #[v] := by
 subst hg
 exact Own.new W _ _
theorem filterMap_le (zs : List Ex) : (zs.filterMap condE).length ≤ zs.length := List.length_filterMap_le _ _
theorem pConds_any (d : Nat) (e : Ex) (u : Value) (w : World) (L : Nat) (h : RdE w L w.heap.size d u e.args) (hl : (conjE d e).length ≤ 1099511627776) :
  Calls Tryz.prog 43 #[exV e u] w fun e' w' => ∃ v, e' = .returned v ∧ RdQ w' w.heap.size w'.heap.size v ((conjE d e).filterMap condE) ∧ Below w.heap.size w w' := by
 obtain ⟨A, c, rfl, _⟩ := h.slice
 have b1 := bel_mk w (.cells (exA e (.slice A e.args.length c)) 26)
 have b2 := bel_mk (w.alloc (.cells (exA e (.slice A e.args.length c)) 26)) (.cells #[.slice none 0 0] 60)
 have HB := Lib.hid (b1.trans (b2.mono b1.size))
 have HE := Lib.hid ((Own.new w 26 (exA e (.slice A e.args.length c))).alloc (.cells #[.slice none 0 0] 60))
 have HG := Lib.hid (own_two2K (w.alloc (.cells (exA e (.slice A e.args.length c)) 26)) (w.heap.size + 1) (by rw [World.size_alloc]) (.slice none 0 0))
 have HV := Lib.hid (pVisP_any 85 #[.pointer (some ⟨w.heap.size + 1, 0, none⟩)]
  (fun zs W => RowN W (w.heap.size + 1) (w.heap.size + 2) (zs.filterMap condE) ∧ Below (w.heap.size + 1) ((w.alloc (.cells (exA e (.slice A e.args.length c)) 26)).alloc (.cells #[.slice none 0 0] 60)) W)
  ((w.alloc (.cells (exA e (.slice A e.args.length c)) 26)).alloc (.cells #[.slice none 0 0] 60)) (w.heap.size + 1) L d (conjE d e) (by simp) (fun _ _ => rfl) (fun zs W h => h.2)
  (fun zs W W' ⟨hr, hb⟩ hb2 => ⟨hr.below hb2, hb.trans (hb2.mono (by have := hb.size; simp at this; omega))⟩)
  (fun zs c2 u2 d2 W hd ⟨hR, hb⟩ ⟨t, hT⟩ hr => by
   have hs := hb.size
   have hz2 : (w.alloc (.cells (exA e (.slice A e.args.length c)) 26)).heap.size + 1 ≤ W.heap.size := by have := hs; simp only [World.size_alloc] at this ⊢; exact this
   have hlz : (zs.filterMap condE).length ≤ 1099511627776 := by have := congrArg List.length hT; simp only [List.length_append] at this; have := filterMap_le zs; omega
   refine (pCd1_any d2 c2 u2 (w.heap.size + 1) (w.heap.size + 2) L (zs.filterMap condE) W ((hr.below hb).more (by simp only [World.size_alloc] at hz2; omega) (Nat.le_refl _)) hR (by omega) (by simp only [World.size_alloc] at hz2; omega) hlz).mono ?_
   rintro e' w' ⟨h1, h2, h3⟩
   refine ⟨h1, ?_, hb.trans h3⟩
   rw [List.filterMap_append, show [c2].filterMap condE = (condE c2).toList from by cases hc : condE c2 <;> simp [hc]]
   exact h2)
  d (Nat.le_refl _) e (.slice A e.args.length c) [] _ ⟨⟨.slice none 0 0, HG.out, World.ownsRow_nil _ _ _ 5⟩, Below.refl _ _⟩ (by have h3 := (h.step b1 (Nat.le_refl _)).below b2; simp only [World.size_alloc] at h3; exact h3) ⟨[], by simp⟩)
 have HL := Lib.hid hl
 clear b1 b2 h hl
 rw [List.nil_append] at HV
 generalize hzs : conjE d e = zs at *
 clear hzs
 unfold exV exA at *
 have e0 := HE.out.cell 0
 have e1 := HE.out.cell 1
 have e2 := HE.out.cell 2
 have e3 := HE.out.cell 3
 have e4 := HE.out.cell 4
 have e5 := HE.out.cell 5
 have e6 := HE.out.cell 6
 go_enter Tryz.func43, Tryz.ntmps43
 go_wp2_with fail
 with_reducible refine HV.out.mono ?_
 rintro e' w2 ⟨rfl, ⟨v2, hg2, hr2⟩, hb2⟩
 have c0 := hg2.cell 0
 have HB2 := Lib.hid (HB.out.trans (hb2.mono (by omega)))
 have HT := Lib.hid (rdQ_own hr2 (by have := HL.out; have := filterMap_le zs; omega))
 clear e0 e1 e2 e3 e4 e5 e6 HV HE HG HB hb2 hr2
 go_wp2
 go_ret
 exact ⟨v2, rfl, HT.out.more (Nat.le_refl _) (by omega), HB2.out⟩
end Go.Proofs.YtdhemhmgenhmaaaGreat
