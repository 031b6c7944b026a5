import Derived.Test.YthnmcpfmljibeaaMA
import Derived.WalkKit
import Derived.Lib.Hide
import Derived.Test.YthnmcpfmljibeaaMC
import Derived.WalkSpells
import Derived.WalkLawsBesides
import Derived.Deep.QuietTactic
import Derived.BigQuiet
import Derived.Handy
import Derived.Laws.AppendOwn
import Derived.Laws.MakeOwn
import Derived.Test.YthnmcpfmljibeaaRows
import Derived.MakeChecks
import Derived.ProofKit
import Derived.LaidMore
import Derived.Lay
import Derived.OpenShut
import Derived.ChangeSlices
import Derived.SizedLaws
import Derived.Deep.Slices
import Derived.Lib.SmallJoins
import Derived.Deep.SlicePairs
import Derived.Test.YthnmcpfmljibeaaMT
import Derived.Sort.Statements
import Derived.Shelf.GgSortFunc.Insertion
import Derived.Test.YthnmcpfmljibeaaMX
import Derived.Test.YthnmcpfmljibeaaProg
import Derived.Deep.RegionHeld3
import Derived.WalkSmall
import Derived.Test.YthnmcpfmljibeaaPRh
import Derived.Test.YthnmcpfmljibeaaPX
/-
  Small words for this seat's texts: what a call leaves as it was (cells and marks below the old heap), and what validity of a period means in numbers. Conditions: none.
-/
namespace Go.Proofs.Ythnmcpfmljibeaa
set_option maxRecDepth 100000
set_option linter.unusedVariables false
set_option linter.unusedSimpArgs false
open Go.RowKit

def ovl (a b c d : Int) : Bool := vld a b && vld c d && decide (a < d) && decide (c < b)
end Go.Proofs.Ythnmcpfmljibeaa
/-
  Rows: PutRow of the program and of the reference at valid values; the reference's ValidRow, the statements' valid: what each answers. Conditions: lengths.
-/
namespace Go.Proofs.Ythnmcpfmljibeaa
set_option maxRecDepth 100000
set_option linter.unusedVariables false
set_option linter.unusedSimpArgs false
open Go.RowKit

def szL (ps : List Vl) : Nat := (ps.map fun p => 11 + p.2.2.size).sum
end Go.Proofs.Ythnmcpfmljibeaa
/-
  Row of the program and of the reference: which row is read from any bytes at any offset; rows of the statements. Conditions: lengths.
-/
namespace Go.Proofs.Ythnmcpfmljibeaa
set_option maxRecDepth 100000
set_option linter.unusedVariables false
set_option linter.unusedSimpArgs false
open Go.RowKit

def zV : Vl := (0, 0, ⟨#[]⟩)
end Go.Proofs.Ythnmcpfmljibeaa
/-
  What the statements' rows give at their first world; how slices of bytes and numbers are opened, with what a machine bears. Conditions: none.
-/
namespace Go.Proofs.Ythnmcpfmljibeaa
set_option maxRecDepth 100000
set_option linter.unusedVariables false
set_option linter.unusedSimpArgs false
open Go.ChangeShapes Go.WideShapes Go.ChangeAt Go.RowKit Go.Joins Go.Deep

theorem maxLen_le : maxLen ≤ 9223372036854775807 := by unfold maxLen; omega
theorem cell_lt {w : World} {a : Addr} {v : Value} (h : w.cell? a = some v) : a.block < w.heap.size := by
  rcases Nat.lt_or_ge a.block w.heap.size with h1 | h1
  · exact h1
  · unfold World.cell? at h
    rw [Array.getElem?_eq_none h1] at h
    cases h
section
variable {H : Type} {enc : TypeId × Value → H} {W : World} {base : Nat}
end
end Go.Proofs.Ythnmcpfmljibeaa
/-
  How parameters that are periods or values are opened. Conditions: none.
-/
namespace Go.Proofs.Ythnmcpfmljibeaa
set_option maxRecDepth 100000
set_option linter.unusedVariables false
set_option linter.unusedSimpArgs false
open Go.ChangeShapes Go.WideShapes Go.ChangeAt Go.RowKit Go.Joins Go.Deep

theorem cellsVal : Try.prog.cellsOf 23 = 3 := by kernel_rfl
section
variable {H : Type} {enc : TypeId × Value → H} {W : World} {base : Nat}
end
end Go.Proofs.Ythnmcpfmljibeaa
/-
  How parameters that are slices of values are opened, and how much they hold, as the second forms reckon it. Conditions: none.
-/
namespace Go.Proofs.Ythnmcpfmljibeaa
set_option maxRecDepth 100000
set_option linter.unusedVariables false
set_option linter.unusedSimpArgs false
open Go.ChangeShapes Go.WideShapes Go.ChangeAt Go.RowKit Go.Joins Go.Deep

theorem cellsInt1 : Try.prog.cellsOf 3 = 1 := by kernel_rfl
theorem cellsStr1 : Try.prog.cellsOf 9 = 1 := by kernel_rfl
theorem addr_add1 (ad : Addr) : ad.add 1 = ⟨ad.block, ad.off + 1, none⟩ := by unfold Addr.add; simp
theorem addr_add2 (ad : Addr) : ad.add 2 = ⟨ad.block, ad.off + 2, none⟩ := by unfold Addr.add; simp
theorem bulk_vals {H : Type} (q : Nat → Vl) (D : Nat → DataW H) : ∀ l : List Nat, (∀ i ∈ l, (q i).2.2.size + 4 ≤ Rows.uptoBulk (D i)) → szL (l.map q) ≤ 3 * Rows.uptoBulkAll (l.map D) ∧ l.length ≤ Rows.uptoBulkAll (l.map D) := by
  intro l
  induction l with
  | nil => intro _; simp [szL]
  | cons i l ih =>
    intro h
    have h1 := h i (List.mem_cons_self ..)
    obtain ⟨h2, h3⟩ := ih (fun j hj => h j (List.mem_cons_of_mem _ hj))
    unfold szL at h2 ⊢
    simp only [List.map_cons, List.sum_cons, Rows.uptoBulkAll, List.length_cons]
    constructor <;> omega
section
variable {H : Type} {enc : TypeId × Value → H} {W : World} {base : Nat}
set_option maxRecDepth 100000 in
theorem open_valsU {v : Value} {d : DataW H} {p : List MemPlace} (hv : Value.okWide Try.prog W .any base 33 v) (h : DataW.Trod enc Try.prog W 0 (fun _ => true) true 33 v d p) :
    ∃ ps : List Vl, RdV W 0 W.heap.size v ps ∧ (∀ n c, v = .slice none n c → c = 0) ∧ szL ps ≤ 3 * Rows.uptoBulk d ∧ ps.length ≤ Rows.uptoBulk d := by
  obtain ⟨a0, len0, cap0, rfl⟩ := okWide_slice Try.underlying33 hv
  obtain ⟨fuel, hf⟩ := h
  rcases open_slice Try.underlying33 hf with ⟨hcs, _⟩ | ⟨a, len, cap, m, n, D, Pl, hcs, _, hl, hm, hmm, hxx, hx⟩
  · simp only [Value.cells, List.cons.injEq, and_true] at hcs
    injection hcs with e1 e2 e3
    subst e1 e2 e3
    exact ⟨[], ⟨none, 0, rfl, by simp, by simp⟩, fun n c e => by injection e with _ _ e3; exact e3.symm, by simp [szL], by simp⟩
  · simp only [Value.cells, List.cons.injEq, and_true] at hcs
    injection hcs with e1 e2 e3
    subst e1 e2 e3
    rw [if_pos rfl] at hmm
    subst hmm
    have hml := maxLen_le
    have each : ∀ i, i < len0 → ∃ q : Vl, W.cell? (a.add (i * 3)) = some (.int .i64 q.1) ∧ W.cell? ⟨(a.add (i * 3)).block, (a.add (i * 3)).off + 1, none⟩ = some (.int .i64 q.2.1) ∧ W.cell? ⟨(a.add (i * 3)).block, (a.add (i * 3)).off + 2, none⟩ = some (.string q.2.2) ∧ q.2.2.size + 4 ≤ Rows.uptoBulk (D i) := by
      intro i hi
      obtain ⟨cs', hc, ht⟩ := hx i (by omega)
      rw [cellsVal] at hc
      obtain ⟨_, hcl, hat⟩ := World.cells?_some hc
      obtain ⟨xs, n', _, hxy, _, hxl, hfl⟩ := DataW.trod_struct Try.underlying23 ht
      match xs, hxl, cs', hcl with
      | [y0, y1, y2], _, [v0, v1, v2], _ =>
        have g0 := hfl 0 _ rfl
        have g1 := hfl 1 _ rfl
        have g2 := hfl 2 _ rfl
        simp [cellsInt1, cellsStr1] at g0 g1 g2
        have e0 := hat 0 (by omega)
        have e1 := hat 1 (by omega)
        have e2 := hat 2 (by omega)
        rw [addr_add1] at e1
        rw [addr_add2] at e2
        obtain ⟨x, f0, hy0, _⟩ := DataW.trod_int Try.underlying3 g0
        obtain ⟨y, f1, hy1, _⟩ := DataW.trod_int Try.underlying3 g1
        obtain ⟨s, f2, hy2, _⟩ := DataW.trod_string Try.underlying9 g2
        simp at f0 f1 f2
        subst f0 f1 f2
        refine ⟨(x, y, s), by simpa [show (a.add (i * 3)).add 0 = a.add (i * 3) by unfold Addr.add; simp] using e0, by simpa using e1, by simpa using e2, ?_⟩
        have hD := congrArg Prod.fst hxy
        have hD2 : D i = .agg [y0.1, y1.1, y2.1] := by simpa using hD
        rw [hD2, hy0, hy1, hy2]
        simp only [Rows.uptoBulk, Rows.uptoBulkAll]
        have := Lib.size_eq s
        omega
    obtain ⟨q, hq⟩ := choose_lt each
    have hd := congrArg Prod.fst hxx
    have hd' : d = .slice ((List.range len0).map D) ((List.range (m - len0)).map fun j => D (len0 + j)) := hd
    obtain ⟨hb1, hb2⟩ := bulk_vals q D (List.range len0) (fun i hi => (hq i (List.mem_range.1 hi)).2.2.2)
    refine ⟨(List.range len0).map q, ⟨some a, _, by rw [List.length_map, List.length_range], by rw [List.length_map, List.length_range]; omega, fun k p hk => ?_⟩, (by intro n c e; cases e), ?_, ?_⟩
    · obtain ⟨hk1, hk2⟩ := List.getElem?_eq_some_iff.1 hk
      simp at hk1 hk2
      subst hk2
      obtain ⟨g0, g1, g2, _⟩ := hq k hk1
      have hb := cell_lt g0
      rw [add_block] at hb
      exact ⟨a, rfl, Nat.zero_le _, hb, g0, g1, g2⟩
    · rw [hd']
      show _ ≤ 3 * (Rows.uptoBulkAll _ + Rows.uptoBulkAll _ + 1)
      omega
    · rw [hd', List.length_map]
      show _ ≤ (Rows.uptoBulkAll _ + Rows.uptoBulkAll _ + 1)
      omega
end
end Go.Proofs.Ythnmcpfmljibeaa
/-
  Mathematics of keys: their bytes are ordered as the values are. Conditions: valid values.
-/
namespace Go.Proofs.Ythnmcpfmljibeaa
set_option maxRecDepth 100000
set_option linter.unusedVariables false
set_option linter.unusedSimpArgs false
open Go.RowKit

theorem u8_lt {a b : UInt8} : (a < b) ↔ a.toNat < b.toNat := Iff.rfl
theorem bl_lt {a b : UInt8} (x y : List UInt8) (h : a < b) : Op.bytesLess (a :: x) (b :: y) = true := by
  unfold Op.bytesLess; simp [h]
theorem bl_gt {a b : UInt8} (x y : List UInt8) (h : b < a) : Op.bytesLess (a :: x) (b :: y) = false := by
  unfold Op.bytesLess
  have h1 : ¬ a < b := fun h2 => by rw [u8_lt] at h h2; omega
  have h2 : (a == b) = false := by
    rw [beq_eq_false_iff_ne]; intro e; subst e; rw [u8_lt] at h; omega
  simp [h1, h2]
theorem bl_eq (a : UInt8) (x y : List UInt8) : Op.bytesLess (a :: x) (a :: y) = Op.bytesLess x y := by
  conv => lhs; unfold Op.bytesLess
  have h1 : ¬ a < a := fun h2 => by rw [u8_lt] at h2; omega
  simp [h1]
theorem tri (a b : UInt8) : a < b ∨ a = b ∨ b < a := by
  rcases Nat.lt_trichotomy a.toNat b.toNat with h | h | h
  · exact .inl h
  · exact .inr (.inl (UInt8.toNat_inj.1 h))
  · exact .inr (.inr h)
/-! ### values -/
theorem bl_total : ∀ s t : List UInt8, s ≠ t → Op.bytesLess s t = !Op.bytesLess t s
  | [], [], h => absurd rfl h
  | [], b :: t, _ => rfl
  | a :: s, [], _ => rfl
  | a :: s, b :: t, h => by
    rcases tri a b with h1 | h1 | h1
    · rw [bl_lt _ _ h1, bl_gt _ _ h1]; rfl
    · subst h1
      rw [bl_eq, bl_eq]
      exact bl_total s t (fun e => h (by rw [e]))
    · rw [bl_lt _ _ h1, bl_gt _ _ h1]; rfl
theorem lessP_total (p q : Vl) (h : p ≠ q) : lessP p q = !lessP q p := by
  obtain ⟨k, n, s⟩ := p
  obtain ⟨k2, n2, t⟩ := q
  unfold lessP
  dsimp only
  rcases Int.lt_trichotomy k k2 with h1 | h1 | h1
  · simp [h1, show ¬ k2 < k by omega, show ¬ k2 = k by omega]
  · subst h1
    rcases Int.lt_trichotomy n n2 with h2 | h2 | h2
    · simp [h2, show ¬ n2 < n by omega, show ¬ n2 = n by omega]
    · subst h2
      have hst : s.toList ≠ t.toList := fun e => h (by rw [mk_ext (s := s) (t := t) (by rw [← Lib.toList_data, ← Lib.toList_data]; exact e)])
      simp [bl_total _ _ hst]
    · simp [h2, show ¬ n < n2 by omega, show ¬ n = n2 by omega]
  · simp [h1, show ¬ k < k2 by omega, show ¬ k = k2 by omega]
theorem bl_irr : ∀ x : List UInt8, Op.bytesLess x x = false
  | [] => rfl
  | a :: x => by rw [bl_eq]; exact bl_irr x
theorem lessP_irr (p : Vl) : lessP p p = false := by
  unfold lessP; simp [bl_irr]
end Go.Proofs.Ythnmcpfmljibeaa
/-
  The order of rows by columns is a strict total order; sorted lists (mathematics). Conditions: none.
-/
namespace Go.Proofs.Ythnmcpfmljibeaa
set_option maxRecDepth 100000
set_option linter.unusedVariables false
set_option linter.unusedSimpArgs false
open Go.RowKit Go.Sort

/-- The column i of a row: a null if there is none. -/
def atP (ps : List Vl) (i : Int) : Vl := if 0 ≤ i then ps.getD i.toNat zV else zV
theorem cmpP_neg (p q : Vl) : cmpP q p = - cmpP p q := by
  unfold cmpP
  by_cases h2 : p = q
  · subst h2; simp [lessP_irr]
  · have h3 := lessP_total p q h2
    have h4 : ¬ q = p := fun e => h2 e.symm
    cases hq : lessP q p
    · rw [hq] at h3; have h5 : lessP p q = true := by rw [h3]; rfl
      simp [h5, h4]
    · rw [hq] at h3; have h5 : lessP p q = false := by rw [h3]; rfl
      simp [h5, h2]
end Go.Proofs.Ythnmcpfmljibeaa
/-
  Comparing rows, the program's side, with the world that is left said exactly enough for a callback of slices.SortFunc. Conditions: lengths. (Written by mkTuG.py.)
-/
namespace Go.Proofs.Ythnmcpfmljibeaa
set_option maxRecDepth 100000
set_option linter.unusedVariables false
set_option linter.unusedSimpArgs false
open Go.RowKit

theorem gb_of {w w' : World} (h : Below w.heap.size w w') (hd : w.drawn ≤ w'.drawn) : GB w w' := ⟨h, hd⟩
end Go.Proofs.Ythnmcpfmljibeaa
/-
  One column of a row, of the program and of the reference; comparing by one column; the closure of tuple.Order. Conditions: lengths. (Written by mkTuC.py.)
-/
namespace Go.Proofs.Ythnmcpfmljibeaa
set_option maxRecDepth 100000
set_option linter.unusedVariables false
set_option linter.unusedSimpArgs false
open Go.RowKit

theorem atP_neg (p : List Vl) (i : Int) (h : i < 0) : atP p i = zV := by unfold atP; rw [if_neg (by omega)]
theorem atP_out (p : List Vl) (k : Nat) (h : ¬ k < p.length) : atP p (k : Nat) = zV := by
  unfold atP; rw [if_pos (by omega), Int.toNat_natCast, List.getD_eq_getElem?_getD, List.getElem?_eq_none (by omega)]; rfl
theorem atP_in (p : List Vl) (k : Nat) (h : k < p.length) : atP p (k : Nat) = p[k] := by
  unfold atP; rw [if_pos (by omega), Int.toNat_natCast, List.getD_eq_getElem?_getD, List.getElem?_eq_getElem h]; rfl
set_option maxHeartbeats 400000 in
theorem grNull_any (w : World) : Calls Try.prog 34 #[] w fun e w' => e = .returned (.agg #[.int .i64 0, .int .i64 0, .string ⟨#[]⟩]) ∧ GB w w' := by
  go_enter Try.func34, Try.ntmps34
  go_wp2
  (try simp only [Exit.inBlock, Exit.then]); refine bodyPost_ret_by (results_cell_row1 (by rfl) _ _ (w.heap.size) _ (by rfl) (load_val (Own.new _ _ _))) ?_ ?_; (focus rfl); refine ⟨rfl, ?_⟩
  refine gb_of ?_ (by first | exact Nat.le_refl _ | (simp; omega))
  (repeat' (first | (with_reducible exact Below.refl _ _) | (with_reducible assumption) | (with_reducible refine Below.alloc ?_ ?_ _) | (with_reducible refine Below.drew ?_) | (with_reducible refine Below.setCell ?_ ?_ _) | (with_reducible refine Below.trans ?_ (Below.mono (by assumption) ?_)) | go_size))
set_option maxRecDepth 100000 in
set_option maxHeartbeats 1600000 in
theorem rAt_any (u : Value) (p : List Vl) (i : Int) (w : World) (L : Nat) (hu : RdV w L w.heap.size u p) :
    Calls Try.prog 13 #[u, .int .i64 i] w fun e w' => e = .returned (valV (atP p i)) ∧ GB w w' := by
  obtain ⟨A, c, rfl, hl1, hc1⟩ := hu
  have oB : Own (w.alloc (.cells #[.int .i64 0, .int .i64 0, .string ⟨#[]⟩] 23)) w.heap.size 23 #[.int .i64 0, .int .i64 0, .string ⟨#[]⟩] := Own.new _ _ _
  by_cases h0 : i < 0
  · rw [atP_neg p i h0]
    show Calls _ _ _ _ (fun e w' => e = .returned (.agg #[.int .i64 0, .int .i64 0, .string ⟨#[]⟩]) ∧ GB w w')
    clear hc1
    go_enter Try.func13, Try.ntmps13
    go_wp2_with fail
    refine (grNull_any _).mono ?_
    rintro e w1 ⟨rfl, hb1, hd1⟩
    have z1 := hb1.size
    simp only [World.size_alloc] at z1
    have o1 := oB.below hb1 (by simp only [World.size_alloc]; omega)
    have d0 := o1.cell 0; have e0 := o1.free 0; have d1 := o1.cell 1; have e1 := o1.free 1; have d2 := o1.cell 2; have e2 := o1.free 2; (try simp only [List.getElem?_toArray, List.getElem?_cons_zero, List.getElem?_cons_succ] at d0 d1 d2)
    go_wp2
    (try simp only [Exit.inBlock, Exit.then]); refine bodyPost_ret_by (results_cell_row1 (by rfl) _ _ (w.heap.size) _ (by rfl) (load_val (((o1.store 0 _).store 1 _).store 2 _))) ?_ ?_; (focus rfl); refine ⟨rfl, ?_⟩
    refine gb_of ?_ (by first | exact hd1 | (simp at hd1 ⊢; omega))
    (repeat' (first | (with_reducible exact Below.refl _ _) | (with_reducible assumption) | (with_reducible refine Below.alloc ?_ ?_ _) | (with_reducible refine Below.drew ?_) | (with_reducible refine Below.setCell ?_ ?_ _) | (with_reducible refine Below.trans ?_ (Below.mono (by assumption) ?_)) | go_size))
  · obtain ⟨k, rfl⟩ := Int.eq_ofNat_of_zero_le (show 0 ≤ i by omega)
    by_cases hk : k < p.length
    · have hki : (k : Int) < p.length := by omega
      have hki2 : ¬ (k : Int) ≥ p.length := by omega
      rw [atP_in p k hk]
      obtain ⟨ad, rfl, _, hab, c0, c1, c2⟩ := hc1 k _ (List.getElem?_eq_getElem hk)
      generalize p[k] = q at *
      obtain ⟨kd, n, s⟩ := q
      unfold valV
      dsimp only at c0 c1 c2 ⊢
      have d0 := ((bel_mark w (.cells #[.int .i64 0, .int .i64 0, .string ⟨#[]⟩] 23)).cell (p := ad.add (k * 3)) (by rw [add_block]; exact hab)).trans c0
      have d1 := ((bel_mark w (.cells #[.int .i64 0, .int .i64 0, .string ⟨#[]⟩] 23)).cell (p := ⟨(ad.add (k * 3)).block, (ad.add (k * 3)).off + 1, none⟩) (by show (ad.add (k * 3)).block < _; rw [add_block]; exact hab)).trans c1
      have d2 := ((bel_mark w (.cells #[.int .i64 0, .int .i64 0, .string ⟨#[]⟩] 23)).cell (p := ⟨(ad.add (k * 3)).block, (ad.add (k * 3)).off + 2, none⟩) (by show (ad.add (k * 3)).block < _; rw [add_block]; exact hab)).trans c2
      clear c0 c1 c2 hc1
      go_enter Try.func13, Try.ntmps13
      go_wp2
      (try simp only [Exit.inBlock, Exit.then]); refine bodyPost_ret_by (results_cell_row1 (by rfl) _ _ (w.heap.size) _ (by rfl) (load_val (Own.new _ _ _))) ?_ ?_; (focus rfl); refine ⟨rfl, ?_⟩
      refine gb_of ?_ (by first | exact Nat.le_refl _ | (simp; omega))
      (repeat' (first | (with_reducible exact Below.refl _ _) | (with_reducible assumption) | (with_reducible refine Below.alloc ?_ ?_ _) | (with_reducible refine Below.drew ?_) | (with_reducible refine Below.setCell ?_ ?_ _) | (with_reducible refine Below.trans ?_ (Below.mono (by assumption) ?_)) | go_size))
    · have hki : ¬ (k : Int) < p.length := by omega
      have hki2 : (k : Int) ≥ p.length := by omega
      rw [atP_out p k hk]
      show Calls _ _ _ _ (fun e w' => e = .returned (.agg #[.int .i64 0, .int .i64 0, .string ⟨#[]⟩]) ∧ GB w w')
      clear hc1
      go_enter Try.func13, Try.ntmps13
      go_wp2_with fail
      refine (grNull_any _).mono ?_
      rintro e w1 ⟨rfl, hb1, hd1⟩
      have z1 := hb1.size
      simp only [World.size_alloc] at z1
      have o1 := oB.below hb1 (by simp only [World.size_alloc]; omega)
      have d0 := o1.cell 0; have e0 := o1.free 0; have d1 := o1.cell 1; have e1 := o1.free 1; have d2 := o1.cell 2; have e2 := o1.free 2; (try simp only [List.getElem?_toArray, List.getElem?_cons_zero, List.getElem?_cons_succ] at d0 d1 d2)
      go_wp2
      (try simp only [Exit.inBlock, Exit.then]); refine bodyPost_ret_by (results_cell_row1 (by rfl) _ _ (w.heap.size) _ (by rfl) (load_val (((o1.store 0 _).store 1 _).store 2 _))) ?_ ?_; (focus rfl); refine ⟨rfl, ?_⟩
      refine gb_of ?_ (by first | exact hd1 | (simp at hd1 ⊢; omega))
      (repeat' (first | (with_reducible exact Below.refl _ _) | (with_reducible assumption) | (with_reducible refine Below.alloc ?_ ?_ _) | (with_reducible refine Below.drew ?_) | (with_reducible refine Below.setCell ?_ ?_ _) | (with_reducible refine Below.trans ?_ (Below.mono (by assumption) ?_)) | go_size))
end Go.Proofs.Ythnmcpfmljibeaa
/-
  Contracts of Allen's relations: the number of a relation, its inverse, the relation of two periods. Conditions: none.
-/
namespace Go.Proofs.Ythnmcpfmljibeaa.Aln
set_option maxRecDepth 100000
set_option linter.unusedVariables false
set_option linter.unusedSimpArgs false
open Go.RowKit

set_option maxHeartbeats 400000 in
theorem rvalid_any (a b : Int) (w : World) :
    Calls Try.prog 15 #[.agg #[.int .i64 a, .int .i64 b]] w fun e w' => e = .returned (.bool (vld a b)) ∧ Below w.heap.size w w' := by
  unfold vld
  by_cases h1 : 0 ≤ a <;> by_cases h2 : a < b <;> by_cases h3 : b ≤ 1099511627776
  all_goals first | (exfalso; omega) | skip
  all_goals
    go_enter Try.func15, Try.ntmps15
    go_wp2
    go_ret
    exact ⟨by simp [*], (Below.refl _ _).alloc (Nat.le_refl _) _⟩

end Go.Proofs.Ythnmcpfmljibeaa.Aln
/-
  The reference's narrowed and on. Conditions: valid values, lengths.
-/
namespace Go.Proofs.Ythnmcpfmljibeaa
set_option maxRecDepth 100000
set_option linter.unusedVariables false
set_option linter.unusedSimpArgs false
open Go.RowKit

theorem own_three1 {w : World} {t : TypeId} {cs : Array Value} (o o2 : Obj) : Own (((w.alloc o).alloc o2).alloc (.cells cs t)) (w.heap.size + 1 + 1) t cs := by
  have h := Own.new ((w.alloc o).alloc o2) t cs
  rwa [World.size_alloc, World.size_alloc] at h
theorem bel_three (w : World) (o o2 o3 : Obj) : Below w.heap.size w (((w.alloc o).alloc o2).alloc o3) :=
  ((bel_mk w o).trans ((bel_mk _ o2).mono (by simp))).trans ((bel_mk _ o3).mono (by simp; omega))
end Go.Proofs.Ythnmcpfmljibeaa
