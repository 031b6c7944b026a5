import Derived.Test.YthnmcpfmljibeaaProg
import Derived.Test.YthnmcpfmljibeaaMB
import Derived.Test.YthnmcpfmljibeaaMA
import Derived.WalkSmall
import Derived.Laws.AppendOwn
import Derived.Laws.AppendOwnNone
import Derived.Shelf.Spec.SlicesGrow
import Derived.Lib.SmallJoins
import Derived.Lib.BufferRead
import Derived.OwnWalk
import Derived.WalkKit
import Derived.WalkSpells
import Derived.WalkLawsBesides
import Derived.Deep.QuietTactic
import Derived.BigQuiet
import Derived.Handy
import Derived.Lib.Hide
import Derived.Laws.BitsAllLaws
import Derived.Laws.Bits64
import Derived.Lib.Zigzag
import Derived.ArgAppend
import Derived.Outline
import Derived.Lib.BufferWrite
import Derived.Laws.CopyOwn
import Derived.Deep.RegionLaw
import Derived.Deep.RegionLawGrows
import Derived.Deep.AppendLies
import Derived.Deep.RegionWith
import Derived.Lib.ConvBytes
import Derived.Deep.RegionHeld3
import Derived.Laws.StructEq
import Derived.Lib.IndexMore
import Derived.Lib.Strings
import Derived.Lib.DecodeN
import Derived.Shelf.GgClosure.StringsIndexFunc
import Derived.Laws.MakeOwn
import Derived.Test.YthnmcpfmljibeaaRows
import Derived.MakeChecks
import Derived.ProofKit
import Derived.LaidMore
import Derived.Lay
import Derived.OpenShut
import Derived.ChangeSlices
import Derived.SizedLaws
import Derived.Deep.Slices
import Derived.Deep.SlicePairs
/-
  Bytes that are read, rows of bytes that a call makes: the plain laws. Conditions: lengths.
-/
namespace Go.Proofs.Ythnmcpfmljibeaa
set_option maxRecDepth 100000
set_option linter.unusedVariables false
set_option linter.unusedSimpArgs false
open Go.RowKit



theorem add_block (ad : Addr) (k : Nat) : (ad.add k).block = ad.block := by unfold Addr.add; split <;> rfl
/-- The slice v holds the bytes l; it lies below block B and not below block L; its room is at least its length. -/
def RdB (w : World) (L B : Nat) (v : Value) (l : List UInt8) : Prop :=
  ∃ A c, v = .slice A l.length c ∧ l.length ≤ 9223372036854775807 ∧ l.length ≤ c ∧ ∀ (k : Nat) (b : UInt8), l[k]? = some b → ∃ ad : Addr, A = some ad ∧ L ≤ ad.block ∧ ad.block < B ∧ w.cell? (ad.add k) = some (.int .u8 (b.toNat : Nat))
theorem RdB.below {w w' : World} {L B : Nat} {v : Value} {l : List UInt8} (h : RdB w L B v l) (hb : Below B w w') : RdB w' L B v l := by
  obtain ⟨A, c, hv, hl, hcc, hc⟩ := h
  exact ⟨A, c, hv, hl, hcc, fun k n hk => let ⟨ad, h1, h0, h2, h3⟩ := hc k n hk; ⟨ad, h1, h0, h2, (hb.cell (p := ad.add k) (by rw [add_block]; exact h2)).trans h3⟩⟩
theorem RdB.more {w : World} {L L' B B' : Nat} {v : Value} {l : List UInt8} (h : RdB w L B v l) (hB : B ≤ B') (hL : L' ≤ L) : RdB w L' B' v l := by
  obtain ⟨A, c, hv, hl, hcc, hc⟩ := h
  exact ⟨A, c, hv, hl, hcc, fun k n hk => let ⟨ad, h1, h0, h2, h3⟩ := hc k n hk; ⟨ad, h1, by omega, by omega, h3⟩⟩
theorem RdB.step {w w' : World} {L B : Nat} {v : Value} {l : List UInt8} (h : RdB w L B v l) (hb : Below w.heap.size w w') (hB : B ≤ w.heap.size) : RdB w' L w'.heap.size v l :=
  (h.below (hb.mono hB)).more (Nat.le_trans hB hb.size) (Nat.le_refl _)
theorem RdB.at {w : World} {L B : Nat} {A : Option Addr} {m c : Nat} {l : List UInt8} (h : RdB w L B (.slice A m c) l) {k : Nat} {b : UInt8} (hk : l[k]? = some b) : ∃ ad : Addr, A = some ad ∧ L ≤ ad.block ∧ ad.block < B ∧ w.cell? (ad.add k) = some (.int .u8 (b.toNat : Nat)) := by
  obtain ⟨A', c', hv, hl, _, hc⟩ := h
  injection hv with e1 e2 e3
  subst e1
  exact hc k b hk


def bytV (l : List UInt8) : List Value := l.map fun b => .int .u8 (b.toNat : Nat)
theorem info_partsB {t : TypeId} {z : Value} {a b : Nat} (h : (Try.prog.info? t).map (fun i => (i.zero, i.size, i.bytes)) = some (some z, a, b)) : ∃ i, Try.prog.info? t = some i ∧ i.zero = some z ∧ i.size = a ∧ i.bytes = b := by
  cases hi : Try.prog.info? t with
  | none => rw [hi] at h; cases h
  | some i =>
    rw [hi] at h
    simp only [Option.map_some, Option.some.injEq, Prod.mk.injEq] at h
    exact ⟨i, rfl, h.1, h.2.1, h.2.2⟩
theorem own_below {W w1 : World} {base e size n : Nat} {v : Value} {xs : List Value} (h : W.ownsRow base e size v n xs) (hb : Below W.heap.size W w1) : w1.ownsRow base e size v n xs :=
  h.kept (row := none) ⟨hb.os, hb.tape, hb.output, hb.size, fun j hj _ => hb.block j hj⟩ (by cases hv : v.ownBlock <;> simp)
theorem bel_mark (w : World) (o : Obj) : Below w.heap.size w (w.alloc o) := (Below.refl w.heap.size w).alloc (Nat.le_refl _) o
end Go.Proofs.Ythnmcpfmljibeaa
/-
  The program's zigzag, fromZigzag, isOffset and limited: what each answers. Conditions: numbers of 64 bits.
-/
namespace Go.Proofs.Ythnmcpfmljibeaa
set_option maxRecDepth 100000
set_option linter.unusedVariables false
set_option linter.unusedSimpArgs false
open Go.RowKit

end Go.Proofs.Ythnmcpfmljibeaa
/-
  The program's appendInt and PutInt: what each answers. Conditions: numbers of 64 bits; lengths.
-/
namespace Go.Proofs.Ythnmcpfmljibeaa
set_option maxRecDepth 100000
set_option linter.unusedVariables false
set_option linter.unusedSimpArgs false
open Go.RowKit

/-- A row of the call's own, or an argument cut to its length. -/
def Buf (w : World) (base : Nat) (v : Value) (l : List UInt8) : Prop :=
  w.ownsRow base 5 1 v l.length (bytV l) ∨ ∃ A, v = .slice A l.length l.length ∧ RdB w 0 base v l
theorem Buf.step {w w' : World} {base : Nat} {v : Value} {l : List UInt8} (h : Buf w base v l) (hb : Below w.heap.size w w') (hz : base ≤ w.heap.size) : Buf w' base v l := by
  rcases h with h | ⟨A, h1, h2⟩
  · exact .inl (own_below h hb)
  · exact .inr ⟨A, h1, h2.below (hb.mono hz)⟩
end Go.Proofs.Ythnmcpfmljibeaa
/-
  The program's appendBytes and appendText: what each answers. Conditions: lengths.
-/
namespace Go.Proofs.Ythnmcpfmljibeaa
set_option maxRecDepth 100000
set_option linter.unusedVariables false
set_option linter.unusedSimpArgs false
open Go.RowKit

end Go.Proofs.Ythnmcpfmljibeaa
/-
  The program's appendText, appendOrdered, appendValue and appendKey at numbers and texts, PutValue at a text: what each answers. Conditions: lengths, numbers of 64 bits.
-/
namespace Go.Proofs.Ythnmcpfmljibeaa
set_option maxRecDepth 100000
set_option linter.unusedVariables false
set_option linter.unusedSimpArgs false
open Go.RowKit

end Go.Proofs.Ythnmcpfmljibeaa
/-
  append and calls of the program in regions that draw their order: as laws of one step. Conditions: lengths.
-/
namespace Go.Proofs.Ythnmcpfmljibeaa
set_option maxRecDepth 100000
set_option linter.unusedVariables false
set_option linter.unusedSimpArgs false
open Go.RowKit

/-- As Buf, and the row, if it is the call's own, lies below block N. -/
def BufN (w : World) (base N : Nat) (v : Value) (l : List UInt8) : Prop :=
  (w.ownsRow base 5 1 v l.length (bytV l) ∧ ∀ g, v.ownBlock = some g → g < N) ∨ ∃ A, v = .slice A l.length l.length ∧ RdB w 0 base v l
theorem BufN.step {w w' : World} {base N : Nat} {v : Value} {l : List UInt8} (h : BufN w base N v l) (hb : Below w.heap.size w w') (hz : base ≤ w.heap.size) : BufN w' base N v l := by
  rcases h with ⟨h, h2⟩ | ⟨A, h1, h2⟩
  · exact .inl ⟨own_below h hb, h2⟩
  · exact .inr ⟨A, h1, h2.below (hb.mono hz)⟩
end Go.Proofs.Ythnmcpfmljibeaa
/-
  The program's appendValue and PutValue at a text, appendKey at numbers and texts: what each answers. Conditions: lengths, numbers of 64 bits.
-/
namespace Go.Proofs.Ythnmcpfmljibeaa
set_option maxRecDepth 100000
set_option linter.unusedVariables false
set_option linter.unusedSimpArgs false
open Go.RowKit

/-- A value: its kind, its number, its text. -/
abbrev Vl := Int × Int × ByteArray
def valV (p : Vl) : Value := .agg #[.int .i64 p.1, .int .i64 p.2.1, .string p.2.2]
end Go.Proofs.Ythnmcpfmljibeaa
/-
  The reference's with and PutInt: what each answers. Conditions: numbers of 64 bits; lengths.
-/
namespace Go.Proofs.Ythnmcpfmljibeaa
set_option maxRecDepth 100000
set_option linter.unusedVariables false
set_option linter.unusedSimpArgs false
open Go.RowKit

end Go.Proofs.Ythnmcpfmljibeaa
/-
  The program's Int and the reference's: what is read from any bytes at any offset. Conditions: lengths.
-/
namespace Go.Proofs.Ythnmcpfmljibeaa
set_option maxRecDepth 100000
set_option linter.unusedVariables false
set_option linter.unusedSimpArgs false
open Go.RowKit

end Go.Proofs.Ythnmcpfmljibeaa
/-
  The reference's Int: what is read from any bytes at any offset. Conditions: lengths.
-/
namespace Go.Proofs.Ythnmcpfmljibeaa
set_option maxRecDepth 100000
set_option linter.unusedVariables false
set_option linter.unusedSimpArgs false
open Go.RowKit

end Go.Proofs.Ythnmcpfmljibeaa
/-
  Text of the program and of the reference: what is read from any bytes at any offset with any limit. Conditions: lengths.
-/
namespace Go.Proofs.Ythnmcpfmljibeaa
set_option maxRecDepth 100000
set_option linter.unusedVariables false
set_option linter.unusedSimpArgs false
open Go.RowKit

end Go.Proofs.Ythnmcpfmljibeaa
/-
  The program's appendKey at a text: what it answers. Conditions: lengths.
-/
namespace Go.Proofs.Ythnmcpfmljibeaa
set_option maxRecDepth 100000
set_option linter.unusedVariables false
set_option linter.unusedSimpArgs false
open Go.RowKit

end Go.Proofs.Ythnmcpfmljibeaa
/-
  Key over a row of numbers and texts: what it answers. Conditions: lengths, numbers of 64 bits.
-/
namespace Go.Proofs.Ythnmcpfmljibeaa
set_option maxRecDepth 100000
set_option linter.unusedVariables false
set_option linter.unusedSimpArgs false
open Go.RowKit

/-- A row of values: three cells each. -/
def RdV (w : World) (L B : Nat) (v : Value) (ps : List Vl) : Prop :=
  ∃ A c, v = .slice A ps.length c ∧ ps.length ≤ 9223372036854775807 ∧ ∀ (k : Nat) (p : Vl), ps[k]? = some p → ∃ ad : Addr, A = some ad ∧ L ≤ ad.block ∧ ad.block < B ∧
    w.cell? (ad.add (k * 3)) = some (.int .i64 p.1) ∧ w.cell? ⟨(ad.add (k * 3)).block, (ad.add (k * 3)).off + 1, none⟩ = some (.int .i64 p.2.1) ∧ w.cell? ⟨(ad.add (k * 3)).block, (ad.add (k * 3)).off + 2, none⟩ = some (.string p.2.2)
end Go.Proofs.Ythnmcpfmljibeaa
/-
  The chapter's examples, as the statements check them. Conditions: none.
-/
namespace Go.Proofs.Ythnmcpfmljibeaa
set_option maxRecDepth 100000
set_option linter.unusedVariables false
set_option linter.unusedSimpArgs false
open Go.RowKit

end Go.Proofs.Ythnmcpfmljibeaa
/-
  equal of the statements: what it answers where both sides hold the same bytes; the walk of CodecInts. Conditions: lengths, numbers of 64 bits.
-/
namespace Go.Proofs.Ythnmcpfmljibeaa
set_option maxRecDepth 100000
set_option linter.unusedVariables false
set_option linter.unusedSimpArgs false
open Go.RowKit

end Go.Proofs.Ythnmcpfmljibeaa
/-
  PutText of the program and of the reference: what each answers; the walk of the statement CodecTexts. Conditions: lengths.
-/
namespace Go.Proofs.Ythnmcpfmljibeaa
set_option maxRecDepth 100000
set_option linter.unusedVariables false
set_option linter.unusedSimpArgs false
open Go.RowKit

end Go.Proofs.Ythnmcpfmljibeaa
/-
  appendValue and PutValue of the program, PutValue of the reference, at any valid value: what each answers. Conditions: lengths.
-/
namespace Go.Proofs.Ythnmcpfmljibeaa
set_option maxRecDepth 100000
set_option linter.unusedVariables false
set_option linter.unusedSimpArgs false
open Go.RowKit

/-- Whether a text is printable: all bytes from 32 to 126. -/
def prnB (l : List UInt8) : Bool := l.all fun b => decide (32 ≤ b.toNat) && decide (b.toNat ≤ 126)
/-- Whether p is a value. -/
def okP (p : Vl) : Bool :=
  if p.1 = 0 then decide (p.2.1 = 0) && (p.2.2.toList == [])
  else if p.1 = 1 then decide (-1125899906842624 ≤ p.2.1) && decide (p.2.1 ≤ 1125899906842624) && (p.2.2.toList == [])
  else if p.1 = 2 then decide (p.2.1 = 0) && decide (p.2.2.size ≤ 200) && prnB p.2.2.data.toList
  else if p.1 = 3 then (decide (p.2.1 = 0) || decide (p.2.1 = 1)) && (p.2.2.toList == [])
  else false
theorem load_val {w : World} {g : Nat} {x y z : Value} (h : Own w g 23 #[x, y, z]) : (loadVar 23 ⟨g, 0, none⟩).run Try.prog w = .ok (.agg #[x, y, z]) w :=
  run_loadVar_row w g 23 23 #[x, y, z] (0, 0) _ h Try.underlying23 rfl (by kernel_rfl)
theorem results_cell_row1 {fn : Func} {p : Tmp} {ty : TypeId} (h : fn.results = #[.cell p ty]) (tmps : Array Value) (w : World) (g : Nat) (cs : Array Value) (hp : tmps.getD p undef = .pointer (some ⟨g, 0, none⟩))
    (hl : (loadVar ty ⟨g, 0, none⟩).run Try.prog w = .ok (.agg cs) w) : (results fn tmps).run Try.prog w = .ok (.agg cs) w := by
  have hp' : tmps[p]?.getD undef = .pointer (some ⟨g, 0, none⟩) := by simpa using hp
  simp [results, h, hp', asAddr, hl]
set_option maxHeartbeats 400000 in
theorem pNull_any (w : World) : Calls Try.prog 67 #[] w fun e w' => e = .returned (valV (0, 0, ⟨#[]⟩)) ∧ Below w.heap.size w w' := by
  go_enter Try.func67, Try.ntmps67
  go_wp2
  (try simp only [Exit.inBlock, Exit.then]); refine bodyPost_ret_by (results_cell_row1 (by rfl) _ _ (w.heap.size) _ (by rfl) (load_val (Own.new _ _ _))) ?_ ?_; (focus rfl); refine ⟨rfl, ?_⟩
  (repeat' (first | (with_reducible exact Below.refl _ _) | (with_reducible assumption) | (with_reducible refine Below.alloc ?_ ?_ _) | (with_reducible refine Below.drew ?_) | (with_reducible refine Below.setCell ?_ ?_ _) | (with_reducible refine Below.trans ?_ (Below.mono (by assumption) ?_)) | go_size))
set_option maxHeartbeats 400000 in
theorem pBool_any (b : Bool) (w : World) : Calls Try.prog 28 #[.bool b] w fun e w' => e = .returned (.agg #[.int .i64 3, .int .i64 (if b then 1 else 0), .string ⟨#[]⟩]) ∧ Below w.heap.size w w' := by
  cases b
  all_goals
    go_enter Try.func28, Try.ntmps28
    go_wp2
    (try simp only [Exit.inBlock, Exit.then]); refine bodyPost_ret_by (results_cell_row1 (by rfl) _ _ (w.heap.size) _ (by rfl) (load_val (Own.new _ _ _))) ?_ ?_; (focus rfl); refine ⟨rfl, ?_⟩
    (repeat' (first | (with_reducible exact Below.refl _ _) | (with_reducible assumption) | (with_reducible refine Below.alloc ?_ ?_ _) | (with_reducible refine Below.drew ?_) | (with_reducible refine Below.setCell ?_ ?_ _) | (with_reducible refine Below.trans ?_ (Below.mono (by assumption) ?_)) | go_size))
end Go.Proofs.Ythnmcpfmljibeaa
/-
  The reference's PutValue at any valid value: what it answers. Conditions: lengths.
-/
namespace Go.Proofs.Ythnmcpfmljibeaa
set_option maxRecDepth 100000
set_option linter.unusedVariables false
set_option linter.unusedSimpArgs false
open Go.RowKit

end Go.Proofs.Ythnmcpfmljibeaa
/-
  The reference's ValidValue: what it answers. Conditions: none.
-/
namespace Go.Proofs.Ythnmcpfmljibeaa
set_option maxRecDepth 100000
set_option linter.unusedVariables false
set_option linter.unusedSimpArgs false
open Go.RowKit

theorem prn_take_not {s : ByteArray} {k : Nat} (h : k < s.size) (hk : (s[k].toNat : Int) < 32 ∨ 126 < (s[k].toNat : Int)) : prnB s.data.toList = false := by
  unfold prnB
  rw [Bool.eq_false_iff]; intro e
  rw [List.all_eq_true] at e
  have hm : s[k] ∈ s.data.toList := by
    have : s.data.toList[k]'(by simpa using h) ∈ s.data.toList := List.getElem_mem _
    exact this
  have := e _ hm
  simp only [Bool.and_eq_true, decide_eq_true_eq] at this
  omega
theorem prn_step {s : ByteArray} {k : Nat} (h : k < s.size) (hp : prnB (s.data.toList.take k) = true) (h1 : ¬ (s[k].toNat : Int) < 32) (h2 : ¬ 126 < (s[k].toNat : Int)) : prnB (s.data.toList.take (k + 1)) = true := by
  rw [List.take_succ_eq_append_getElem (by simpa using h)]
  unfold prnB at hp ⊢
  rw [List.all_append, hp, List.all_cons, List.all_nil]
  have : s.data.toList[k]'(by simpa using h) = s[k] := rfl
  rw [this, decide_eq_true (by omega), decide_eq_true (by omega)]; rfl
end Go.Proofs.Ythnmcpfmljibeaa
/-
  Rows: PutRow of the program and of the reference at valid values; the reference's ValidRow, the statements' valid: what each answers. Conditions: lengths.
-/
namespace Go.Proofs.Ythnmcpfmljibeaa
set_option maxRecDepth 100000
set_option linter.unusedVariables false
set_option linter.unusedSimpArgs false
open Go.RowKit

theorem RdV.below {w w' : World} {L B : Nat} {v : Value} {ps : List Vl} (h : RdV w L B v ps) (hb : Below B w w') : RdV w' L B v ps := by
  obtain ⟨A, c, hv, hl, hc⟩ := h
  refine ⟨A, c, hv, hl, fun k p hk => ?_⟩
  obtain ⟨ad, h1, h0, h2, c0, c1, c2⟩ := hc k p hk
  exact ⟨ad, h1, h0, h2, (hb.cell (p := ad.add (k * 3)) (by rw [add_block]; exact h2)).trans c0, (hb.cell (p := ⟨(ad.add (k * 3)).block, (ad.add (k * 3)).off + 1, none⟩) (by show (ad.add (k * 3)).block < _; rw [add_block]; exact h2)).trans c1, (hb.cell (p := ⟨(ad.add (k * 3)).block, (ad.add (k * 3)).off + 2, none⟩) (by show (ad.add (k * 3)).block < _; rw [add_block]; exact h2)).trans c2⟩
theorem RdV.more {w : World} {L L' B B' : Nat} {v : Value} {ps : List Vl} (h : RdV w L B v ps) (hB : B ≤ B') (hL : L' ≤ L) : RdV w L' B' v ps := by
  obtain ⟨A, c, hv, hl, hc⟩ := h
  refine ⟨A, c, hv, hl, fun k p hk => ?_⟩
  obtain ⟨ad, h1, h0, h2, hx⟩ := hc k p hk
  exact ⟨ad, h1, by omega, by omega, hx⟩
theorem RdV.step {w w' : World} {L B : Nat} {v : Value} {ps : List Vl} (h : RdV w L B v ps) (hb : Below w.heap.size w w') (hB : B ≤ w.heap.size) : RdV w' L w'.heap.size v ps :=
  (h.below (hb.mono hB)).more (Nat.le_trans hB hb.size) (Nat.le_refl _)
end Go.Proofs.Ythnmcpfmljibeaa
/-
  Mathematics of keys: their bytes are ordered as the values are. Conditions: valid values.
-/
namespace Go.Proofs.Ythnmcpfmljibeaa
set_option maxRecDepth 100000
set_option linter.unusedVariables false
set_option linter.unusedSimpArgs false
open Go.RowKit

/-! ### values -/
/-- p lies before q. -/
def lessP (p q : Vl) : Bool := decide (p.1 < q.1) || (decide (p.1 = q.1) && (decide (p.2.1 < q.2.1) || (decide (p.2.1 = q.2.1) && Op.bytesLess p.2.2.toList q.2.2.toList)))
theorem mk_ext {s t : ByteArray} (h : s.data.toList = t.data.toList) : s = t := by
  cases s with
  | mk a => cases t with
    | mk b =>
      have : a = b := by simpa using congrArg List.toArray h
      rw [this]
end Go.Proofs.Ythnmcpfmljibeaa
/-
  The order of values, of the program and of the reference; the reference's Valid. Conditions: none.
-/
namespace Go.Proofs.Ythnmcpfmljibeaa
set_option maxRecDepth 100000
set_option linter.unusedVariables false
set_option linter.unusedSimpArgs false
open Go.RowKit

theorem cb_spec : ∀ l m : List UInt8, Lib.compareBytes l m = if Op.bytesLess l m then -1 else if l == m then 0 else 1
  | [], [] => rfl
  | [], _ :: _ => rfl
  | _ :: _, [] => rfl
  | a :: x, b :: y => by
    unfold Lib.compareBytes Op.bytesLess
    rw [cb_spec x y]
    by_cases h1 : a < b
    · simp [h1]
    · by_cases h2 : b < a
      · have hne : a ≠ b := by intro e; subst e; exact h1 h2
        have hb : (a == b) = false := by simpa using hne
        simp [h1, h2, hne]
      · have hab : a = b := by
          have h3 : ¬ a.toNat < b.toNat := h1
          have h4 : ¬ b.toNat < a.toNat := h2
          exact UInt8.toNat_inj.1 (by omega)
        subst hab
        simp [h1]
/-- The order of values. -/
def cmpV (k n : Int) (s : ByteArray) (k2 n2 : Int) (s2 : ByteArray) : Int :=
  if k < k2 then -1 else if k2 < k then 1 else if n < n2 then -1 else if n2 < n then 1 else Lib.compareBytes s.data.toList s2.data.toList
def cmpP (p q : Vl) : Int := if lessP p q = true then -1 else if p = q then 0 else 1
theorem cmpV_P (k n : Int) (s : ByteArray) (k2 n2 : Int) (s2 : ByteArray) : cmpV k n s k2 n2 s2 = cmpP (k, n, s) (k2, n2, s2) := by
  unfold cmpV cmpP lessP
  rw [cb_spec, ← Lib.toList_data, ← Lib.toList_data]
  have hs : (s = s2) = (s.toList = s2.toList) := by
    apply propext
    exact ⟨fun e => by rw [e], fun e => mk_ext (by rw [← Lib.toList_data, ← Lib.toList_data]; exact e)⟩
  simp only [Prod.mk.injEq, hs]
  rcases Int.lt_trichotomy k k2 with h | h | h
  · simp [h]
  · subst h
    rcases Int.lt_trichotomy n n2 with h | h | h
    · simp [h]
    · subst h
      simp
    · simp [h, show ¬ n < n2 by omega, show ¬ n = n2 by omega]
  · simp [h, show ¬ k < k2 by omega, show ¬ k = k2 by omega]
set_option maxRecDepth 100000 in
set_option maxHeartbeats 1600000 in
theorem pCompareV_any (k n : Int) (s : ByteArray) (k2 n2 : Int) (s2 : ByteArray) (w : World) :
    Calls Try.prog 84 #[valV (k, n, s), valV (k2, n2, s2)] w fun e w' => e = .returned (.int .i64 (cmpV k n s k2 n2 s2)) ∧ Below w.heap.size w w' := by
  have h1 := fun W => Try.cmp_Compare_int k k2 W
  have h2 := fun W => Try.cmp_Compare_int n n2 W
  have h3 := fun W => Try.strings_Compare s s2 W
  unfold cmpV
  generalize hs : Lib.compareBytes s.data.toList s2.data.toList = c3 at *
  clear hs
  unfold valV
  dsimp only
  unfold Lib.compareInt at h1 h2
  rcases Int.lt_trichotomy k k2 with h | h | h
  · rw [if_pos h]
    rw [if_pos h] at h1
    go_enter Try.func84, Try.ntmps84
    go_wp2_with (go_at_call 113; with_reducible refine (h1 _).mono ?_; rintro e w1 ⟨rfl, rfl⟩)
    go_ret
    refine ⟨rfl, ?_⟩
    (repeat' (first | (with_reducible exact Below.refl _ _) | (with_reducible assumption) | (with_reducible refine Below.alloc ?_ ?_ _) | (with_reducible refine Below.drew ?_) | (with_reducible refine Below.setCell ?_ ?_ _) | (with_reducible refine Below.trans ?_ (Below.mono (by assumption) ?_)) | go_size))
  · subst h
    rw [if_neg (by omega), if_neg (by omega)]
    rw [if_neg (by omega), if_neg (by omega)] at h1
    rcases Int.lt_trichotomy n n2 with h | h | h
    · rw [if_pos h]
      rw [if_pos h] at h2
      go_enter Try.func84, Try.ntmps84
      go_wp2_with (go_at_call 113; (first | with_reducible refine (h1 _).mono ?_ | with_reducible refine (h2 _).mono ?_); rintro e w1 ⟨rfl, rfl⟩)
      go_ret
      refine ⟨rfl, ?_⟩
      (repeat' (first | (with_reducible exact Below.refl _ _) | (with_reducible assumption) | (with_reducible refine Below.alloc ?_ ?_ _) | (with_reducible refine Below.drew ?_) | (with_reducible refine Below.setCell ?_ ?_ _) | (with_reducible refine Below.trans ?_ (Below.mono (by assumption) ?_)) | go_size))
    · subst h
      rw [if_neg (by omega), if_neg (by omega)]
      rw [if_neg (by omega), if_neg (by omega)] at h2
      go_enter Try.func84, Try.ntmps84
      go_wp2_with (first | (go_at_call 113; (first | with_reducible refine (h1 _).mono ?_ | with_reducible refine (h2 _).mono ?_); rintro e w1 ⟨rfl, rfl⟩) | (go_at_call 114; with_reducible refine (h3 _).mono ?_; rintro e w1 ⟨rfl, rfl⟩))
      go_ret
      refine ⟨rfl, ?_⟩
      (repeat' (first | (with_reducible exact Below.refl _ _) | (with_reducible assumption) | (with_reducible refine Below.alloc ?_ ?_ _) | (with_reducible refine Below.drew ?_) | (with_reducible refine Below.setCell ?_ ?_ _) | (with_reducible refine Below.trans ?_ (Below.mono (by assumption) ?_)) | go_size))
    · rw [if_neg (by omega), if_pos h]
      rw [if_neg (by omega), if_pos h] at h2
      go_enter Try.func84, Try.ntmps84
      go_wp2_with (go_at_call 113; (first | with_reducible refine (h1 _).mono ?_ | with_reducible refine (h2 _).mono ?_); rintro e w1 ⟨rfl, rfl⟩)
      go_ret
      refine ⟨rfl, ?_⟩
      (repeat' (first | (with_reducible exact Below.refl _ _) | (with_reducible assumption) | (with_reducible refine Below.alloc ?_ ?_ _) | (with_reducible refine Below.drew ?_) | (with_reducible refine Below.setCell ?_ ?_ _) | (with_reducible refine Below.trans ?_ (Below.mono (by assumption) ?_)) | go_size))
  · rw [if_neg (by omega), if_pos h]
    rw [if_neg (by omega), if_pos h] at h1
    go_enter Try.func84, Try.ntmps84
    go_wp2_with (go_at_call 113; with_reducible refine (h1 _).mono ?_; rintro e w1 ⟨rfl, rfl⟩)
    go_ret
    refine ⟨rfl, ?_⟩
    (repeat' (first | (with_reducible exact Below.refl _ _) | (with_reducible assumption) | (with_reducible refine Below.alloc ?_ ?_ _) | (with_reducible refine Below.drew ?_) | (with_reducible refine Below.setCell ?_ ?_ _) | (with_reducible refine Below.trans ?_ (Below.mono (by assumption) ?_)) | go_size))
def sgn (a b : Bool) : Int := if a then -1 else if b then 1 else 0
theorem pCmp_any (p q : Vl) (w : World) :
    Calls Try.prog 84 #[valV p, valV q] w fun e w' => e = .returned (.int .i64 (cmpP p q)) ∧ Below w.heap.size w w' := by
  obtain ⟨k, n, s⟩ := p; obtain ⟨k2, n2, s2⟩ := q
  rw [← cmpV_P]; exact pCompareV_any k n s k2 n2 s2 w
end Go.Proofs.Ythnmcpfmljibeaa
/-
  The program's value.Valid: what it answers. Conditions: none.
-/
namespace Go.Proofs.Ythnmcpfmljibeaa
set_option maxRecDepth 100000
set_option linter.unusedVariables false
set_option linter.unusedSimpArgs false
open Go.RowKit

def badR (x : Nat) : Bool := decide (x < 32) || decide (126 < x)
theorem badR_decode (n b0 b1 b2 b3 : Nat) (h : ¬ (32 ≤ b0 ∧ b0 ≤ 126)) : badR (Lib.decodeN n b0 b1 b2 b3).1 = true := by
  unfold badR
  simp only [Bool.or_eq_true, decide_eq_true_eq]
  unfold Lib.decodeN
  repeat' split
  all_goals (dsimp only; omega)
theorem goodR_decode (n b0 b1 b2 b3 : Nat) (h : 32 ≤ b0 ∧ b0 ≤ 126) : Lib.decodeN n b0 b1 b2 b3 = (b0, 1) ∧ badR b0 = false := by
  unfold badR Lib.decodeN
  rw [if_pos (by omega)]
  refine ⟨rfl, ?_⟩
  rw [decide_eq_false (by omega), decide_eq_false (by omega)]; rfl
theorem get_list (s : ByteArray) (i : Nat) (h : i < s.size) : s.get! i = s[i] := by
  show s.data[i]! = s.data[i]
  exact getElem!_pos s.data i h
theorem idx_prn_from (s : ByteArray) : ∀ (f pos : Nat), s.size ≤ pos + f → (decide (0 ≤ Lib.idxFuncFrom badR true s f pos) = !prnB (s.data.toList.drop pos))
  | 0, pos, h => by
    rw [List.drop_eq_nil_of_le (by rw [← Lib.size_eq]; omega)]
    rfl
  | f + 1, pos, h => by
    unfold Lib.idxFuncFrom
    by_cases hp : pos < s.size
    · rw [if_pos hp]
      have hd : s.data.toList.drop pos = s[pos] :: s.data.toList.drop (pos + 1) := List.drop_eq_getElem_cons (by rw [← Lib.size_eq]; exact hp)
      have hg : (s.get! pos).toNat = s[pos].toNat := by rw [get_list s pos hp]
      rw [Lib.decode_at, hg, hd]
      by_cases hb : 32 ≤ s[pos].toNat ∧ s[pos].toNat ≤ 126
      · obtain ⟨e, e2⟩ := goodR_decode (s.size - pos) s[pos].toNat (s.get! (pos + 1)).toNat (s.get! (pos + 2)).toNat (s.get! (pos + 3)).toNat hb
        rw [e]
        dsimp only
        rw [e2, if_neg (by simp), idx_prn_from s f (pos + 1) (by omega)]
        unfold prnB
        rw [List.all_cons, decide_eq_true hb.1, decide_eq_true hb.2]
        rfl
      · rw [badR_decode _ _ _ _ _ hb, if_pos rfl, decide_eq_true (by omega)]
        unfold prnB
        rw [List.all_cons]
        have : (decide (32 ≤ s[pos].toNat) && decide (s[pos].toNat ≤ 126)) = false := by
          rw [Bool.eq_false_iff]; intro e; simp only [Bool.and_eq_true, decide_eq_true_eq] at e; exact hb e
        rw [this]; rfl
    · rw [if_neg hp, List.drop_eq_nil_of_le (by rw [← Lib.size_eq]; omega)]
      rfl
theorem idx_prn (s : ByteArray) : decide (0 ≤ Lib.idxFunc badR true s) = !prnB s.data.toList := idx_prn_from s s.size 0 (by omega)
theorem clo_any (x : Nat) (hx : x ≤ 1114111) (w : World) : Calls Try.prog 130 #[.int .i32 (x : Int)] w fun e w' => e = .returned (.bool (badR x)) ∧ w' = w := by
  by_cases h1 : (x : Int) < 32
  · have hb : badR x = true := by unfold badR; rw [decide_eq_true (by omega)]; rfl
    go_enter Try.func130, Try.ntmps130
    go_wp2
    go_ret
    exact ⟨by first | rfl | (rw [hb]; rfl), rfl⟩
  · by_cases h2 : 126 < (x : Int)
    · have hb : badR x = true := by unfold badR; rw [decide_eq_true (p := 126 < x) (by omega), Bool.or_true]
      go_enter Try.func130, Try.ntmps130
      go_wp2
      go_ret
      exact ⟨by first | rfl | (rw [hb]; rfl), rfl⟩
    · have hb : badR x = false := by unfold badR; rw [decide_eq_false (by omega), decide_eq_false (by omega)]; rfl
      go_enter Try.func130, Try.ntmps130
      go_wp2
      go_ret
      exact ⟨by first | rfl | (rw [hb]; rfl), rfl⟩
theorem clo_enters : ∀ args w, (callFunc 130 args).run Try.prog w = .ok (.enter 130 args) w := enters_of Try.func130 (by kernel_rfl) rfl
theorem contains_any (s : ByteArray) (w : World) : Calls Try.prog 129 #[.string s, .func (.func 130) #[] #[]] w fun e w' => e = .returned (.bool (!prnB s.data.toList)) ∧ Below w.heap.size w w' := by
  rw [← idx_prn]
  exact Try.strings_ContainsFunc_runes _ _ clo_enters badR s w (fun W x hx _ => (clo_any x hx W).mono fun e w' ⟨h1, h2⟩ => ⟨h1, 0, h2⟩)
set_option maxHeartbeats 400000 in
theorem pPrn_any (s : ByteArray) (w : World) : Calls Try.prog 118 #[.string s] w fun e w' => e = .returned (.bool (prnB s.data.toList)) ∧ Below w.heap.size w w' := by
  have hc := fun W => contains_any s W
  cases hp : prnB s.data.toList <;> rw [hp] at hc
  all_goals
    go_enter Try.func118, Try.ntmps118
    go_wp2_with (go_at_call 129; refine (hc _).mono ?_; rintro e w1 ⟨rfl, hb⟩)
    go_ret
    refine ⟨rfl, ?_⟩
    (repeat' (first | (with_reducible exact Below.refl _ _) | (with_reducible assumption) | (with_reducible refine Below.alloc ?_ ?_ _) | (with_reducible refine Below.drew ?_) | (with_reducible refine Below.setCell ?_ ?_ _) | (with_reducible refine Below.trans ?_ (Below.mono (by assumption) ?_)) | go_size))
set_option maxRecDepth 100000 in
set_option maxHeartbeats 1600000 in
theorem pValid_any (k n : Int) (s : ByteArray) (w : World) : Calls Try.prog 97 #[valV (k, n, s)] w fun e w' => e = .returned (.bool (okP (k, n, s))) ∧ Below w.heap.size w w' := by
  have hP := fun W => pPrn_any s W
  unfold okP valV
  dsimp only
  by_cases k0 : k = 0
  · subst k0
    rw [if_pos rfl]
    by_cases hn : n = 0 <;> cases he : s.toList == []
    all_goals
      go_enter Try.func97, Try.ntmps97
      go_wp2
      go_ret
      refine ⟨by simp [*], ?_⟩
      (repeat' (first | (with_reducible exact Below.refl _ _) | (with_reducible assumption) | (with_reducible refine Below.alloc ?_ ?_ _) | (with_reducible refine Below.drew ?_) | (with_reducible refine Below.setCell ?_ ?_ _) | (with_reducible refine Below.trans ?_ (Below.mono (by assumption) ?_)) | go_size))
  rw [if_neg k0]
  by_cases k1 : k = 1
  · subst k1
    rw [if_pos rfl]
    by_cases h1 : -1125899906842624 ≤ n <;> by_cases h2 : n ≤ 1125899906842624 <;> cases he : s.toList == []
    all_goals (first | (exfalso; omega) | skip)
    all_goals
      go_enter Try.func97, Try.ntmps97
      go_wp2
      go_ret
      refine ⟨by simp [*], ?_⟩
      (repeat' (first | (with_reducible exact Below.refl _ _) | (with_reducible assumption) | (with_reducible refine Below.alloc ?_ ?_ _) | (with_reducible refine Below.drew ?_) | (with_reducible refine Below.setCell ?_ ?_ _) | (with_reducible refine Below.trans ?_ (Below.mono (by assumption) ?_)) | go_size))
  rw [if_neg k1]
  by_cases k2 : k = 2
  · subst k2
    rw [if_pos rfl]
    by_cases hn : n = 0
    · by_cases hs : s.size ≤ 200
      · have hsi : (s.size : Int) ≤ 200 := by omega
        cases hp : prnB s.data.toList <;> rw [hp] at hP
        all_goals
          go_enter Try.func97, Try.ntmps97
          go_wp2_with (go_at_call 118; refine (hP _).mono ?_; rintro e w1 ⟨rfl, hb⟩)
          go_ret
          refine ⟨by simp [*], ?_⟩
          (repeat' (first | (with_reducible exact Below.refl _ _) | (with_reducible assumption) | (with_reducible refine Below.alloc ?_ ?_ _) | (with_reducible refine Below.drew ?_) | (with_reducible refine Below.setCell ?_ ?_ _) | (with_reducible refine Below.trans ?_ (Below.mono (by assumption) ?_)) | go_size))
      · have hsi : ¬ (s.size : Int) ≤ 200 := by omega
        go_enter Try.func97, Try.ntmps97
        go_wp2
        go_ret
        refine ⟨by simp [*], ?_⟩
        (repeat' (first | (with_reducible exact Below.refl _ _) | (with_reducible assumption) | (with_reducible refine Below.alloc ?_ ?_ _) | (with_reducible refine Below.drew ?_) | (with_reducible refine Below.setCell ?_ ?_ _) | (with_reducible refine Below.trans ?_ (Below.mono (by assumption) ?_)) | go_size))
    · go_enter Try.func97, Try.ntmps97
      go_wp2
      go_ret
      refine ⟨by simp [*], ?_⟩
      (repeat' (first | (with_reducible exact Below.refl _ _) | (with_reducible assumption) | (with_reducible refine Below.alloc ?_ ?_ _) | (with_reducible refine Below.drew ?_) | (with_reducible refine Below.setCell ?_ ?_ _) | (with_reducible refine Below.trans ?_ (Below.mono (by assumption) ?_)) | go_size))
  rw [if_neg k2]
  by_cases k3 : k = 3
  · subst k3
    rw [if_pos rfl]
    by_cases h1 : n = 0 <;> by_cases h2 : n = 1 <;> cases he : s.toList == []
    all_goals (first | (exfalso; omega) | skip)
    all_goals
      go_enter Try.func97, Try.ntmps97
      go_wp2
      go_ret
      refine ⟨by simp [*], ?_⟩
      (repeat' (first | (with_reducible exact Below.refl _ _) | (with_reducible assumption) | (with_reducible refine Below.alloc ?_ ?_ _) | (with_reducible refine Below.drew ?_) | (with_reducible refine Below.setCell ?_ ?_ _) | (with_reducible refine Below.trans ?_ (Below.mono (by assumption) ?_)) | go_size))
  rw [if_neg k3]
  have j0 : (k == 0) = false := by simpa using k0
  have j1 : (k == 1) = false := by simpa using k1
  have j2 : (k == 2) = false := by simpa using k2
  have j3 : (k == 3) = false := by simpa using k3
  go_enter Try.func97, Try.ntmps97
  go_wp2
  go_ret
  refine ⟨rfl, ?_⟩
  (repeat' (first | (with_reducible exact Below.refl _ _) | (with_reducible assumption) | (with_reducible refine Below.alloc ?_ ?_ _) | (with_reducible refine Below.drew ?_) | (with_reducible refine Below.setCell ?_ ?_ _) | (with_reducible refine Below.trans ?_ (Below.mono (by assumption) ?_)) | go_size))
end Go.Proofs.Ythnmcpfmljibeaa
/-
  Period of the program and of the reference: what is read from any bytes at any offset. Conditions: lengths.
-/
namespace Go.Proofs.Ythnmcpfmljibeaa
set_option maxRecDepth 100000
set_option linter.unusedVariables false
set_option linter.unusedSimpArgs false
open Go.RowKit

theorem load_per {w : World} {g : Nat} {x y : Value} (h : Own w g 36 #[x, y]) : (loadVar 36 ⟨g, 0, none⟩).run Try.prog w = .ok (.agg #[x, y]) w :=
  run_loadVar_row w g 36 36 #[x, y] (0, 0) _ h Try.underlying36 rfl (by kernel_rfl)
set_option maxHeartbeats 800000 in
theorem perValid_any (a b : Int) (w : World) :
    Calls Try.prog 41 #[.agg #[.int .i64 a, .int .i64 b]] w fun e w' => e = .returned (.bool (vld a b)) ∧ Below w.heap.size w w' := by
  unfold vld
  by_cases h1 : 0 ≤ a <;> by_cases h2 : a < b <;> by_cases h3 : b ≤ 1099511627776
  all_goals first | (exfalso; omega) | skip
  all_goals
    go_enter Try.func41, Try.ntmps41
    go_wp2
    go_ret
    exact ⟨by simp [*], (Below.refl _ _).alloc (Nat.le_refl _) _⟩
end Go.Proofs.Ythnmcpfmljibeaa
/-
  Value of the program and of the reference: which value is read from any bytes at any offset. Conditions: lengths.
-/
namespace Go.Proofs.Ythnmcpfmljibeaa
set_option maxRecDepth 100000
set_option linter.unusedVariables false
set_option linter.unusedSimpArgs false
open Go.RowKit

theorem own_two {w : World} {t : TypeId} {cs : Array Value} (o : Obj) : Own ((w.alloc o).alloc (.cells cs t)) (w.heap.size + 1) t cs := by
  have h := Own.new (w.alloc o) t cs
  rwa [World.size_alloc] at h
end Go.Proofs.Ythnmcpfmljibeaa
/-
  Value of the program and of the reference: which value is read from any bytes at any offset. Conditions: lengths.
-/
namespace Go.Proofs.Ythnmcpfmljibeaa
set_option maxRecDepth 100000
set_option linter.unusedVariables false
set_option linter.unusedSimpArgs false
open Go.RowKit

end Go.Proofs.Ythnmcpfmljibeaa
/-
  Row of the program and of the reference: which row is read from any bytes at any offset; rows of the statements. Conditions: lengths.
-/
namespace Go.Proofs.Ythnmcpfmljibeaa
set_option maxRecDepth 100000
set_option linter.unusedVariables false
set_option linter.unusedSimpArgs false
open Go.RowKit

end Go.Proofs.Ythnmcpfmljibeaa
/-
  What the statements' rows give at their first world; how slices of bytes and numbers are opened, with what a machine bears. Conditions: none.
-/
namespace Go.Proofs.Ythnmcpfmljibeaa
set_option maxRecDepth 100000
set_option linter.unusedVariables false
set_option linter.unusedSimpArgs false
open Go.ChangeShapes Go.WideShapes Go.ChangeAt Go.RowKit Go.Joins Go.Deep

theorem own : ownKnob Try.prog.godebug = none := by kernel_rfl
theorem laidOut : laidOutB Try.prog = true := by kernel_rfl
section
variable {H : Type} {enc : TypeId × Value → H} {W : World} {base : Nat}
end
end Go.Proofs.Ythnmcpfmljibeaa
/-
  How parameters that are periods or values are opened. Conditions: none.
-/
namespace Go.Proofs.Ythnmcpfmljibeaa
set_option maxRecDepth 100000
set_option linter.unusedVariables false
set_option linter.unusedSimpArgs false
open Go.ChangeShapes Go.WideShapes Go.ChangeAt Go.RowKit Go.Joins Go.Deep

section
variable {H : Type} {enc : TypeId × Value → H} {W : World} {base : Nat}
end
end Go.Proofs.Ythnmcpfmljibeaa
/-
  How much a slice of bytes holds, as the second forms reckon it. Conditions: none.
-/
namespace Go.Proofs.Ythnmcpfmljibeaa
set_option maxRecDepth 100000
set_option linter.unusedVariables false
set_option linter.unusedSimpArgs false
open Go.ChangeShapes Go.WideShapes Go.ChangeAt Go.RowKit Go.Joins Go.Deep

section
variable {H : Type} {enc : TypeId × Value → H} {W : World} {base : Nat}
end
end Go.Proofs.Ythnmcpfmljibeaa
/-
  How parameters that are slices of values are opened, and how much they hold, as the second forms reckon it. Conditions: none.
-/
namespace Go.Proofs.Ythnmcpfmljibeaa
set_option maxRecDepth 100000
set_option linter.unusedVariables false
set_option linter.unusedSimpArgs false
open Go.ChangeShapes Go.WideShapes Go.ChangeAt Go.RowKit Go.Joins Go.Deep

section
variable {H : Type} {enc : TypeId × Value → H} {W : World} {base : Nat}
end
end Go.Proofs.Ythnmcpfmljibeaa
/-
  Comparing rows: slices.CompareFunc with value.Compare, tuple.Compare, the reference's Compare and Equal: what they answer. Conditions: lengths.
-/
namespace Go.Proofs.Ythnmcpfmljibeaa
set_option maxRecDepth 100000
set_option linter.unusedVariables false
set_option linter.unusedSimpArgs false
open Go.RowKit

end Go.Proofs.Ythnmcpfmljibeaa
