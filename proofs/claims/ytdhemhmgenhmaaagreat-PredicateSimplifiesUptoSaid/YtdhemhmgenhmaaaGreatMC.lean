import Derived.Test.YtdhemhmgenhmaaaGreatProg
import Derived.Test.YtdhemhmgenhmaaaGreatMB
import Derived.Test.YtdhemhmgenhmaaaGreatMA
import Derived.WalkSmall
import Derived.Laws.AppendOwn
import Derived.Laws.AppendOwnNone
import Derived.Shelf.Spec.SlicesGrow
import Derived.Lib.SmallJoins
import Derived.Lib.BufferRead
import Derived.OwnWalk
import Derived.WalkKit
import Derived.WalkSpells
import Derived.WalkLawsBesides
import Derived.Deep.QuietTactic
import Derived.BigQuiet
import Derived.Handy
import Derived.Lib.Hide
import Derived.Laws.BitsAllLaws
import Derived.Laws.Bits64
import Derived.Lib.Zigzag
import Derived.ArgAppend
import Derived.Outline
import Derived.Lib.BufferWrite
import Derived.Laws.CopyOwn
import Derived.Deep.RegionLaw
import Derived.Deep.RegionLawGrows
import Derived.Deep.AppendLies
import Derived.Deep.RegionWith
import Derived.Lib.ConvBytes
import Derived.Deep.RegionHeld3
import Derived.Laws.StructEq
import Derived.Lib.IndexMore
import Derived.Lib.Strings
import Derived.Lib.DecodeN
import Derived.Shelf.GgClosure.StringsIndexFunc
import Derived.Laws.MakeOwn
import Derived.Test.YtdhemhmgenhmaaaGreatRows
import Derived.MakeChecks
import Derived.ProofKit
import Derived.LaidMore
import Derived.Lay
import Derived.OpenShut
import Derived.ChangeSlices
import Derived.SizedLaws
import Derived.Deep.Slices
import Derived.Deep.SlicePairs
set_option maxRecDepth 100000
set_option maxHeartbeats 25600000
set_option linter.unusedVariables false
set_option linter.unusedSimpArgs false
/-
  Bytes that are read, rows of bytes that a call makes: the plain laws. Conditions: lengths.
-/
namespace Go.Proofs.YtdhemhmgenhmaaaGreat
open Go.RowKit
theorem add_block (ad : Addr) (k : Nat) : (ad.add k).block = ad.block := by unfold Addr.add; split <;> rfl
def RdB (w : World) (L B : Nat) (v : Value) (l : List UInt8) : Prop :=
 ∃ A c, v = .slice A l.length c ∧ l.length ≤ 9223372036854775807 ∧ l.length ≤ c ∧ ∀ (k : Nat) (b : UInt8), l[k]? = some b → ∃ ad : Addr, A = some ad ∧ L ≤ ad.block ∧ ad.block < B ∧ w.cell? (ad.add k) = some (.int .u8 (b.toNat : Nat))
theorem RdB.below {w w' : World} {L B : Nat} {v : Value} {l : List UInt8} (h : RdB w L B v l) (hb : Below B w w') : RdB w' L B v l := by
 obtain ⟨A, c, hv, hl, hcc, hc⟩ := h
 exact ⟨A, c, hv, hl, hcc, fun k n hk => let ⟨ad, h1, h0, h2, h3⟩ := hc k n hk; ⟨ad, h1, h0, h2, (hb.cell (p := ad.add k) (by rw [add_block]; exact h2)).trans h3⟩⟩
theorem RdB.more {w : World} {L L' B B' : Nat} {v : Value} {l : List UInt8} (h : RdB w L B v l) (hB : B ≤ B') (hL : L' ≤ L) : RdB w L' B' v l := by
 obtain ⟨A, c, hv, hl, hcc, hc⟩ := h
 exact ⟨A, c, hv, hl, hcc, fun k n hk => let ⟨ad, h1, h0, h2, h3⟩ := hc k n hk; ⟨ad, h1, by omega, by omega, h3⟩⟩
theorem RdB.step {w w' : World} {L B : Nat} {v : Value} {l : List UInt8} (h : RdB w L B v l) (hb : Below w.heap.size w w') (hB : B ≤ w.heap.size) : RdB w' L w'.heap.size v l :=
 (h.below (hb.mono hB)).more (Nat.le_trans hB hb.size) (Nat.le_refl _)
theorem RdB.at {w : World} {L B : Nat} {A : Option Addr} {m c : Nat} {l : List UInt8} (h : RdB w L B (.slice A m c) l) {k : Nat} {b : UInt8} (hk : l[k]? = some b) : ∃ ad : Addr, A = some ad ∧ L ≤ ad.block ∧ ad.block < B ∧ w.cell? (ad.add k) = some (.int .u8 (b.toNat : Nat)) := by
 obtain ⟨A', c', hv, hl, _, hc⟩ := h
 injection hv with e1 e2 e3
 subst e1
 exact hc k b hk
def bytV (l : List UInt8) : List Value := l.map fun b => .int .u8 (b.toNat : Nat)
theorem info_partsB {t : TypeId} {z : Value} {a b : Nat} (h : (Tryz.prog.info? t).map (fun i => (i.zero, i.size, i.bytes)) = some (some z, a, b)) : ∃ i, Tryz.prog.info? t = some i ∧ i.zero = some z ∧ i.size = a ∧ i.bytes = b := by
 cases hi : Tryz.prog.info? t with
 | none => rw [hi] at h; cases h
 | some i =>
  rw [hi] at h
  simp only [Option.map_some, Option.some.injEq, Prod.mk.injEq] at h
  exact ⟨i, rfl, h.1, h.2.1, h.2.2⟩
theorem RdB.of_own {w : World} {base : Nat} {v : Value} {l : List UInt8} (h : w.ownsRow base 5 1 v l.length (bytV l)) (hl : l.length ≤ 9223372036854775807) : RdB w base w.heap.size v l := by
 rcases h.2 with ⟨rfl, h0⟩ | ⟨g, cap, cur, rfl, hb, hh, hn, hc, hs, ht⟩
 ·obtain rfl := List.eq_nil_of_length_eq_zero h0
  exact ⟨none, 0, rfl, hl, Nat.le_refl _, fun k n hk => by simp at hk⟩
 ·have hg : g < w.heap.size := by
   rcases Nat.lt_or_ge g w.heap.size with h1 | h1
   ·exact h1
   ·rw [Array.getElem?_eq_none h1] at hh; cases hh
  refine ⟨_, cap, rfl, hl, hn, fun k n hk => ⟨_, rfl, hb, hg, ?_⟩⟩
  have hkl : k < l.length := (List.getElem?_eq_some_iff.1 hk).1
  have e : w.cell? ⟨g, k, none⟩ = cur[k]? := cell_of_row w g k cur _ _ hh
  have hv : (bytV l)[k]? = some (.int .u8 (n.toNat : Nat)) := by unfold bytV; rw [List.getElem?_map, hk]; rfl
  have e2 : w.cell? ⟨g, k, none⟩ = some (.int .u8 (n.toNat : Nat)) := by rw [e, ← hv, ← ht, ← Array.getElem?_toList, List.getElem?_take, if_pos (by omega)]
  unfold Addr.add
  split
  ·rename_i h; subst h; exact e2
  ·simpa using e2
theorem own_below {W w1 : World} {base e size n : Nat} {v : Value} {xs : List Value} (h : W.ownsRow base e size v n xs) (hb : Below W.heap.size W w1) : w1.ownsRow base e size v n xs :=
 h.kept (row := none) ⟨hb.os, hb.tape, hb.output, hb.size, fun j hj _ => hb.block j hj⟩ (by cases hv : v.ownBlock <;> simp)
theorem cell_add0 (w : World) (g k : Nat) : w.cell? ((⟨g, 0, none⟩ : Addr).add k) = w.cell? ⟨g, k, none⟩ := by
 have ha : (⟨g, 0, none⟩ : Addr).add k = ⟨g, k, none⟩ := by unfold Addr.add; split <;> simp_all
 rw [ha]
theorem bel_mark (w : World) (o : Obj) : Below w.heap.size w (w.alloc o) := (Below.refl w.heap.size w).alloc (Nat.le_refl _) o
end Go.Proofs.YtdhemhmgenhmaaaGreat
namespace Go.Proofs.YtdhemhmgenhmaaaGreat
open Go.RowKit
end Go.Proofs.YtdhemhmgenhmaaaGreat
namespace Go.Proofs.YtdhemhmgenhmaaaGreat
open Go.RowKit
def Buf (w : World) (base : Nat) (v : Value) (l : List UInt8) : Prop :=
 w.ownsRow base 5 1 v l.length (bytV l) ∨ ∃ A, v = .slice A l.length l.length ∧ RdB w 0 base v l
theorem Buf.step {w w' : World} {base : Nat} {v : Value} {l : List UInt8} (h : Buf w base v l) (hb : Below w.heap.size w w') (hz : base ≤ w.heap.size) : Buf w' base v l := by
 rcases h with h | ⟨A, h1, h2⟩
 ·exact .inl (own_below h hb)
 ·exact .inr ⟨A, h1, h2.below (hb.mono hz)⟩
end Go.Proofs.YtdhemhmgenhmaaaGreat
namespace Go.Proofs.YtdhemhmgenhmaaaGreat
open Go.RowKit
end Go.Proofs.YtdhemhmgenhmaaaGreat
namespace Go.Proofs.YtdhemhmgenhmaaaGreat
open Go.RowKit
end Go.Proofs.YtdhemhmgenhmaaaGreat
namespace Go.Proofs.YtdhemhmgenhmaaaGreat
open Go.RowKit
def BufN (w : World) (base N : Nat) (v : Value) (l : List UInt8) : Prop :=
 (w.ownsRow base 5 1 v l.length (bytV l) ∧ ∀ g, v.ownBlock = some g → g < N) ∨ ∃ A, v = .slice A l.length l.length ∧ RdB w 0 base v l
theorem BufN.step {w w' : World} {base N : Nat} {v : Value} {l : List UInt8} (h : BufN w base N v l) (hb : Below w.heap.size w w') (hz : base ≤ w.heap.size) : BufN w' base N v l := by
 rcases h with ⟨h, h2⟩ | ⟨A, h1, h2⟩
 ·exact .inl ⟨own_below h hb, h2⟩
 ·exact .inr ⟨A, h1, h2.below (hb.mono hz)⟩
end Go.Proofs.YtdhemhmgenhmaaaGreat
namespace Go.Proofs.YtdhemhmgenhmaaaGreat
open Go.RowKit
abbrev Vl := Int × Int × ByteArray
def valV (p : Vl) : Value := .agg #[.int .i64 p.1, .int .i64 p.2.1, .string p.2.2]
end Go.Proofs.YtdhemhmgenhmaaaGreat
namespace Go.Proofs.YtdhemhmgenhmaaaGreat
open Go.RowKit
end Go.Proofs.YtdhemhmgenhmaaaGreat
namespace Go.Proofs.YtdhemhmgenhmaaaGreat
open Go.RowKit
end Go.Proofs.YtdhemhmgenhmaaaGreat
namespace Go.Proofs.YtdhemhmgenhmaaaGreat
open Go.RowKit
end Go.Proofs.YtdhemhmgenhmaaaGreat
namespace Go.Proofs.YtdhemhmgenhmaaaGreat
open Go.RowKit
end Go.Proofs.YtdhemhmgenhmaaaGreat
namespace Go.Proofs.YtdhemhmgenhmaaaGreat
open Go.RowKit
end Go.Proofs.YtdhemhmgenhmaaaGreat
namespace Go.Proofs.YtdhemhmgenhmaaaGreat
open Go.RowKit
def RdV (w : World) (L B : Nat) (v : Value) (ps : List Vl) : Prop :=
 ∃ A c, v = .slice A ps.length c ∧ ps.length ≤ 9223372036854775807 ∧ ∀ (k : Nat) (p : Vl), ps[k]? = some p → ∃ ad : Addr, A = some ad ∧ L ≤ ad.block ∧ ad.block < B ∧
  w.cell? (ad.add (k * 3)) = some (.int .i64 p.1) ∧ w.cell? ⟨(ad.add (k * 3)).block, (ad.add (k * 3)).off + 1, none⟩ = some (.int .i64 p.2.1) ∧ w.cell? ⟨(ad.add (k * 3)).block, (ad.add (k * 3)).off + 2, none⟩ = some (.string p.2.2)
end Go.Proofs.YtdhemhmgenhmaaaGreat
namespace Go.Proofs.YtdhemhmgenhmaaaGreat
open Go.RowKit
end Go.Proofs.YtdhemhmgenhmaaaGreat
namespace Go.Proofs.YtdhemhmgenhmaaaGreat
open Go.RowKit
end Go.Proofs.YtdhemhmgenhmaaaGreat
namespace Go.Proofs.YtdhemhmgenhmaaaGreat
open Go.RowKit
end Go.Proofs.YtdhemhmgenhmaaaGreat
namespace Go.Proofs.YtdhemhmgenhmaaaGreat
open Go.RowKit
def prnB (l : List UInt8) : Bool := l.all fun b => decide (32 ≤ b.toNat) && decide (b.toNat ≤ 126)
def okP (p : Vl) : Bool :=
 if p.1 = 0 then decide (p.2.1 = 0) && (p.2.2.toList == [])
 else if p.1 = 1 then decide (-1125899906842624 ≤ p.2.1) && decide (p.2.1 ≤ 1125899906842624) && (p.2.2.toList == [])
 else if p.1 = 2 then decide (p.2.1 = 0) && decide (p.2.2.size ≤ 200) && prnB p.2.2.data.toList
 else if p.1 = 3 then (decide (p.2.1 = 0) || decide (p.2.1 = 1)) && (p.2.2.toList == [])
 else false
theorem load_val {w : World} {g : Nat} {x y z : Value} (h : Own w g 23 #[x, y, z]) : (loadVar 23 ⟨g, 0, none⟩).run Tryz.prog w = .ok (.agg #[x, y, z]) w :=
 run_loadVar_row w g 23 23 #[x, y, z] (0, 0) _ h Tryz.underlying23 rfl (by kernel_rfl)
theorem results_cell_row1 {fn : Func} {p : Tmp} {ty : TypeId} (h : fn.results = #[.cell p ty]) (tmps : Array Value) (w : World) (g : Nat) (cs : Array Value) (hp : tmps.getD p undef = .pointer (some ⟨g, 0, none⟩))
  (hl : (loadVar ty ⟨g, 0, none⟩).run Tryz.prog w = .ok (.agg cs) w) : (results fn tmps).run Tryz.prog w = .ok (.agg cs) w := by
 have hp' : tmps[p]?.getD undef = .pointer (some ⟨g, 0, none⟩) := by simpa using hp
 simp [results, h, hp', asAddr, hl]
theorem pNull_any (w : World) : Calls Tryz.prog 14 #[] w fun e w' => e = .returned (valV (0, 0, ⟨#[]⟩)) ∧ Below w.heap.size w w' := by
 go_enter Tryz.func14, Tryz.ntmps14
 go_wp2
 (try simp only [Exit.inBlock, Exit.then]); refine bodyPost_ret_by (results_cell_row1 (by rfl) _ _ (w.heap.size) _ (by rfl) (load_val (Own.new _ _ _))) ?_ ?_; (focus rfl); refine ⟨rfl, ?_⟩
 (repeat' first | (with_reducible first | exact Below.refl _ _ | assumption | refine Below.alloc ?_ ?_ _ | refine Below.drew ?_ | refine Below.setCell ?_ ?_ _ | refine Below.trans ?_ (Below.mono (by assumption) ?_)) | go_size)
theorem pBool_any (b : Bool) (w : World) : Calls Tryz.prog 58 #[.bool b] w fun e w' => e = .returned (.agg #[.int .i64 3, .int .i64 (if b then 1 else 0), .string ⟨#[]⟩]) ∧ Below w.heap.size w w' := by
 cases b
 all_goals
  go_enter Tryz.func58, Tryz.ntmps58
  go_wp2
  (try simp only [Exit.inBlock, Exit.then]); refine bodyPost_ret_by (results_cell_row1 (by rfl) _ _ (w.heap.size) _ (by rfl) (load_val (Own.new _ _ _))) ?_ ?_; (focus rfl); refine ⟨rfl, ?_⟩
  (repeat' first | (with_reducible first | exact Below.refl _ _ | assumption | refine Below.alloc ?_ ?_ _ | refine Below.drew ?_ | refine Below.setCell ?_ ?_ _ | refine Below.trans ?_ (Below.mono (by assumption) ?_)) | go_size)
end Go.Proofs.YtdhemhmgenhmaaaGreat
namespace Go.Proofs.YtdhemhmgenhmaaaGreat
open Go.RowKit
end Go.Proofs.YtdhemhmgenhmaaaGreat
namespace Go.Proofs.YtdhemhmgenhmaaaGreat
open Go.RowKit
theorem prn_take_not {s : ByteArray} {k : Nat} (h : k < s.size) (hk : (s[k].toNat : Int) < 32 ∨ 126 < (s[k].toNat : Int)) : prnB s.data.toList = false := by
 unfold prnB
 rw [Bool.eq_false_iff]; intro e
 rw [List.all_eq_true] at e
 have hm : s[k] ∈ s.data.toList := by
  have : s.data.toList[k]'(by simpa using h) ∈ s.data.toList := List.getElem_mem _
  exact this
 have := e _ hm
 simp only [Bool.and_eq_true, decide_eq_true_eq] at this
 omega
theorem prn_step {s : ByteArray} {k : Nat} (h : k < s.size) (hp : prnB (s.data.toList.take k) = true) (h1 : ¬ (s[k].toNat : Int) < 32) (h2 : ¬ 126 < (s[k].toNat : Int)) : prnB (s.data.toList.take (k + 1)) = true := by
 rw [List.take_succ_eq_append_getElem (by simpa using h)]
 unfold prnB at hp ⊢
 rw [List.all_append, hp, List.all_cons, List.all_nil]
 have : s.data.toList[k]'(by simpa using h) = s[k] := rfl
 rw [this, decide_eq_true (by omega), decide_eq_true (by omega)]; rfl
end Go.Proofs.YtdhemhmgenhmaaaGreat
namespace Go.Proofs.YtdhemhmgenhmaaaGreat
open Go.RowKit
theorem RdV.below {w w' : World} {L B : Nat} {v : Value} {ps : List Vl} (h : RdV w L B v ps) (hb : Below B w w') : RdV w' L B v ps := by
 obtain ⟨A, c, hv, hl, hc⟩ := h
 refine ⟨A, c, hv, hl, fun k p hk => ?_⟩
 obtain ⟨ad, h1, h0, h2, c0, c1, c2⟩ := hc k p hk
 exact ⟨ad, h1, h0, h2, (hb.cell (p := ad.add (k * 3)) (by rw [add_block]; exact h2)).trans c0, (hb.cell (p := ⟨(ad.add (k * 3)).block, (ad.add (k * 3)).off + 1, none⟩) (by show (ad.add (k * 3)).block < _; rw [add_block]; exact h2)).trans c1, (hb.cell (p := ⟨(ad.add (k * 3)).block, (ad.add (k * 3)).off + 2, none⟩) (by show (ad.add (k * 3)).block < _; rw [add_block]; exact h2)).trans c2⟩
theorem RdV.more {w : World} {L L' B B' : Nat} {v : Value} {ps : List Vl} (h : RdV w L B v ps) (hB : B ≤ B') (hL : L' ≤ L) : RdV w L' B' v ps := by
 obtain ⟨A, c, hv, hl, hc⟩ := h
 refine ⟨A, c, hv, hl, fun k p hk => ?_⟩
 obtain ⟨ad, h1, h0, h2, hx⟩ := hc k p hk
 exact ⟨ad, h1, by omega, by omega, hx⟩
theorem RdV.step {w w' : World} {L B : Nat} {v : Value} {ps : List Vl} (h : RdV w L B v ps) (hb : Below w.heap.size w w') (hB : B ≤ w.heap.size) : RdV w' L w'.heap.size v ps :=
 (h.below (hb.mono hB)).more (Nat.le_trans hB hb.size) (Nat.le_refl _)
def szL (ps : List Vl) : Nat := (ps.map fun p => 11 + p.2.2.size).sum
end Go.Proofs.YtdhemhmgenhmaaaGreat
namespace Go.Proofs.YtdhemhmgenhmaaaGreat
open Go.RowKit
def lessP (p q : Vl) : Bool := decide (p.1 < q.1) || (decide (p.1 = q.1) && (decide (p.2.1 < q.2.1) || (decide (p.2.1 = q.2.1) && Op.bytesLess p.2.2.toList q.2.2.toList)))
theorem mk_ext {s t : ByteArray} (h : s.data.toList = t.data.toList) : s = t := by
 cases s with
 | mk a => cases t with
  | mk b =>
   have : a = b := by simpa using congrArg List.toArray h
   rw [this]
end Go.Proofs.YtdhemhmgenhmaaaGreat
namespace Go.Proofs.YtdhemhmgenhmaaaGreat
open Go.RowKit
theorem cb_spec : ∀ l m : List UInt8, Lib.compareBytes l m = if Op.bytesLess l m then -1 else if l == m then 0 else 1
 | [], [] => rfl
 | [], _ :: _ => rfl
 | _ :: _, [] => rfl
 | a :: x, b :: y => by
  unfold Lib.compareBytes Op.bytesLess
  rw [cb_spec x y]
  by_cases h1 : a < b
  ·simp [h1]
  ·by_cases h2 : b < a
   ·have hne : a ≠ b := by intro e; subst e; exact h1 h2
    have hb : (a == b) = false := by simpa using hne
    simp [h1, h2, hne]
   ·have hab : a = b := by
     have h3 : ¬ a.toNat < b.toNat := h1
     have h4 : ¬ b.toNat < a.toNat := h2
     exact UInt8.toNat_inj.1 (by omega)
    subst hab
    simp [h1]
def cmpV (k n : Int) (s : ByteArray) (k2 n2 : Int) (s2 : ByteArray) : Int :=
 if k < k2 then -1 else if k2 < k then 1 else if n < n2 then -1 else if n2 < n then 1 else Lib.compareBytes s.data.toList s2.data.toList
def cmpP (p q : Vl) : Int := if lessP p q = true then -1 else if p = q then 0 else 1
theorem cmpV_P (k n : Int) (s : ByteArray) (k2 n2 : Int) (s2 : ByteArray) : cmpV k n s k2 n2 s2 = cmpP (k, n, s) (k2, n2, s2) := by
 unfold cmpV cmpP lessP
 rw [cb_spec, ← Lib.toList_data, ← Lib.toList_data]
 have hs : (s = s2) = (s.toList = s2.toList) := by
  apply propext
  exact ⟨fun e => by rw [e], fun e => mk_ext (by rw [← Lib.toList_data, ← Lib.toList_data]; exact e)⟩
 simp only [Prod.mk.injEq, hs]
 rcases Int.lt_trichotomy k k2 with h | h | h
 ·simp [h]
 ·subst h
  rcases Int.lt_trichotomy n n2 with h | h | h
  ·simp [h]
  ·subst h
   simp
  ·simp [h, show ¬ n < n2 by omega, show ¬ n = n2 by omega]
 ·simp [h, show ¬ k < k2 by omega, show ¬ k = k2 by omega]
theorem pCompareV_any (k n : Int) (s : ByteArray) (k2 n2 : Int) (s2 : ByteArray) (w : World) :
  Calls Tryz.prog 113 #[valV (k, n, s), valV (k2, n2, s2)] w fun e w' => e = .returned (.int .i64 (cmpV k n s k2 n2 s2)) ∧ Below w.heap.size w w' := by
 have h1 := fun W => Tryz.cmp_Compare_int k k2 W
 have h2 := fun W => Tryz.cmp_Compare_int n n2 W
 have h3 := fun W => Tryz.strings_Compare s s2 W
 unfold cmpV
 generalize hs : Lib.compareBytes s.data.toList s2.data.toList = c3 at *
 clear hs
 unfold valV
 dsimp only
 unfold Lib.compareInt at h1 h2
 rcases Int.lt_trichotomy k k2 with h | h | h
 ·rw [if_pos h]
  rw [if_pos h] at h1
  go_enter Tryz.func113, Tryz.ntmps113
  go_wp2_with (go_at_call 130; with_reducible refine (h1 _).mono ?_; rintro e w1 ⟨rfl, rfl⟩)
  go_ret
  refine ⟨rfl, ?_⟩
  (repeat' first | (with_reducible first | exact Below.refl _ _ | assumption | refine Below.alloc ?_ ?_ _ | refine Below.drew ?_ | refine Below.setCell ?_ ?_ _ | refine Below.trans ?_ (Below.mono (by assumption) ?_)) | go_size)
 ·subst h
  rw [if_neg (by omega), if_neg (by omega)]
  rw [if_neg (by omega), if_neg (by omega)] at h1
  rcases Int.lt_trichotomy n n2 with h | h | h
  ·rw [if_pos h]
   rw [if_pos h] at h2
   go_enter Tryz.func113, Tryz.ntmps113
   go_wp2_with (go_at_call 130; (first | with_reducible refine (h1 _).mono ?_ | with_reducible refine (h2 _).mono ?_); rintro e w1 ⟨rfl, rfl⟩)
   go_ret
   refine ⟨rfl, ?_⟩
   (repeat' first | (with_reducible first | exact Below.refl _ _ | assumption | refine Below.alloc ?_ ?_ _ | refine Below.drew ?_ | refine Below.setCell ?_ ?_ _ | refine Below.trans ?_ (Below.mono (by assumption) ?_)) | go_size)
  ·subst h
   rw [if_neg (by omega), if_neg (by omega)]
   rw [if_neg (by omega), if_neg (by omega)] at h2
   go_enter Tryz.func113, Tryz.ntmps113
   go_wp2_with (first | (go_at_call 130; (first | with_reducible refine (h1 _).mono ?_ | with_reducible refine (h2 _).mono ?_); rintro e w1 ⟨rfl, rfl⟩) | (go_at_call 131; with_reducible refine (h3 _).mono ?_; rintro e w1 ⟨rfl, rfl⟩))
   go_ret
   refine ⟨rfl, ?_⟩
   (repeat' first | (with_reducible first | exact Below.refl _ _ | assumption | refine Below.alloc ?_ ?_ _ | refine Below.drew ?_ | refine Below.setCell ?_ ?_ _ | refine Below.trans ?_ (Below.mono (by assumption) ?_)) | go_size)
  ·rw [if_neg (by omega), if_pos h]
   rw [if_neg (by omega), if_pos h] at h2
   go_enter Tryz.func113, Tryz.ntmps113
   go_wp2_with (go_at_call 130; (first | with_reducible refine (h1 _).mono ?_ | with_reducible refine (h2 _).mono ?_); rintro e w1 ⟨rfl, rfl⟩)
   go_ret
   refine ⟨rfl, ?_⟩
   (repeat' first | (with_reducible first | exact Below.refl _ _ | assumption | refine Below.alloc ?_ ?_ _ | refine Below.drew ?_ | refine Below.setCell ?_ ?_ _ | refine Below.trans ?_ (Below.mono (by assumption) ?_)) | go_size)
 ·rw [if_neg (by omega), if_pos h]
  rw [if_neg (by omega), if_pos h] at h1
  go_enter Tryz.func113, Tryz.ntmps113
  go_wp2_with (go_at_call 130; with_reducible refine (h1 _).mono ?_; rintro e w1 ⟨rfl, rfl⟩)
  go_ret
  refine ⟨rfl, ?_⟩
  (repeat' first | (with_reducible first | exact Below.refl _ _ | assumption | refine Below.alloc ?_ ?_ _ | refine Below.drew ?_ | refine Below.setCell ?_ ?_ _ | refine Below.trans ?_ (Below.mono (by assumption) ?_)) | go_size)
def sgn (a b : Bool) : Int := if a then -1 else if b then 1 else 0
theorem sign_any (a b : Bool) (w : World) : Calls Tryz.prog 127 #[.bool a, .bool b] w fun e w' => e = .returned (.int .i64 (sgn a b)) ∧ w' = w := by
 cases a <;> cases b
 all_goals
  go_enter Tryz.func127, Tryz.ntmps127
  go_wp2
  go_ret
  exact ⟨rfl, rfl⟩
theorem pCmp_any (p q : Vl) (w : World) :
  Calls Tryz.prog 113 #[valV p, valV q] w fun e w' => e = .returned (.int .i64 (cmpP p q)) ∧ Below w.heap.size w w' := by
 obtain ⟨k, n, s⟩ := p; obtain ⟨k2, n2, s2⟩ := q
 rw [← cmpV_P]; exact pCompareV_any k n s k2 n2 s2 w
end Go.Proofs.YtdhemhmgenhmaaaGreat
namespace Go.Proofs.YtdhemhmgenhmaaaGreat
open Go.RowKit
end Go.Proofs.YtdhemhmgenhmaaaGreat
namespace Go.Proofs.YtdhemhmgenhmaaaGreat
open Go.RowKit
def badR (x : Nat) : Bool := decide (x < 32) || decide (126 < x)
theorem badR_decode (n b0 b1 b2 b3 : Nat) (h : ¬ (32 ≤ b0 ∧ b0 ≤ 126)) : badR (Lib.decodeN n b0 b1 b2 b3).1 = true := by
 unfold badR
 simp only [Bool.or_eq_true, decide_eq_true_eq]
 unfold Lib.decodeN
 repeat' split
 all_goals (dsimp only; omega)
theorem goodR_decode (n b0 b1 b2 b3 : Nat) (h : 32 ≤ b0 ∧ b0 ≤ 126) : Lib.decodeN n b0 b1 b2 b3 = (b0, 1) ∧ badR b0 = false := by
 unfold badR Lib.decodeN
 rw [if_pos (by omega)]
 refine ⟨rfl, ?_⟩
 rw [decide_eq_false (by omega), decide_eq_false (by omega)]; rfl
theorem get_list (s : ByteArray) (i : Nat) (h : i < s.size) : s.get! i = s[i] := by
 show s.data[i]! = s.data[i]
 exact getElem!_pos s.data i h
theorem idx_prn_from (s : ByteArray) : ∀ (f pos : Nat), s.size ≤ pos + f → (decide (0 ≤ Lib.idxFuncFrom badR true s f pos) = !prnB (s.data.toList.drop pos))
 | 0, pos, h => by
  rw [List.drop_eq_nil_of_le (by rw [← Lib.size_eq]; omega)]
  rfl
 | f + 1, pos, h => by
  unfold Lib.idxFuncFrom
  by_cases hp : pos < s.size
  ·rw [if_pos hp]
   have hd : s.data.toList.drop pos = s[pos] :: s.data.toList.drop (pos + 1) := List.drop_eq_getElem_cons (by rw [← Lib.size_eq]; exact hp)
   have hg : (s.get! pos).toNat = s[pos].toNat := by rw [get_list s pos hp]
   rw [Lib.decode_at, hg, hd]
   by_cases hb : 32 ≤ s[pos].toNat ∧ s[pos].toNat ≤ 126
   ·obtain ⟨e, e2⟩ := goodR_decode (s.size - pos) s[pos].toNat (s.get! (pos + 1)).toNat (s.get! (pos + 2)).toNat (s.get! (pos + 3)).toNat hb
    rw [e]
    dsimp only
    rw [e2, if_neg (by simp), idx_prn_from s f (pos + 1) (by omega)]
    unfold prnB
    rw [List.all_cons, decide_eq_true hb.1, decide_eq_true hb.2]
    rfl
   ·rw [badR_decode _ _ _ _ _ hb, if_pos rfl, decide_eq_true (by omega)]
    unfold prnB
    rw [List.all_cons]
    have : (decide (32 ≤ s[pos].toNat) && decide (s[pos].toNat ≤ 126)) = false := by
     rw [Bool.eq_false_iff]; intro e; simp only [Bool.and_eq_true, decide_eq_true_eq] at e; exact hb e
    rw [this]; rfl
  ·rw [if_neg hp, List.drop_eq_nil_of_le (by rw [← Lib.size_eq]; omega)]
   rfl
theorem idx_prn (s : ByteArray) : decide (0 ≤ Lib.idxFunc badR true s) = !prnB s.data.toList := idx_prn_from s s.size 0 (by omega)
theorem clo_any (x : Nat) (hx : x ≤ 1114111) (w : World) : Calls Tryz.prog 137 #[.int .i32 (x : Int)] w fun e w' => e = .returned (.bool (badR x)) ∧ w' = w := by
 by_cases h1 : (x : Int) < 32
 ·have hb : badR x = true := by unfold badR; rw [decide_eq_true (by omega)]; rfl
  go_enter Tryz.func137, Tryz.ntmps137
  go_wp2
  go_ret
  exact ⟨by first | rfl | (rw [hb]; rfl), rfl⟩
 ·by_cases h2 : 126 < (x : Int)
  ·have hb : badR x = true := by unfold badR; rw [decide_eq_true (p := 126 < x) (by omega), Bool.or_true]
   go_enter Tryz.func137, Tryz.ntmps137
   go_wp2
   go_ret
   exact ⟨by first | rfl | (rw [hb]; rfl), rfl⟩
  ·have hb : badR x = false := by unfold badR; rw [decide_eq_false (by omega), decide_eq_false (by omega)]; rfl
   go_enter Tryz.func137, Tryz.ntmps137
   go_wp2
   go_ret
   exact ⟨by first | rfl | (rw [hb]; rfl), rfl⟩
theorem clo_enters : ∀ args w, (callFunc 137 args).run Tryz.prog w = .ok (.enter 137 args) w := enters_of Tryz.func137 (by kernel_rfl) rfl
theorem contains_any (s : ByteArray) (w : World) : Calls Tryz.prog 136 #[.string s, .func (.func 137) #[] #[]] w fun e w' => e = .returned (.bool (!prnB s.data.toList)) ∧ Below w.heap.size w w' := by
 rw [← idx_prn]
 exact Tryz.strings_ContainsFunc_runes _ _ clo_enters badR s w (fun W x hx _ => (clo_any x hx W).mono fun e w' ⟨h1, h2⟩ => ⟨h1, 0, h2⟩)
theorem pPrn_any (s : ByteArray) (w : World) : Calls Tryz.prog 122 #[.string s] w fun e w' => e = .returned (.bool (prnB s.data.toList)) ∧ Below w.heap.size w w' := by
 have hc := fun W => contains_any s W
 cases hp : prnB s.data.toList <;> rw [hp] at hc
 all_goals
  go_enter Tryz.func122, Tryz.ntmps122
  go_wp2_with (go_at_call 136; refine (hc _).mono ?_; rintro e w1 ⟨rfl, hb⟩)
  go_ret
  refine ⟨rfl, ?_⟩
  (repeat' first | (with_reducible first | exact Below.refl _ _ | assumption | refine Below.alloc ?_ ?_ _ | refine Below.drew ?_ | refine Below.setCell ?_ ?_ _ | refine Below.trans ?_ (Below.mono (by assumption) ?_)) | go_size)
theorem pValid_any (k n : Int) (s : ByteArray) (w : World) : Calls Tryz.prog 95 #[valV (k, n, s)] w fun e w' => e = .returned (.bool (okP (k, n, s))) ∧ Below w.heap.size w w' := by
 have hP := fun W => pPrn_any s W
 unfold okP valV
 dsimp only
 by_cases k0 : k = 0
 ·subst k0
  rw [if_pos rfl]
  by_cases hn : n = 0 <;> cases he : s.toList == []
  all_goals
   go_enter Tryz.func95, Tryz.ntmps95
   go_wp2
   go_ret
   refine ⟨by simp [*], ?_⟩
   (repeat' first | (with_reducible first | exact Below.refl _ _ | assumption | refine Below.alloc ?_ ?_ _ | refine Below.drew ?_ | refine Below.setCell ?_ ?_ _ | refine Below.trans ?_ (Below.mono (by assumption) ?_)) | go_size)
 rw [if_neg k0]
 by_cases k1 : k = 1
 ·subst k1
  rw [if_pos rfl]
  by_cases h1 : -1125899906842624 ≤ n <;> by_cases h2 : n ≤ 1125899906842624 <;> cases he : s.toList == []
  all_goals (first | (exfalso; omega) | skip)
  all_goals
   go_enter Tryz.func95, Tryz.ntmps95
   go_wp2
   go_ret
   refine ⟨by simp [*], ?_⟩
   (repeat' first | (with_reducible first | exact Below.refl _ _ | assumption | refine Below.alloc ?_ ?_ _ | refine Below.drew ?_ | refine Below.setCell ?_ ?_ _ | refine Below.trans ?_ (Below.mono (by assumption) ?_)) | go_size)
 rw [if_neg k1]
 by_cases k2 : k = 2
 ·subst k2
  rw [if_pos rfl]
  by_cases hn : n = 0
  ·by_cases hs : s.size ≤ 200
   ·have hsi : (s.size : Int) ≤ 200 := by omega
    cases hp : prnB s.data.toList <;> rw [hp] at hP
    all_goals
     go_enter Tryz.func95, Tryz.ntmps95
     go_wp2_with (go_at_call 122; refine (hP _).mono ?_; rintro e w1 ⟨rfl, hb⟩)
     go_ret
     refine ⟨by simp [*], ?_⟩
     (repeat' first | (with_reducible first | exact Below.refl _ _ | assumption | refine Below.alloc ?_ ?_ _ | refine Below.drew ?_ | refine Below.setCell ?_ ?_ _ | refine Below.trans ?_ (Below.mono (by assumption) ?_)) | go_size)
   ·have hsi : ¬ (s.size : Int) ≤ 200 := by omega
    go_enter Tryz.func95, Tryz.ntmps95
    go_wp2
    go_ret
    refine ⟨by simp [*], ?_⟩
    (repeat' first | (with_reducible first | exact Below.refl _ _ | assumption | refine Below.alloc ?_ ?_ _ | refine Below.drew ?_ | refine Below.setCell ?_ ?_ _ | refine Below.trans ?_ (Below.mono (by assumption) ?_)) | go_size)
  ·go_enter Tryz.func95, Tryz.ntmps95
   go_wp2
   go_ret
   refine ⟨by simp [*], ?_⟩
   (repeat' first | (with_reducible first | exact Below.refl _ _ | assumption | refine Below.alloc ?_ ?_ _ | refine Below.drew ?_ | refine Below.setCell ?_ ?_ _ | refine Below.trans ?_ (Below.mono (by assumption) ?_)) | go_size)
 rw [if_neg k2]
 by_cases k3 : k = 3
 ·subst k3
  rw [if_pos rfl]
  by_cases h1 : n = 0 <;> by_cases h2 : n = 1 <;> cases he : s.toList == []
  all_goals (first | (exfalso; omega) | skip)
  all_goals
   go_enter Tryz.func95, Tryz.ntmps95
   go_wp2
   go_ret
   refine ⟨by simp [*], ?_⟩
   (repeat' first | (with_reducible first | exact Below.refl _ _ | assumption | refine Below.alloc ?_ ?_ _ | refine Below.drew ?_ | refine Below.setCell ?_ ?_ _ | refine Below.trans ?_ (Below.mono (by assumption) ?_)) | go_size)
 rw [if_neg k3]
 have j0 : (k == 0) = false := by simpa using k0
 have j1 : (k == 1) = false := by simpa using k1
 have j2 : (k == 2) = false := by simpa using k2
 have j3 : (k == 3) = false := by simpa using k3
 go_enter Tryz.func95, Tryz.ntmps95
 go_wp2
 go_ret
 refine ⟨rfl, ?_⟩
 (repeat' first | (with_reducible first | exact Below.refl _ _ | assumption | refine Below.alloc ?_ ?_ _ | refine Below.drew ?_ | refine Below.setCell ?_ ?_ _ | refine Below.trans ?_ (Below.mono (by assumption) ?_)) | go_size)
end Go.Proofs.YtdhemhmgenhmaaaGreat
namespace Go.Proofs.YtdhemhmgenhmaaaGreat
open Go.RowKit
theorem load_per {w : World} {g : Nat} {x y : Value} (h : Own w g 55 #[x, y]) : (loadVar 55 ⟨g, 0, none⟩).run Tryz.prog w = .ok (.agg #[x, y]) w :=
 run_loadVar_row w g 55 55 #[x, y] (0, 0) _ h Tryz.underlying55 rfl (by kernel_rfl)
theorem perValid_any (a b : Int) (w : World) :
  Calls Tryz.prog 81 #[.agg #[.int .i64 a, .int .i64 b]] w fun e w' => e = .returned (.bool (vld a b)) ∧ Below w.heap.size w w' := by
 unfold vld
 by_cases h1 : 0 ≤ a <;> by_cases h2 : a < b <;> by_cases h3 : b ≤ 1099511627776
 all_goals first | (exfalso; omega) | skip
 all_goals
  go_enter Tryz.func81, Tryz.ntmps81
  go_wp2
  go_ret
  exact ⟨by simp [*], (Below.refl _ _).alloc (Nat.le_refl _) _⟩
end Go.Proofs.YtdhemhmgenhmaaaGreat
namespace Go.Proofs.YtdhemhmgenhmaaaGreat
open Go.RowKit
theorem own_two {w : World} {t : TypeId} {cs : Array Value} (o : Obj) : Own ((w.alloc o).alloc (.cells cs t)) (w.heap.size + 1) t cs := by
 have h := Own.new (w.alloc o) t cs
 rwa [World.size_alloc] at h
end Go.Proofs.YtdhemhmgenhmaaaGreat
namespace Go.Proofs.YtdhemhmgenhmaaaGreat
open Go.RowKit
end Go.Proofs.YtdhemhmgenhmaaaGreat
namespace Go.Proofs.YtdhemhmgenhmaaaGreat
open Go.RowKit
def flatV : List Vl → List Value
 | [] => []
 | p :: t => .int .i64 p.1 :: .int .i64 p.2.1 :: .string p.2.2 :: flatV t
theorem flatV_append : ∀ a b : List Vl, flatV (a ++ b) = flatV a ++ flatV b
 | [], b => rfl
 | p :: t, b => by
  show .int .i64 p.1 :: .int .i64 p.2.1 :: .string p.2.2 :: flatV (t ++ b) = _
  rw [flatV_append t b]
  rfl
theorem flatV_len : ∀ a : List Vl, (flatV a).length = a.length * 3
 | [] => rfl
 | p :: t => by
  show (flatV t).length + 1 + 1 + 1 = _
  rw [flatV_len t, List.length_cons]
  omega
theorem flatV_get (ps : List Vl) (k : Nat) (p : Vl) (h : ps[k]? = some p) : (flatV ps)[k * 3]? = some (.int .i64 p.1) ∧ (flatV ps)[k * 3 + 1]? = some (.int .i64 p.2.1) ∧ (flatV ps)[k * 3 + 2]? = some (.string p.2.2) := by
 obtain ⟨hk, rfl⟩ := List.getElem?_eq_some_iff.1 h
 have e : ps = ps.take k ++ ps[k] :: ps.drop (k + 1) := by rw [List.getElem_cons_drop, List.take_append_drop]
 have e2 : flatV ps = flatV (ps.take k) ++ (.int .i64 ps[k].1 :: .int .i64 ps[k].2.1 :: .string ps[k].2.2 :: flatV (ps.drop (k + 1))) := by
  conv => lhs; rw [e]
  rw [flatV_append]
  rfl
 have hl : (flatV (ps.take k)).length = k * 3 := by rw [flatV_len, List.length_take]; omega
 rw [e2]
 refine ⟨?_, ?_, ?_⟩
 ·rw [List.getElem?_append_right (by omega), hl, show k * 3 - k * 3 = 0 by omega]; rfl
 ·rw [List.getElem?_append_right (by omega), hl, show k * 3 + 1 - k * 3 = 1 by omega]; rfl
 ·rw [List.getElem?_append_right (by omega), hl, show k * 3 + 2 - k * 3 = 2 by omega]; rfl
def zV : Vl := (0, 0, ⟨#[]⟩)
theorem rdV_nil (w : World) (L B : Nat) : RdV w L B (.slice none 0 0) [] := ⟨none, 0, rfl, by simp, fun k b h => by simp at h⟩
theorem infoV : (Tryz.prog.info? 23).map (fun i => (i.zero, i.size, i.bytes)) = some (some (.agg #[.int .i64 0, .int .i64 0, .string ⟨#[]⟩]), 3, 32) := by kernel_rfl
theorem RdV.of_own {w : World} {base : Nat} {v : Value} {ps : List Vl} (h : w.ownsRow base 23 3 v ps.length (flatV ps)) (hl : ps.length ≤ 9223372036854775807) : RdV w base w.heap.size v ps := by
 rcases h.2 with ⟨rfl, h0⟩ | ⟨g, cap, cur, rfl, hb, hh, hn, hc, hs, ht⟩
 ·obtain rfl := List.eq_nil_of_length_eq_zero h0
  exact ⟨none, 0, rfl, by simp, fun k n hk => by simp at hk⟩
 ·have hg : g < w.heap.size := by
   rcases Nat.lt_or_ge g w.heap.size with h1 | h1
   ·exact h1
   ·rw [Array.getElem?_eq_none h1] at hh; cases hh
  have he : ∀ i u, (flatV ps)[i]? = some u → w.cell? ⟨g, i, none⟩ = some u := fun i u hu => by
   rw [cell_of_row w g i cur _ _ hh, ← Array.getElem?_toList]
   rw [← ht, List.getElem?_take] at hu
   split at hu
   ·exact hu
   ·cases hu
  refine ⟨_, cap, rfl, hl, fun k p hk => ⟨_, rfl, hb, hg, ?_⟩⟩
  obtain ⟨h1, h2, h3⟩ := flatV_get ps k p hk
  have ea : (⟨g, 0, none⟩ : Addr).add (k * 3) = ⟨g, k * 3, none⟩ := by unfold Addr.add; split <;> simp_all
  rw [ea]
  exact ⟨he _ _ h1, he _ _ h2, he _ _ h3⟩
theorem append_val {ops : Array Oper} {rest : List Oper} {o : Oper} {a : Act} {Q : Exit → Act → World → Prop} (W : World) (hgd : o.guard = none) (s x : Operand)
  (ho : o.op = .call { callee := .builtin .append, args := #[s, x], argTypes := #[27, 27] }) (base : Nat) (v : Value) (l : List Vl) (hs : a.eval s = v)
  (hown : W.ownsRow base 23 3 v l.length (flatV l)) (ad : Addr) (m : List Vl) (c : Nat) (hx : a.eval x = .slice (some ad) m.length c)
  (hnew : ∀ j u, (flatV m)[j]? = some u → W.cell? (ad.add j) = some u) (hl : l.length + m.length ≤ 2199023255552) (hbase : base ≤ W.heap.size)
  (h : ∀ v' w', w'.ownsRow base 23 3 v' (l ++ m).length (flatV (l ++ m)) → Below base W w' → wpList Tryz.prog ops Q rest (a.put o.dst v') w') :
  wpList Tryz.prog ops Q (o :: rest) a W := by
 obtain ⟨i0, hi, hz0, hz1, hz2⟩ := info_partsB infoV
 refine wpList_append_own _ hgd s x 27 ho base 23 i0 (.agg #[.int .i64 0, .int .i64 0, .string ⟨#[]⟩]) 3 32 Tryz.underlying27 hi hz0 hz1 hz2 rfl (by decide) v l.length (flatV l) hs hown ad m.length c (flatV m) hx (by rw [flatV_len])
  hnew (fun u hu => ?_) (by unfold maxLen; omega) (by omega) hbase ?_
 ·have hall : ∀ ps : List Vl, ∀ u ∈ flatV ps, u.oneCell' = true := by
   intro ps
   induction ps with
   | nil => intro u hu; cases hu
   | cons p t ih =>
    intro u hu
    have hu2 : u ∈ (.int .i64 p.1 :: .int .i64 p.2.1 :: .string p.2.2 :: flatV t : List Value) := hu
    simp only [List.mem_cons] at hu2
    rcases hu2 with rfl | rfl | rfl | hu2
    ·rfl
    ·rfl
    ·rfl
    ·exact ih u hu2
  exact hall m u hu
 ·intro v' w' h1 h2 _
  exact h v' w' (by rw [flatV_append, List.length_append]; exact h1) ((Below.refl _ _).grown h2 hbase fun k hk => (hown.lt k hk).1)
theorem lit_cells (W : World) (g : Nat) (hg : g = W.heap.size) (k n : Int) (s : ByteArray) : ∀ j u, (flatV [(k, n, s)])[j]? = some u → (W.alloc (.cells #[.int .i64 k, .int .i64 n, .string s] 23)).cell? ((⟨g, 0, none⟩ : Addr).add j) = some u := by
 subst hg
 intro j u hu
 rw [cell_add0, (Own.new W 23 #[.int .i64 k, .int .i64 n, .string s]).cell j]
 simpa [flatV] using hu
end Go.Proofs.YtdhemhmgenhmaaaGreat
namespace Go.Proofs.YtdhemhmgenhmaaaGreat
open Go.ChangeShapes Go.WideShapes Go.ChangeAt Go.RowKit Go.Joins Go.Deep
theorem own : ownKnob Tryz.prog.godebug = none := by kernel_rfl
theorem laidOut : laidOutB Tryz.prog = true := by kernel_rfl
theorem maxLen_le : maxLen ≤ 9223372036854775807 := by unfold maxLen; omega
theorem cell_lt {w : World} {a : Addr} {v : Value} (h : w.cell? a = some v) : a.block < w.heap.size := by
 rcases Nat.lt_or_ge a.block w.heap.size with h1 | h1
 ·exact h1
 ·unfold World.cell? at h
  rw [Array.getElem?_eq_none h1] at h
  cases h
section
variable {H : Type} {enc : TypeId × Value → H} {W : World} {base : Nat}
end
end Go.Proofs.YtdhemhmgenhmaaaGreat
namespace Go.Proofs.YtdhemhmgenhmaaaGreat
open Go.ChangeShapes Go.WideShapes Go.ChangeAt Go.RowKit Go.Joins Go.Deep
theorem cellsVal : Tryz.prog.cellsOf 23 = 3 := by kernel_rfl
section
variable {H : Type} {enc : TypeId × Value → H} {W : World} {base : Nat}
end
end Go.Proofs.YtdhemhmgenhmaaaGreat
namespace Go.Proofs.YtdhemhmgenhmaaaGreat
open Go.ChangeShapes Go.WideShapes Go.ChangeAt Go.RowKit Go.Joins Go.Deep
section
variable {H : Type} {enc : TypeId × Value → H} {W : World} {base : Nat}
end
end Go.Proofs.YtdhemhmgenhmaaaGreat
namespace Go.Proofs.YtdhemhmgenhmaaaGreat
open Go.ChangeShapes Go.WideShapes Go.ChangeAt Go.RowKit Go.Joins Go.Deep
theorem cellsInt1 : Tryz.prog.cellsOf 3 = 1 := by kernel_rfl
theorem cellsStr1 : Tryz.prog.cellsOf 9 = 1 := by kernel_rfl
theorem addr_add1 (ad : Addr) : ad.add 1 = ⟨ad.block, ad.off + 1, none⟩ := by unfold Addr.add; simp
theorem addr_add2 (ad : Addr) : ad.add 2 = ⟨ad.block, ad.off + 2, none⟩ := by unfold Addr.add; simp
theorem bulk_vals {H : Type} (q : Nat → Vl) (D : Nat → DataW H) : ∀ l : List Nat, (∀ i ∈ l, (q i).2.2.size + 4 ≤ Rows.uptoBulk (D i)) → szL (l.map q) ≤ 3 * Rows.uptoBulkAll (l.map D) ∧ l.length ≤ Rows.uptoBulkAll (l.map D) := by
 intro l
 induction l with
 | nil => intro _; simp [szL]
 | cons i l ih =>
  intro h
  have h1 := h i (List.mem_cons_self ..)
  obtain ⟨h2, h3⟩ := ih (fun j hj => h j (List.mem_cons_of_mem _ hj))
  unfold szL at h2 ⊢
  simp only [List.map_cons, List.sum_cons, Rows.uptoBulkAll, List.length_cons]
  constructor <;> omega
section
variable {H : Type} {enc : TypeId × Value → H} {W : World} {base : Nat}
theorem open_valsU {v : Value} {d : DataW H} {p : List MemPlace} (hv : Value.okWide Tryz.prog W .any base 27 v) (h : DataW.Trod enc Tryz.prog W 0 (fun _ => true) true 27 v d p) :
  ∃ ps : List Vl, RdV W 0 W.heap.size v ps ∧ (∀ n c, v = .slice none n c → c = 0) ∧ szL ps ≤ 3 * Rows.uptoBulk d ∧ ps.length ≤ Rows.uptoBulk d := by
 obtain ⟨a0, len0, cap0, rfl⟩ := okWide_slice Tryz.underlying27 hv
 obtain ⟨fuel, hf⟩ := h
 rcases open_slice Tryz.underlying27 hf with ⟨hcs, _⟩ | ⟨a, len, cap, m, n, D, Pl, hcs, _, hl, hm, hmm, hxx, hx⟩
 ·simp only [Value.cells, List.cons.injEq, and_true] at hcs
  injection hcs with e1 e2 e3
  subst e1 e2 e3
  exact ⟨[], ⟨none, 0, rfl, by simp, by simp⟩, fun n c e => by injection e with _ _ e3; exact e3.symm, by simp [szL], by simp⟩
 ·simp only [Value.cells, List.cons.injEq, and_true] at hcs
  injection hcs with e1 e2 e3
  subst e1 e2 e3
  rw [if_pos rfl] at hmm
  subst hmm
  have hml := maxLen_le
  have each : ∀ i, i < len0 → ∃ q : Vl, W.cell? (a.add (i * 3)) = some (.int .i64 q.1) ∧ W.cell? ⟨(a.add (i * 3)).block, (a.add (i * 3)).off + 1, none⟩ = some (.int .i64 q.2.1) ∧ W.cell? ⟨(a.add (i * 3)).block, (a.add (i * 3)).off + 2, none⟩ = some (.string q.2.2) ∧ q.2.2.size + 4 ≤ Rows.uptoBulk (D i) := by
   intro i hi
   obtain ⟨cs', hc, ht⟩ := hx i (by omega)
   rw [cellsVal] at hc
   obtain ⟨_, hcl, hat⟩ := World.cells?_some hc
   obtain ⟨xs, n', _, hxy, _, hxl, hfl⟩ := DataW.trod_struct Tryz.underlying23 ht
   match xs, hxl, cs', hcl with
   | [y0, y1, y2], _, [v0, v1, v2], _ =>
    have g0 := hfl 0 _ rfl
    have g1 := hfl 1 _ rfl
    have g2 := hfl 2 _ rfl
    simp [cellsInt1, cellsStr1] at g0 g1 g2
    have e0 := hat 0 (by omega)
    have e1 := hat 1 (by omega)
    have e2 := hat 2 (by omega)
    rw [addr_add1] at e1
    rw [addr_add2] at e2
    obtain ⟨x, f0, hy0, _⟩ := DataW.trod_int Tryz.underlying3 g0
    obtain ⟨y, f1, hy1, _⟩ := DataW.trod_int Tryz.underlying3 g1
    obtain ⟨s, f2, hy2, _⟩ := DataW.trod_string Tryz.underlying9 g2
    simp at f0 f1 f2
    subst f0 f1 f2
    refine ⟨(x, y, s), by simpa [show (a.add (i * 3)).add 0 = a.add (i * 3) by unfold Addr.add; simp] using e0, by simpa using e1, by simpa using e2, ?_⟩
    have hD := congrArg Prod.fst hxy
    have hD2 : D i = .agg [y0.1, y1.1, y2.1] := by simpa using hD
    rw [hD2, hy0, hy1, hy2]
    simp only [Rows.uptoBulk, Rows.uptoBulkAll]
    have := Lib.size_eq s
    omega
  obtain ⟨q, hq⟩ := choose_lt each
  have hd := congrArg Prod.fst hxx
  have hd' : d = .slice ((List.range len0).map D) ((List.range (m - len0)).map fun j => D (len0 + j)) := hd
  obtain ⟨hb1, hb2⟩ := bulk_vals q D (List.range len0) (fun i hi => (hq i (List.mem_range.1 hi)).2.2.2)
  refine ⟨(List.range len0).map q, ⟨some a, _, by rw [List.length_map, List.length_range], by rw [List.length_map, List.length_range]; omega, fun k p hk => ?_⟩, (by intro n c e; cases e), ?_, ?_⟩
  ·obtain ⟨hk1, hk2⟩ := List.getElem?_eq_some_iff.1 hk
   simp at hk1 hk2
   subst hk2
   obtain ⟨g0, g1, g2, _⟩ := hq k hk1
   have hb := cell_lt g0
   rw [add_block] at hb
   exact ⟨a, rfl, Nat.zero_le _, hb, g0, g1, g2⟩
  ·rw [hd']
   show _ ≤ 3 * (Rows.uptoBulkAll _ + Rows.uptoBulkAll _ + 1)
   omega
  ·rw [hd', List.length_map]
   show _ ≤ (Rows.uptoBulkAll _ + Rows.uptoBulkAll _ + 1)
   omega
end
end Go.Proofs.YtdhemhmgenhmaaaGreat
