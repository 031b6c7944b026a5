import Derived.Test.YteihjneeiojgaaaProg
import Derived.Test.YteihjneeiojgaaaMB
import Derived.Test.YteihjneeiojgaaaMA
import Derived.WalkSmall
import Derived.Laws.AppendOwn
import Derived.Laws.AppendOwnNone
import Derived.Shelf.Spec.SlicesGrow
import Derived.Lib.SmallJoins
import Derived.Lib.BufferRead
import Derived.OwnWalk
import Derived.WalkKit
import Derived.WalkSpells
import Derived.WalkLawsBesides
import Derived.Deep.QuietTactic
import Derived.BigQuiet
import Derived.Handy
import Derived.Lib.Hide
import Derived.Laws.BitsAllLaws
import Derived.Laws.Bits64
import Derived.Lib.Zigzag
import Derived.ArgAppend
import Derived.Outline
import Derived.Lib.BufferWrite
import Derived.Laws.CopyOwn
import Derived.Deep.RegionLaw
import Derived.Deep.RegionLawGrows
import Derived.Deep.AppendLies
import Derived.Deep.RegionWith
import Derived.Lib.ConvBytes
import Derived.Deep.RegionHeld3
import Derived.Laws.StructEq
import Derived.Lib.IndexMore
import Derived.Lib.Strings
import Derived.Lib.DecodeN
import Derived.Shelf.GgClosure.StringsIndexFunc
import Derived.Laws.MakeOwn
import Derived.Test.YteihjneeiojgaaaRows
import Derived.MakeChecks
import Derived.ProofKit
import Derived.LaidMore
import Derived.Lay
import Derived.OpenShut
import Derived.ChangeSlices
import Derived.SizedLaws
import Derived.Deep.Slices
import Derived.Deep.SlicePairs
/-
  Bytes that are read, rows of bytes that a call makes: the plain laws. Conditions: lengths.
-/
namespace Go.Proofs.Yteihjneeiojgaaa
set_option maxRecDepth 100000
set_option linter.unusedVariables false
set_option linter.unusedSimpArgs false
open Go.RowKit



theorem add_block (ad : Addr) (k : Nat) : (ad.add k).block = ad.block := by unfold Addr.add; split <;> rfl
/-- The slice v holds the bytes l; it lies below block B and not below block L; its room is at least its length. -/
def RdB (w : World) (L B : Nat) (v : Value) (l : List UInt8) : Prop :=
  ∃ A c, v = .slice A l.length c ∧ l.length ≤ 9223372036854775807 ∧ l.length ≤ c ∧ ∀ (k : Nat) (b : UInt8), l[k]? = some b → ∃ ad : Addr, A = some ad ∧ L ≤ ad.block ∧ ad.block < B ∧ w.cell? (ad.add k) = some (.int .u8 (b.toNat : Nat))
theorem RdB.below {w w' : World} {L B : Nat} {v : Value} {l : List UInt8} (h : RdB w L B v l) (hb : Below B w w') : RdB w' L B v l := by
  obtain ⟨A, c, hv, hl, hcc, hc⟩ := h
  exact ⟨A, c, hv, hl, hcc, fun k n hk => let ⟨ad, h1, h0, h2, h3⟩ := hc k n hk; ⟨ad, h1, h0, h2, (hb.cell (p := ad.add k) (by rw [add_block]; exact h2)).trans h3⟩⟩
theorem RdB.more {w : World} {L L' B B' : Nat} {v : Value} {l : List UInt8} (h : RdB w L B v l) (hB : B ≤ B') (hL : L' ≤ L) : RdB w L' B' v l := by
  obtain ⟨A, c, hv, hl, hcc, hc⟩ := h
  exact ⟨A, c, hv, hl, hcc, fun k n hk => let ⟨ad, h1, h0, h2, h3⟩ := hc k n hk; ⟨ad, h1, by omega, by omega, h3⟩⟩
theorem RdB.step {w w' : World} {L B : Nat} {v : Value} {l : List UInt8} (h : RdB w L B v l) (hb : Below w.heap.size w w') (hB : B ≤ w.heap.size) : RdB w' L w'.heap.size v l :=
  (h.below (hb.mono hB)).more (Nat.le_trans hB hb.size) (Nat.le_refl _)
theorem RdB.at {w : World} {L B : Nat} {A : Option Addr} {m c : Nat} {l : List UInt8} (h : RdB w L B (.slice A m c) l) {k : Nat} {b : UInt8} (hk : l[k]? = some b) : ∃ ad : Addr, A = some ad ∧ L ≤ ad.block ∧ ad.block < B ∧ w.cell? (ad.add k) = some (.int .u8 (b.toNat : Nat)) := by
  obtain ⟨A', c', hv, hl, _, hc⟩ := h
  injection hv with e1 e2 e3
  subst e1
  exact hc k b hk


def bytV (l : List UInt8) : List Value := l.map fun b => .int .u8 (b.toNat : Nat)
theorem bytV_len (l : List UInt8) : (bytV l).length = l.length := by unfold bytV; rw [List.length_map]
theorem bytV_app (l m : List UInt8) : bytV (l ++ m) = bytV l ++ bytV m := by unfold bytV; rw [List.map_append]
theorem infoB : (Try.prog.info? 5).map (fun i => (i.zero, i.size, i.bytes)) = some (some (.int .u8 0), 1, 1) := by kernel_rfl
theorem info_partsB {t : TypeId} {z : Value} {a b : Nat} (h : (Try.prog.info? t).map (fun i => (i.zero, i.size, i.bytes)) = some (some z, a, b)) : ∃ i, Try.prog.info? t = some i ∧ i.zero = some z ∧ i.size = a ∧ i.bytes = b := by
  cases hi : Try.prog.info? t with
  | none => rw [hi] at h; cases h
  | some i =>
    rw [hi] at h
    simp only [Option.map_some, Option.some.injEq, Prod.mk.injEq] at h
    exact ⟨i, rfl, h.1, h.2.1, h.2.2⟩
theorem RdB.of_own {w : World} {base : Nat} {v : Value} {l : List UInt8} (h : w.ownsRow base 5 1 v l.length (bytV l)) (hl : l.length ≤ 9223372036854775807) : RdB w base w.heap.size v l := by
  rcases h.2 with ⟨rfl, h0⟩ | ⟨g, cap, cur, rfl, hb, hh, hn, hc, hs, ht⟩
  · obtain rfl := List.eq_nil_of_length_eq_zero h0
    exact ⟨none, 0, rfl, hl, Nat.le_refl _, fun k n hk => by simp at hk⟩
  · have hg : g < w.heap.size := by
      rcases Nat.lt_or_ge g w.heap.size with h1 | h1
      · exact h1
      · rw [Array.getElem?_eq_none h1] at hh; cases hh
    refine ⟨_, cap, rfl, hl, hn, fun k n hk => ⟨_, rfl, hb, hg, ?_⟩⟩
    have hkl : k < l.length := (List.getElem?_eq_some_iff.1 hk).1
    have e : w.cell? ⟨g, k, none⟩ = cur[k]? := cell_of_row w g k cur _ _ hh
    have hv : (bytV l)[k]? = some (.int .u8 (n.toNat : Nat)) := by unfold bytV; rw [List.getElem?_map, hk]; rfl
    have e2 : w.cell? ⟨g, k, none⟩ = some (.int .u8 (n.toNat : Nat)) := by rw [e, ← hv, ← ht, ← Array.getElem?_toList, List.getElem?_take, if_pos (by omega)]
    unfold Addr.add
    split
    · rename_i h; subst h; exact e2
    · simpa using e2
theorem own_below {W w1 : World} {base e size n : Nat} {v : Value} {xs : List Value} (h : W.ownsRow base e size v n xs) (hb : Below W.heap.size W w1) : w1.ownsRow base e size v n xs :=
  h.kept (row := none) ⟨hb.os, hb.tape, hb.output, hb.size, fun j hj _ => hb.block j hj⟩ (by cases hv : v.ownBlock <;> simp)
def RetB (base : Nat) (w : World) (l : List UInt8) (e : Ending) (w' : World) : Prop := ∃ v, e = .returned v ∧ w'.ownsRow base 5 1 v l.length (bytV l) ∧ Below base w w'
theorem cell_add0 (w : World) (g k : Nat) : w.cell? ((⟨g, 0, none⟩ : Addr).add k) = w.cell? ⟨g, k, none⟩ := by
  have ha : (⟨g, 0, none⟩ : Addr).add k = ⟨g, k, none⟩ := by unfold Addr.add; split <;> simp_all
  rw [ha]
theorem add_add (ad : Addr) (i k : Nat) : (ad.add i).add k = ad.add (i + k) := by
  unfold Addr.add
  by_cases hi : i = 0
  · subst hi; simp
  · by_cases hk : k = 0
    · subst hk; simp [hi]
    · simp [hi, hk, Nat.add_assoc]
theorem rdB_sub {w : World} {L B : Nat} {ad : Addr} {n cap : Nat} {l : List UInt8} (h : RdB w L B (.slice (some ad) n cap) l) (i j c : Nat) (hij : i + j ≤ l.length) (hc : j ≤ c) : RdB w L B (.slice (some (ad.add i)) j c) ((l.drop i).take j) := by
  have hl : ((l.drop i).take j).length = j := by rw [List.length_take, List.length_drop]; omega
  have h63 : l.length ≤ 9223372036854775807 := by obtain ⟨_, _, _, h1, _⟩ := h; exact h1
  refine ⟨some (ad.add i), c, by rw [hl], by omega, by omega, fun k b hk => ?_⟩
  have hkj : k < j := by have := (List.getElem?_eq_some_iff.1 hk).1; omega
  rw [List.getElem?_take, if_pos hkj, List.getElem?_drop] at hk
  obtain ⟨ad2, h1, h2, h3, h4⟩ := h.at hk
  injection h1 with h1
  subst h1
  exact ⟨_, rfl, by rw [add_block]; exact h2, by rw [add_block]; exact h3, by rw [add_add]; exact h4⟩


theorem ownsRow_of_own {w : World} {g base : Nat} {l : List UInt8} (h : Own w g 5 (bytV l).toArray) (hb : base ≤ g) (hl : l.length ≤ maxLen) : w.ownsRow base 5 1 (.slice (some ⟨g, 0, none⟩) l.length l.length) l.length (bytV l) :=
  ⟨by rw [bytV_len]; omega, .inr ⟨g, l.length, _, rfl, hb, h, Nat.le_refl _, hl, by rw [List.size_toArray, bytV_len]; omega, by rw [List.take_of_length_le (by rw [bytV_len]; omega)]⟩⟩
theorem rdB_nil (w : World) (L B : Nat) : RdB w L B (.slice none 0 0) [] := ⟨none, 0, rfl, by simp, by simp, fun k b h => by simp at h⟩
theorem rdB_none (w : World) (L B : Nat) (A : Option Addr) (c : Nat) : RdB w L B (.slice A 0 c) [] := ⟨A, c, rfl, by simp, by simp, fun k b h => by simp at h⟩
theorem add_pos' (ad : Addr) (i : Nat) : ad.add (i + 1) = ⟨ad.block, ad.off + (i + 1), none⟩ := by unfold Addr.add; simp
theorem rdB_take {w : World} {L B : Nat} {A : Option Addr} {n cap : Nat} {l : List UInt8} (h : RdB w L B (.slice A n cap) l) (j c : Nat) (hij : j ≤ l.length) (hc : j ≤ c) : RdB w L B (.slice A j c) (l.take j) := by
  have hl : (l.take j).length = j := by rw [List.length_take]; omega
  obtain ⟨A', c', hv, h63, hcc, hx⟩ := h
  injection hv with e1 e2 e3
  subst e1
  refine ⟨A, c, by rw [hl], by omega, by omega, fun k b hk => ?_⟩
  have hkj : k < j := by have := (List.getElem?_eq_some_iff.1 hk).1; omega
  rw [List.getElem?_take, if_pos hkj] at hk
  exact hx k b hk


theorem own_lit (w : World) (l : List UInt8) (hl : l.length ≤ maxLen) (c : Array Value) (hc : c = (bytV l).toArray) : (w.alloc (.cells c 5)).ownsRow w.heap.size 5 1 (.slice (some ⟨w.heap.size, 0, none⟩) l.length l.length) l.length (bytV l) := by
  subst hc
  exact ownsRow_of_own (Own.new w _ _) (Nat.le_refl _) hl
theorem own_not_none {w : World} {base n : Nat} {v : Value} {xs : List Value} (h : w.ownsRow base 5 1 v n xs) : ∀ k c, v = .slice none k c → c = 0 := by
  intro k c e
  rcases h.2 with ⟨rfl, h0⟩ | ⟨g, cap, cur, rfl, _⟩
  · injection e with _ _ e3; exact e3.symm
  · cases e
theorem ownsRow_low {w : World} {b1 b2 e size n : Nat} {v : Value} {xs : List Value} (h : w.ownsRow b1 e size v n xs) (hb : b2 ≤ b1) : w.ownsRow b2 e size v n xs := by
  refine ⟨h.1, ?_⟩
  rcases h.2 with h0 | ⟨g, cap, cur, hv, hb2, hr⟩
  · exact .inl h0
  · exact .inr ⟨g, cap, cur, hv, Nat.le_trans hb hb2, hr⟩


theorem rdB_cells {w : World} {g : Nat} {t : TypeId} {fr : Nat × Nat} {cs : Array Value} {l : List UInt8} (h : w.heap[g]? = some (.cells cs t fr)) (hcs : cs = (bytV l).toArray) (hl : l.length ≤ 9223372036854775807) : RdB w 0 w.heap.size (.slice (some ⟨g, 0, none⟩) l.length l.length) l := by
  subst hcs
  refine ⟨_, _, rfl, hl, Nat.le_refl _, fun k b hk => ⟨_, rfl, Nat.zero_le _, ?_, ?_⟩⟩
  · rcases Nat.lt_or_ge g w.heap.size with h1 | h1
    · exact h1
    · rw [Array.getElem?_eq_none h1] at h; cases h
  · have e : w.cell? ⟨g, k, none⟩ = (bytV l).toArray[k]? := cell_of_row w g k _ _ _ h
    have hv : (bytV l)[k]? = some (.int .u8 (b.toNat : Nat)) := by unfold bytV; rw [List.getElem?_map, hk]; rfl
    rw [show (⟨g, 0, none⟩ : Addr).add k = ⟨g, k, none⟩ by unfold Addr.add; split <;> simp_all, e]
    simpa using hv
theorem bel_mark (w : World) (o : Obj) : Below w.heap.size w (w.alloc o) := (Below.refl w.heap.size w).alloc (Nat.le_refl _) o
theorem heap_mark (w : World) (o : Obj) : (w.alloc o).heap[w.heap.size]? = some o := heap_alloc_new w o


theorem wrap_eq {x : Int} (h1 : -9223372036854775808 ≤ x) (h2 : x ≤ 9223372036854775807) : IntKind.i64.wrap x = x := by
  rw [IntKind.wrap_i64]; omega
end Go.Proofs.Yteihjneeiojgaaa
/-
  The program's zigzag, fromZigzag, isOffset and limited: what each answers. Conditions: numbers of 64 bits.
-/
namespace Go.Proofs.Yteihjneeiojgaaa
set_option maxRecDepth 100000
set_option linter.unusedVariables false
set_option linter.unusedSimpArgs false
open Go.RowKit

/-- A number folded to one without a sign. -/
def zig (n : Int) : Nat := if n < 0 then (-2 * n - 1).toNat else (2 * n).toNat
def unzig (z : Nat) : Int := if z % 2 = 1 then -((z / 2 : Nat) : Int) - 1 else ((z / 2 : Nat) : Int)
def I64 (n : Int) : Prop := -9223372036854775808 ≤ n ∧ n ≤ 9223372036854775807
theorem zig_lt {n : Int} (h : I64 n) : zig n < 18446744073709551616 := by unfold zig I64 at *; split <;> omega
theorem unzig_i64 {z : Nat} (h : z < 18446744073709551616) : I64 (unzig z) := by unfold unzig I64; split <;> omega
theorem unzig_zig (n : Int) : unzig (zig n) = n := by unfold unzig zig; split <;> split <;> omega
theorem zig_unzig (z : Nat) : zig (unzig z) = z := by unfold unzig zig; split <;> split <;> omega
end Go.Proofs.Yteihjneeiojgaaa
/-
  The program's appendInt and PutInt: what each answers. Conditions: numbers of 64 bits; lengths.
-/
namespace Go.Proofs.Yteihjneeiojgaaa
set_option maxRecDepth 100000
set_option linter.unusedVariables false
set_option linter.unusedSimpArgs false
open Go.RowKit

/-- A row of the call's own, or an argument cut to its length. -/
def Buf (w : World) (base : Nat) (v : Value) (l : List UInt8) : Prop :=
  w.ownsRow base 5 1 v l.length (bytV l) ∨ ∃ A, v = .slice A l.length l.length ∧ RdB w 0 base v l
theorem Buf.step {w w' : World} {base : Nat} {v : Value} {l : List UInt8} (h : Buf w base v l) (hb : Below w.heap.size w w') (hz : base ≤ w.heap.size) : Buf w' base v l := by
  rcases h with h | ⟨A, h1, h2⟩
  · exact .inl (own_below h hb)
  · exact .inr ⟨A, h1, h2.below (hb.mono hz)⟩
theorem rdB_byte (w : World) (X : Int) (b : UInt8) (hX : X = (b.toNat : Int)) : RdB (w.alloc (.cells #[.int .u8 X] 5)) 0 (w.alloc (.cells #[.int .u8 X] 5)).heap.size (.slice (some ⟨w.heap.size, 0, none⟩) 1 1) [b] := by
  subst hX
  exact rdB_cells (l := [b]) (heap_mark w _) rfl (by simp)
theorem rdB_bytes (w : World) (C : Array Value) (l : List UInt8) (hC : C = (bytV l).toArray) (n : Nat) (hn : n = l.length) (hl : l.length ≤ 9223372036854775807) : RdB (w.alloc (.cells C 5)) 0 (w.alloc (.cells C 5)).heap.size (.slice (some ⟨w.heap.size, 0, none⟩) n n) l := by
  subst hn
  exact rdB_cells (l := l) (heap_mark w _) hC hl
/-- A number in groups of seven bits, the least first. -/
def vint (z : Nat) : List UInt8 := if z < 128 then [UInt8.ofNat z] else UInt8.ofNat (z % 128 + 128) :: vint (z / 128)
termination_by z
decreasing_by omega
theorem vint_last {z : Nat} (h : z < 128) : vint z = [UInt8.ofNat z] := by rw [vint, if_pos h]
theorem vint_more {z : Nat} (h : ¬ z < 128) : vint z = UInt8.ofNat (z % 128 + 128) :: vint (z / 128) := by rw [vint, if_neg h]
theorem vint_len : ∀ (k z : Nat), z < 128 ^ (k + 1) → (vint z).length ≤ k + 1 := by
  intro k
  induction k with
  | zero => intro z h; rw [vint_last (by simpa using h)]; simp
  | succ k ih =>
    intro z h
    by_cases h1 : z < 128
    · rw [vint_last h1]; simp
    · rw [vint_more h1, List.length_cons]
      have := ih (z / 128) (by rw [Nat.pow_succ] at h; omega)
      omega
theorem vint_len10 {z : Nat} (h : z < 18446744073709551616) : (vint z).length ≤ 10 := vint_len 9 z (Nat.lt_of_lt_of_le h (by decide))
theorem ofNat_lt {k : Nat} (h : k < 256) : ((UInt8.ofNat k).toNat : Int) = (k : Int) := by rw [UInt8.toNat_ofNat']; omega
end Go.Proofs.Yteihjneeiojgaaa
/-
  The program's appendBytes and appendText: what each answers. Conditions: lengths.
-/
namespace Go.Proofs.Yteihjneeiojgaaa
set_option maxRecDepth 100000
set_option linter.unusedVariables false
set_option linter.unusedSimpArgs false
open Go.RowKit

/-- A row of the call's own in block g with room for cap bytes, of which the first are l. -/
def RoomB (w : World) (base g cap : Nat) (l : List UInt8) : Prop := ∃ cur : Array Value, base ≤ g ∧ w.heap[g]? = some (.cells cur 5 (0, 0)) ∧ cur.size = cap ∧ cap ≤ maxLen ∧ cur.toList.take l.length = bytV l
theorem room_of_own {w : World} {base g n cap : Nat} {l : List UInt8} (h : w.ownsRow base 5 1 (.slice (some ⟨g, 0, none⟩) n cap) l.length (bytV l)) : n = l.length ∧ RoomB w base g cap l ∧ l.length ≤ cap := by
  rcases h.2 with ⟨h', _⟩ | ⟨g', cap', cur, h', hb, hh, hn, hc, hs, ht⟩
  · simp at h'
  · simp only [Value.slice.injEq, Option.some.injEq, Addr.mk.injEq, and_true] at h'
    obtain ⟨rfl, rfl, rfl⟩ := h'
    exact ⟨rfl, ⟨cur, hb, hh, by omega, hc, by rw [Nat.mul_one] at ht; exact ht⟩, hn⟩
theorem own_of_room {w : World} {base g cap : Nat} {l : List UInt8} (h : RoomB w base g cap l) (hl : l.length ≤ cap) : w.ownsRow base 5 1 (.slice (some ⟨g, 0, none⟩) l.length cap) l.length (bytV l) := by
  obtain ⟨cur, hb, hh, hs, hc, ht⟩ := h
  exact ⟨by rw [bytV_len]; omega, .inr ⟨g, cap, cur, rfl, hb, hh, hl, hc, by omega, by rw [Nat.mul_one]; exact ht⟩⟩
/-- Every old cell outside the row's own block is as it was. -/
def Far (w : World) (v : Value) (w' : World) : Prop := ∀ ad : Addr, ad.block < w.heap.size → (∀ g, v.ownBlock = some g → ad.block ≠ g) → w'.cell? ad = w.cell? ad
end Go.Proofs.Yteihjneeiojgaaa
/-
  The program's appendText, appendOrdered, appendValue and appendKey at numbers and texts, PutValue at a text: what each answers. Conditions: lengths, numbers of 64 bits.
-/
namespace Go.Proofs.Yteihjneeiojgaaa
set_option maxRecDepth 100000
set_option linter.unusedVariables false
set_option linter.unusedSimpArgs false
open Go.RowKit

theorem vint_pos (z : Nat) : 0 < (vint z).length := by
  by_cases h : z < 128
  · rw [vint_last h]; simp
  · rw [vint_more h]; simp
/-- The bytes of a text behind their number. -/
def textB (s : ByteArray) : List UInt8 := vint (zig s.size) ++ s.data.toList
theorem size_list (s : ByteArray) : s.data.toList.length = s.size := by rw [← Lib.size_eq]
/-- A number with its sign turned, in eight bytes, the most significant one first. -/
def ordB (N : Nat) : List UInt8 := [UInt8.ofNat (N / 72057594037927936), UInt8.ofNat (N / 281474976710656), UInt8.ofNat (N / 1099511627776), UInt8.ofNat (N / 4294967296), UInt8.ofNat (N / 16777216), UInt8.ofNat (N / 65536), UInt8.ofNat (N / 256), UInt8.ofNat N]
def shf (n : Int) : Nat := (n + 9223372036854775808).toNat
end Go.Proofs.Yteihjneeiojgaaa
/-
  append and calls of the program in regions that draw their order: as laws of one step. Conditions: lengths.
-/
namespace Go.Proofs.Yteihjneeiojgaaa
set_option maxRecDepth 100000
set_option linter.unusedVariables false
set_option linter.unusedSimpArgs false
open Go.RowKit

/-- As Buf, and the row, if it is the call's own, lies below block N. -/
def BufN (w : World) (base N : Nat) (v : Value) (l : List UInt8) : Prop :=
  (w.ownsRow base 5 1 v l.length (bytV l) ∧ ∀ g, v.ownBlock = some g → g < N) ∨ ∃ A, v = .slice A l.length l.length ∧ RdB w 0 base v l
theorem Buf.to_n {w : World} {base : Nat} {v : Value} {l : List UInt8} (h : Buf w base v l) : BufN w base w.heap.size v l :=
  h.imp (fun h => ⟨h, fun g hg => (h.lt g hg).2⟩) id
theorem BufN.step {w w' : World} {base N : Nat} {v : Value} {l : List UInt8} (h : BufN w base N v l) (hb : Below w.heap.size w w') (hz : base ≤ w.heap.size) : BufN w' base N v l := by
  rcases h with ⟨h, h2⟩ | ⟨A, h1, h2⟩
  · exact .inl ⟨own_below h hb, h2⟩
  · exact .inr ⟨A, h1, h2.below (hb.mono hz)⟩
end Go.Proofs.Yteihjneeiojgaaa
/-
  The program's appendValue and PutValue at a text, appendKey at numbers and texts: what each answers. Conditions: lengths, numbers of 64 bits.
-/
namespace Go.Proofs.Yteihjneeiojgaaa
set_option maxRecDepth 100000
set_option linter.unusedVariables false
set_option linter.unusedSimpArgs false
open Go.RowKit

/-- A value: its kind, its number, its text. -/
abbrev Vl := Int × Int × ByteArray
def valV (p : Vl) : Value := .agg #[.int .i64 p.1, .int .i64 p.2.1, .string p.2.2]
/-- The key of a value. -/
def keyV (p : Vl) : List UInt8 := if p.1 = 1 then [2] ++ ordB (shf p.2.1) else if p.1 = 2 then [3] ++ p.2.2.data.toList ++ [0] else if p.1 = 3 then [4, UInt8.ofNat (p.2.1 % 2).toNat] else [1]
theorem rdB_drew {w : World} {L B : Nat} {v : Value} {l : List UInt8} (h : RdB w L B v l) : RdB w.drew L B v l := h
theorem rdB_at (w : World) (g : Nat) (hg : g = w.heap.size) (X : Int) (b : UInt8) (hX : X = (b.toNat : Int)) : RdB (w.alloc (.cells #[.int .u8 X] 5)) 0 (w.alloc (.cells #[.int .u8 X] 5)).heap.size (.slice (some ⟨g, 0, none⟩) 1 1) [b] := by
  subst hg; exact rdB_byte w X b hX
theorem box_cell (w : World) (a b c : Value) (t : TypeId) (o : Obj) (i : Nat) (x : Value) (h : #[a, b, c][i]? = some x) : ((w.alloc (.cells #[a, b, c] t)).alloc o).cell? ⟨w.heap.size, i, none⟩ = some x := by
  have o1 := (Own.new w t #[a, b, c]).alloc o
  rw [o1.cell i]
  exact h
end Go.Proofs.Yteihjneeiojgaaa
/-
  The reference's with and PutInt: what each answers. Conditions: numbers of 64 bits; lengths.
-/
namespace Go.Proofs.Yteihjneeiojgaaa
set_option maxRecDepth 100000
set_option linter.unusedVariables false
set_option linter.unusedSimpArgs false
open Go.RowKit

theorem rdB_notnone {w : World} {L B : Nat} {v : Value} {l : List UInt8} (h : RdB w L B v l) (hl : 0 < l.length) : ∀ n c, v = .slice none n c → c = 0 := by
  intro n c e
  obtain ⟨A, c', rfl, _, _, hx2⟩ := h
  injection e with e1 e2 e3
  subst e1
  obtain ⟨ad, h1, _⟩ := hx2 0 _ (List.getElem?_eq_getElem hl)
  cases h1
end Go.Proofs.Yteihjneeiojgaaa
/-
  The program's Int and the reference's: what is read from any bytes at any offset. Conditions: lengths.
-/
namespace Go.Proofs.Yteihjneeiojgaaa
set_option maxRecDepth 100000
set_option linter.unusedVariables false
set_option linter.unusedSimpArgs false
open Go.RowKit

/-- Groups of seven bits read from the i-th on, z read before: the error, the number, how many groups. -/
def decI (i z : Nat) : List UInt8 → Nat × Nat × Nat
  | [] => (2, 0, 0)
  | c :: t => if (i = 9 ∧ c.toNat > 1) ∨ (0 < i ∧ c.toNat = 0) then (1, 0, 0) else if c.toNat < 128 then (0, z + c.toNat % 128 * 128 ^ i, i + 1) else decI (i + 1) (z + c.toNat % 128 * 128 ^ i) t
/-- What Int answers. -/
def intF (l : List UInt8) (i : Int) : Nat × Int × Nat :=
  if i < 0 ∨ i > l.length then (6, 0, 0) else if (decI 0 0 (l.drop i.toNat)).1 = 0 then (0, unzig (decI 0 0 (l.drop i.toNat)).2.1, i.toNat + (decI 0 0 (l.drop i.toNat)).2.2) else ((decI 0 0 (l.drop i.toNat)).1, 0, 0)
theorem rdB_from {w : World} {L B : Nat} {A : Option Addr} {N c : Nat} {l : List UInt8} (h : RdB w L B (.slice A N c) l) (i : Nat) (_hi : i ≤ l.length) : RdB w L B (.slice (if c = i then A else A.map (·.add i)) (N - i) (c - i)) (l.drop i) := by
  have h0 := h
  obtain ⟨A', c', e, h63, hc, hx⟩ := h
  injection e with e1 e2 e3
  subst e1 e2 e3
  by_cases hl : l.drop i = []
  · have hz : l.length - i = 0 := by have := congrArg List.length hl; simpa using this
    rw [hl, hz]
    exact rdB_none _ _ _ _ _
  · have hlt : i < l.length := by
      rcases Nat.lt_or_ge i l.length with h1 | h1
      · exact h1
      · exact absurd (List.drop_eq_nil_of_le h1) hl
    rw [if_neg (by omega)]
    obtain ⟨ad, rfl, _⟩ := hx 0 _ (List.getElem?_eq_getElem (by omega))
    have := rdB_sub h0 i (l.length - i) (c - i) (by omega) (by omega)
    rw [List.take_of_length_le (by rw [List.length_drop]; omega)] at this
    exact this
theorem decI_drop (i z : Nat) (m : List UInt8) (k : Nat) (h : k < m.length) : decI i z (m.drop k) = if (i = 9 ∧ m[k].toNat > 1) ∨ (0 < i ∧ m[k].toNat = 0) then (1, 0, 0) else if m[k].toNat < 128 then (0, z + m[k].toNat % 128 * 128 ^ i, i + 1) else decI (i + 1) (z + m[k].toNat % 128 * 128 ^ i) (m.drop (k + 1)) := by
  rw [List.drop_eq_getElem_cons h]
  rfl
theorem or_shift (Z b k : Nat) (hZ : Z < 128 ^ k) (hk : k ≤ 9) (hb : k = 9 → b % 128 ≤ 1) : bits .or .u64 (Z : Int) (IntKind.u64.wrap ((b : Int) % 128 * 2 ^ (7 * k))) = ((Z + b % 128 * 128 ^ k : Nat) : Int) ∧ Z + b % 128 * 128 ^ k < 18446744073709551616 := by
  have hp : (128 : Nat) ^ k = 2 ^ (7 * k) := by rw [Nat.pow_mul]
  have hX : b % 128 * 128 ^ k < 18446744073709551616 := by
    by_cases h9 : k = 9
    · have := hb h9
      subst h9
      have : b % 128 * 128 ^ 9 ≤ 1 * 128 ^ 9 := Nat.mul_le_mul_right _ this
      exact Nat.lt_of_le_of_lt this (by decide)
    · have h8 : (128 : Nat) ^ k ≤ 128 ^ 8 := Nat.pow_le_pow_right (by decide) (by omega)
      have : b % 128 * 128 ^ k ≤ 127 * 128 ^ 8 := Nat.mul_le_mul (by omega) h8
      exact Nat.lt_of_le_of_lt this (by decide)
  have hZ64 : Z < 18446744073709551616 := Nat.lt_of_lt_of_le hZ (Nat.le_trans (Nat.pow_le_pow_right (by decide) hk) (by decide))
  have e : IntKind.u64.wrap ((b : Int) % 128 * 2 ^ (7 * k)) = ((2 ^ (7 * k) * (b % 128) : Nat) : Int) := by
    have h1 : (b : Int) % 128 * 2 ^ (7 * k) = ((b % 128 * 128 ^ k : Nat) : Int) := by
      rw [hp, Int.natCast_mul, Int.natCast_pow, Int.natCast_emod]
      rfl
    rw [h1, IntKind.wrap_u64, Nat.mul_comm (2 ^ (7 * k)), ← hp]
    omega
  rw [e]
  rw [hp] at hZ hX
  have hor := Nat.two_pow_add_eq_or_of_lt hZ (b % 128)
  have hsum : Z + b % 128 * 128 ^ k = 2 ^ (7 * k) * (b % 128) + Z := by rw [hp, Nat.mul_comm, Nat.add_comm]
  constructor
  · rw [u64_or_nat _ _ hZ64 (by rw [Nat.mul_comm]; exact hX), hsum, hor, Nat.or_comm]
  · rw [hp]
    have hor2 : Z ||| b % 128 * 2 ^ (7 * k) < 2 ^ 64 := Nat.or_lt_two_pow hZ64 hX
    have h3 : Z + b % 128 * 2 ^ (7 * k) = Z ||| b % 128 * 2 ^ (7 * k) := by rw [Nat.add_comm, Nat.mul_comm, hor, Nat.or_comm]
    rw [h3]; exact hor2
theorem or_shift9 (Z b : Nat) (hZ : Z < 128 ^ 9) (hb : b % 128 ≤ 1) : bits .or .u64 (Z : Int) ((b : Int) % 128 * 9223372036854775808) = ((Z + b % 128 * 128 ^ 9 : Nat) : Int) ∧ Z + b % 128 * 128 ^ 9 < 18446744073709551616 := by
  have h := or_shift Z b 9 hZ (by omega) (fun _ => hb)
  rw [show (2 : Int) ^ (7 * 9) = 9223372036854775808 by decide, show IntKind.u64.wrap ((b : Int) % 128 * 9223372036854775808) = (b : Int) % 128 * 9223372036854775808 by rw [IntKind.wrap_u64]; omega] at h
  exact h
theorem intF_in {l m : List UInt8} {P : Nat} (hP : P ≤ l.length) (hm : l.drop P = m) : intF l P = if (decI 0 0 m).1 = 0 then (0, unzig (decI 0 0 m).2.1, P + (decI 0 0 m).2.2) else ((decI 0 0 m).1, 0, 0) := by
  unfold intF
  rw [if_neg (by omega), Int.toNat_natCast, hm]
end Go.Proofs.Yteihjneeiojgaaa
/-
  The reference's Int: what is read from any bytes at any offset. Conditions: lengths.
-/
namespace Go.Proofs.Yteihjneeiojgaaa
set_option maxRecDepth 100000
set_option linter.unusedVariables false
set_option linter.unusedSimpArgs false
open Go.RowKit

theorem add_shift (Z b k : Nat) (hZ : Z < 128 ^ k) (hk : k ≤ 9) (hb : k = 9 → b % 128 ≤ 1) : IntKind.u64.wrap ((b : Int) % 128 * ((128 ^ k : Nat) : Int)) = ((b % 128 * 128 ^ k : Nat) : Int) ∧ Z + b % 128 * 128 ^ k < 18446744073709551616 := by
  obtain ⟨_, h2⟩ := or_shift Z b k hZ hk hb
  refine ⟨?_, h2⟩
  rw [show (b : Int) % 128 * ((128 ^ k : Nat) : Int) = ((b % 128 * 128 ^ k : Nat) : Int) by rw [Int.natCast_mul, Int.natCast_emod]; rfl, IntKind.wrap_u64]
  omega
end Go.Proofs.Yteihjneeiojgaaa
/-
  Text of the program and of the reference: what is read from any bytes at any offset with any limit. Conditions: lengths.
-/
namespace Go.Proofs.Yteihjneeiojgaaa
set_option maxRecDepth 100000
set_option linter.unusedVariables false
set_option linter.unusedSimpArgs false
open Go.RowKit

theorem decI_len : ∀ (l : List UInt8) (i z : Nat), (decI i z l).1 = 0 → i + 1 ≤ (decI i z l).2.2 ∧ (decI i z l).2.2 ≤ i + l.length := by
  intro l
  induction l with
  | nil => intro i z h; simp [decI] at h
  | cons c t ih =>
    intro i z h
    unfold decI at h ⊢
    split at h
    · simp at h
    · split at h
      · rename_i h1 h2
        rw [if_neg h1, if_pos h2]
        simp only [List.length_cons]
        omega
      · rename_i h1 h2
        rw [if_neg h1, if_neg h2]
        have := ih _ _ h
        simp only [List.length_cons]
        omega
/-- Where the number ends lies within the bytes. -/
theorem intF_end {l : List UInt8} {i : Int} (h : (intF l i).1 = 0) : (intF l i).2.2 ≤ l.length := by
  unfold intF at h ⊢
  split at h
  · simp at h
  · rename_i h1
    rw [if_neg h1]
    split at h
    · rename_i h2
      rw [if_pos h2]
      have h3 := (decI_len _ _ _ h2).2
      rw [List.length_drop] at h3
      dsimp only
      omega
    · exact absurd h (by assumption)
theorem decI_num : ∀ (l : List UInt8) (i z : Nat), i ≤ 9 → z < 128 ^ i → (decI i z l).2.1 < 18446744073709551616 := by
  intro l
  induction l with
  | nil => intro i z _ _; simp [decI]
  | cons c t ih =>
    intro i z hi hz
    unfold decI
    split
    · simp
    · rename_i h1
      split
      · dsimp only
        exact (or_shift z c.toNat i hz hi (by omega)).2
      · have hi9 : i ≠ 9 := fun e => h1 (.inl ⟨e, by omega⟩)
        refine ih _ _ (by omega) ?_
        have h2 : c.toNat % 128 * 128 ^ i ≤ 127 * 128 ^ i := Nat.mul_le_mul_right _ (by omega)
        rw [Nat.pow_succ]
        omega
theorem intF_num (l : List UInt8) (i : Int) : I64 (intF l i).2.1 := by
  unfold intF
  split
  · exact ⟨show (-9223372036854775808 : Int) ≤ 0 by decide, show (0 : Int) ≤ 9223372036854775807 by decide⟩
  · split
    · exact unzig_i64 (decI_num _ _ _ (by omega) (by simp))
    · exact ⟨show (-9223372036854775808 : Int) ≤ 0 by decide, show (0 : Int) ≤ 9223372036854775807 by decide⟩
theorem rdB_ft {w : World} {L B : Nat} {A : Option Addr} {N c : Nat} {l : List UInt8} (h : RdB w L B (.slice A N c) l) (i j : Nat) (hij : i + j ≤ l.length) : RdB w L B (.slice (if c = i then A else A.map (·.add i)) j (c - i)) ((l.drop i).take j) := by
  have h0 := h
  obtain ⟨A', c', e, h63, hc, hx⟩ := h
  injection e with e1 e2 e3
  have h1 := rdB_from h0 i (by omega)
  exact rdB_take h1 j (c - i) (by rw [List.length_drop]; omega) (by omega)
/-- What Text answers. -/
def txtF (l : List UInt8) (i most : Int) : Nat × ByteArray × Nat :=
  if (intF l i).1 = 0 then if (intF l i).2.1 < 0 then (1, ⟨#[]⟩, 0) else if (intF l i).2.1 > max most 0 then (5, ⟨#[]⟩, 0) else if (intF l i).2.1 > (l.length : Int) - (intF l i).2.2 then (2, ⟨#[]⟩, 0)
    else (0, ByteArray.mk ((l.drop (intF l i).2.2).take (intF l i).2.1.toNat).toArray, (intF l i).2.2 + (intF l i).2.1.toNat) else ((intF l i).1, ⟨#[]⟩, 0)
def txtR (x : Nat × ByteArray × Nat) : Value := .tuple #[.string x.2.1, .int .i64 (x.2.2 : Nat), .int .i64 (x.1 : Nat)]
end Go.Proofs.Yteihjneeiojgaaa
/-
  The program's appendKey at a text: what it answers. Conditions: lengths.
-/
namespace Go.Proofs.Yteihjneeiojgaaa
set_option maxRecDepth 100000
set_option linter.unusedVariables false
set_option linter.unusedSimpArgs false
open Go.RowKit

/-- A byte that lies in a cell is read as a slice. -/
theorem rdB_one (W : World) (g : Nat) (b : UInt8) (hc : W.cell? ⟨g, 0, none⟩ = some (.int .u8 (b.toNat : Nat))) (hg : g < W.heap.size) : RdB W 0 W.heap.size (.slice (some ⟨g, 0, none⟩) 1 1) [b] :=
  ⟨_, _, rfl, by simp, by simp, fun k x hk => by
    have h0 : k = 0 := by have := (List.getElem?_eq_some_iff.1 hk).1; simp at this; exact this
    subst h0
    have hx : b = x := by simpa using hk
    subst hx
    exact ⟨_, rfl, Nat.zero_le _, hg, by rw [show (⟨g, 0, none⟩ : Addr).add 0 = ⟨g, 0, none⟩ by unfold Addr.add; simp]; exact hc⟩⟩
end Go.Proofs.Yteihjneeiojgaaa
/-
  Key over a row of numbers and texts: what it answers. Conditions: lengths, numbers of 64 bits.
-/
namespace Go.Proofs.Yteihjneeiojgaaa
set_option maxRecDepth 100000
set_option linter.unusedVariables false
set_option linter.unusedSimpArgs false
open Go.RowKit

/-- A row of values: three cells each. -/
def RdV (w : World) (L B : Nat) (v : Value) (ps : List Vl) : Prop :=
  ∃ A c, v = .slice A ps.length c ∧ ps.length ≤ 9223372036854775807 ∧ ∀ (k : Nat) (p : Vl), ps[k]? = some p → ∃ ad : Addr, A = some ad ∧ L ≤ ad.block ∧ ad.block < B ∧
    w.cell? (ad.add (k * 3)) = some (.int .i64 p.1) ∧ w.cell? ⟨(ad.add (k * 3)).block, (ad.add (k * 3)).off + 1, none⟩ = some (.int .i64 p.2.1) ∧ w.cell? ⟨(ad.add (k * 3)).block, (ad.add (k * 3)).off + 2, none⟩ = some (.string p.2.2)
def keyL (ps : List Vl) : List UInt8 := (ps.map keyV).flatten
theorem keyL_succ (ps : List Vl) (k : Nat) (h : k < ps.length) : keyL (ps.take (k + 1)) = keyL (ps.take k) ++ keyV ps[k] := by
  unfold keyL
  rw [List.take_succ_eq_append_getElem h, List.map_append, List.flatten_append]
  simp
end Go.Proofs.Yteihjneeiojgaaa
/-
  The chapter's examples, as the statements check them. Conditions: none.
-/
namespace Go.Proofs.Yteihjneeiojgaaa
set_option maxRecDepth 100000
set_option linter.unusedVariables false
set_option linter.unusedSimpArgs false
open Go.RowKit

theorem i64_small {n : Int} (h1 : -1000 ≤ n) (h2 : n ≤ 1000) : I64 n := ⟨by omega, by omega⟩
theorem wk_1 : vint (zig (-1)) = [1] := by rw [show zig (-1) = 1 from by decide, vint_last (by decide)]; rfl
theorem wk_2 : vint (zig 63) = [126] := by rw [show zig 63 = 126 from by decide, vint_last (by decide)]; rfl
theorem wk_3 : vint (zig 64) = [128, 1] := by rw [show zig 64 = 128 from by decide, vint_more (by decide), vint_last (by decide)]; rfl
theorem wk_4 : vint (zig 2) = [4] := by rw [show zig 2 = 4 from by decide, vint_last (by decide)]; rfl
theorem wk_5 : intF [128, 0] 0 = (1, 0, 0) := by decide +kernel
theorem wk_6 : intF [128] 0 = (2, 0, 0) := by decide +kernel
theorem wk_7 : intF [9, 1, 126, 128, 1] 2 = (0, 63, 3) := by decide +kernel
theorem wk_8 : ([] : List UInt8) ++ ([2] ++ textB ⟨#[97, 98]⟩) = [2, 4, 97, 98] := by
  unfold textB
  rw [show ((⟨#[97, 98]⟩ : ByteArray).size : Int) = 2 from rfl, wk_4]
  rfl
/-- The row of the example. -/
def wkP : List Vl := [(1, -1, ⟨#[]⟩), (2, 0, ⟨#[97]⟩)]
theorem wk_9 : keyL wkP = [2, 127, 255, 255, 255, 255, 255, 255, 255, 3, 97, 0] := by decide +kernel
theorem wk_row (w : World) (C : Array Value) (hC : C = #[.int .i64 1, .int .i64 (-1), .string ⟨#[]⟩, .int .i64 2, .int .i64 0, .string ⟨#[97]⟩]) : RdV (w.alloc (.cells C 38)) 0 (w.alloc (.cells C 38)).heap.size (.slice (some ⟨w.heap.size, 0, none⟩) 2 2) wkP := by
  subst hC
  have o := Own.new w 38 #[.int .i64 1, .int .i64 (-1), .string ⟨#[]⟩, .int .i64 2, .int .i64 0, .string ⟨#[97]⟩]
  refine ⟨_, _, rfl, by decide, fun k p hk => ⟨_, rfl, Nat.zero_le _, o.lt, ?_⟩⟩
  have hk2 : k = 0 ∨ k = 1 := by have := (List.getElem?_eq_some_iff.1 hk).1; simp [wkP] at this; omega
  rcases hk2 with rfl | rfl
  · have e : ((1 : Int), (-1 : Int), (⟨#[]⟩ : ByteArray)) = p := by simpa [wkP] using hk
    subst e
    exact ⟨o.cell 0, o.cell 1, o.cell 2⟩
  · have e : ((2 : Int), (0 : Int), (⟨#[97]⟩ : ByteArray)) = p := by simpa [wkP] using hk
    subst e
    exact ⟨o.cell 3, o.cell 4, o.cell 5⟩
end Go.Proofs.Yteihjneeiojgaaa
/-
  equal of the statements: what it answers where both sides hold the same bytes; the walk of CodecInts. Conditions: lengths, numbers of 64 bits.
-/
namespace Go.Proofs.Yteihjneeiojgaaa
set_option maxRecDepth 100000
set_option linter.unusedVariables false
set_option linter.unusedSimpArgs false
open Go.RowKit

end Go.Proofs.Yteihjneeiojgaaa
/-
  PutText of the program and of the reference: what each answers; the walk of the statement CodecTexts. Conditions: lengths.
-/
namespace Go.Proofs.Yteihjneeiojgaaa
set_option maxRecDepth 100000
set_option linter.unusedVariables false
set_option linter.unusedSimpArgs false
open Go.RowKit

theorem grownCap_ge2 (w : World) (s : ByteArray) : s.size ≤ grownCap w s.size 0 5 := grownCap_ge w s.size 0 5
/-- The bytes that a conversion lays are read. -/
theorem rdB_conv (w : World) (s : ByteArray) (hs : s.size ≤ 9223372036854775807) : RdB (Lib.bytesWorld w 5 s) 0 (Lib.bytesWorld w 5 s).heap.size (.slice (some ⟨w.heap.size, 0, none⟩) s.size (grownCap w s.size 0 5)) s.data.toList := by
  refine ⟨_, _, by rw [size_list], by rw [size_list]; exact hs, by rw [size_list]; exact grownCap_ge2 w s, fun k b hk => ⟨_, rfl, Nat.zero_le _, by rw [Lib.bytesWorld_size]; exact Nat.lt_succ_self _, ?_⟩⟩
  have hkl := (List.getElem?_eq_some_iff.1 hk).1
  rw [size_list] at hkl
  rw [cell_add0, Lib.bytesWorld_cell w _ s k hkl, List.getD_eq_getElem?_getD, hk]
  rfl
end Go.Proofs.Yteihjneeiojgaaa
/-
  appendValue and PutValue of the program, PutValue of the reference, at any valid value: what each answers. Conditions: lengths.
-/
namespace Go.Proofs.Yteihjneeiojgaaa
set_option maxRecDepth 100000
set_option linter.unusedVariables false
set_option linter.unusedSimpArgs false
open Go.RowKit

/-- Whether a text is printable: all bytes from 32 to 126. -/
def prnB (l : List UInt8) : Bool := l.all fun b => decide (32 ≤ b.toNat) && decide (b.toNat ≤ 126)
/-- Whether p is a value. -/
def okP (p : Vl) : Bool :=
  if p.1 = 0 then decide (p.2.1 = 0) && (p.2.2.toList == [])
  else if p.1 = 1 then decide (-1125899906842624 ≤ p.2.1) && decide (p.2.1 ≤ 1125899906842624) && (p.2.2.toList == [])
  else if p.1 = 2 then decide (p.2.1 = 0) && decide (p.2.2.size ≤ 200) && prnB p.2.2.data.toList
  else if p.1 = 3 then (decide (p.2.1 = 0) || decide (p.2.1 = 1)) && (p.2.2.toList == [])
  else false
/-- The bytes of a value. -/
def encV (p : Vl) : List UInt8 := if p.1 = 1 then [1] ++ vint (zig p.2.1) else if p.1 = 2 then [2] ++ textB p.2.2 else if p.1 = 3 then [if p.2.1 = 1 then 4 else 3] else [0]
theorem emp_eq {s : ByteArray} (h : (s.toList == []) = true) : s = ⟨#[]⟩ := by
  have h1 : s.toList = [] := by simpa using h
  have h2 : s.data.toList = [] := by rw [← Lib.toList_data]; exact h1
  cases s with
  | mk d =>
    have h3 : d = #[] := by simpa using h2
    rw [h3]
/-- The values, kind by kind. -/
theorem okP_cases {p : Vl} (h : okP p = true) : p = (0, 0, ⟨#[]⟩) ∨ (∃ n, p = (1, n, ⟨#[]⟩) ∧ -1125899906842624 ≤ n ∧ n ≤ 1125899906842624) ∨ (∃ s, p = (2, 0, s) ∧ s.size ≤ 200 ∧ prnB s.data.toList = true) ∨ p = (3, 0, ⟨#[]⟩) ∨ p = (3, 1, ⟨#[]⟩) := by
  obtain ⟨k, n, s⟩ := p
  unfold okP at h
  dsimp only at h
  split at h
  · rename_i hk
    simp only [Bool.and_eq_true, decide_eq_true_eq] at h
    obtain ⟨h1, h2⟩ := h
    subst hk h1
    rw [emp_eq h2]; exact .inl rfl
  · split at h
    · rename_i hk
      simp only [Bool.and_eq_true, decide_eq_true_eq] at h
      obtain ⟨⟨h1, h3⟩, h2⟩ := h
      subst hk
      rw [emp_eq h2]; exact .inr (.inl ⟨n, rfl, h1, h3⟩)
    · split at h
      · rename_i hk
        simp only [Bool.and_eq_true, decide_eq_true_eq] at h
        obtain ⟨⟨h1, h3⟩, h2⟩ := h
        subst hk h1
        exact .inr (.inr (.inl ⟨s, rfl, h3, h2⟩))
      · split at h
        · rename_i hk
          simp only [Bool.and_eq_true, Bool.or_eq_true, decide_eq_true_eq] at h
          obtain ⟨h1, h2⟩ := h
          subst hk
          rw [emp_eq h2]
          rcases h1 with rfl | rfl
          · exact .inr (.inr (.inr (.inl rfl)))
          · exact .inr (.inr (.inr (.inr rfl)))
        · cases h
theorem load_val {w : World} {g : Nat} {x y z : Value} (h : Own w g 38 #[x, y, z]) : (loadVar 38 ⟨g, 0, none⟩).run Try.prog w = .ok (.agg #[x, y, z]) w :=
  run_loadVar_row w g 38 38 #[x, y, z] (0, 0) _ h Try.underlying38 rfl (by kernel_rfl)
theorem results_cell_row1 {fn : Func} {p : Tmp} {ty : TypeId} (h : fn.results = #[.cell p ty]) (tmps : Array Value) (w : World) (g : Nat) (cs : Array Value) (hp : tmps.getD p undef = .pointer (some ⟨g, 0, none⟩))
    (hl : (loadVar ty ⟨g, 0, none⟩).run Try.prog w = .ok (.agg cs) w) : (results fn tmps).run Try.prog w = .ok (.agg cs) w := by
  have hp' : tmps[p]?.getD undef = .pointer (some ⟨g, 0, none⟩) := by simpa using hp
  simp [results, h, hp', asAddr, hl]
theorem eql_lit (n n2 : Int) (w : World) : (binOp .eql 38 (.agg #[.int .i64 3, .int .i64 n, .string ⟨#[]⟩]) (.agg #[.int .i64 3, .int .i64 n2, .string ⟨#[]⟩])).run Try.prog w = .ok (.bool (decide (n = n2))) w := by
  rw [run_eql_struct, run_equalIn_struct w 9999 38 _ _ (by kernel_rfl) (by kernel_rfl)]
  simp [Program.fieldsOf, Op.eqFields, Try.underlying38, Try.underlying3, Try.underlying9, part, isAgg, go_sem]
  by_cases h : n = n2 <;> simp [h]
end Go.Proofs.Yteihjneeiojgaaa
/-
  The program's value.Valid: what it answers. Conditions: none.
-/
namespace Go.Proofs.Yteihjneeiojgaaa
set_option maxRecDepth 100000
set_option linter.unusedVariables false
set_option linter.unusedSimpArgs false
open Go.RowKit

def badR (x : Nat) : Bool := decide (x < 32) || decide (126 < x)
theorem badR_decode (n b0 b1 b2 b3 : Nat) (h : ¬ (32 ≤ b0 ∧ b0 ≤ 126)) : badR (Lib.decodeN n b0 b1 b2 b3).1 = true := by
  unfold badR
  simp only [Bool.or_eq_true, decide_eq_true_eq]
  unfold Lib.decodeN
  repeat' split
  all_goals (dsimp only; omega)
theorem goodR_decode (n b0 b1 b2 b3 : Nat) (h : 32 ≤ b0 ∧ b0 ≤ 126) : Lib.decodeN n b0 b1 b2 b3 = (b0, 1) ∧ badR b0 = false := by
  unfold badR Lib.decodeN
  rw [if_pos (by omega)]
  refine ⟨rfl, ?_⟩
  rw [decide_eq_false (by omega), decide_eq_false (by omega)]; rfl
theorem get_list (s : ByteArray) (i : Nat) (h : i < s.size) : s.get! i = s[i] := by
  show s.data[i]! = s.data[i]
  exact getElem!_pos s.data i h
theorem idx_prn_from (s : ByteArray) : ∀ (f pos : Nat), s.size ≤ pos + f → (decide (0 ≤ Lib.idxFuncFrom badR true s f pos) = !prnB (s.data.toList.drop pos))
  | 0, pos, h => by
    rw [List.drop_eq_nil_of_le (by rw [← Lib.size_eq]; omega)]
    rfl
  | f + 1, pos, h => by
    unfold Lib.idxFuncFrom
    by_cases hp : pos < s.size
    · rw [if_pos hp]
      have hd : s.data.toList.drop pos = s[pos] :: s.data.toList.drop (pos + 1) := List.drop_eq_getElem_cons (by rw [← Lib.size_eq]; exact hp)
      have hg : (s.get! pos).toNat = s[pos].toNat := by rw [get_list s pos hp]
      rw [Lib.decode_at, hg, hd]
      by_cases hb : 32 ≤ s[pos].toNat ∧ s[pos].toNat ≤ 126
      · obtain ⟨e, e2⟩ := goodR_decode (s.size - pos) s[pos].toNat (s.get! (pos + 1)).toNat (s.get! (pos + 2)).toNat (s.get! (pos + 3)).toNat hb
        rw [e]
        dsimp only
        rw [e2, if_neg (by simp), idx_prn_from s f (pos + 1) (by omega)]
        unfold prnB
        rw [List.all_cons, decide_eq_true hb.1, decide_eq_true hb.2]
        rfl
      · rw [badR_decode _ _ _ _ _ hb, if_pos rfl, decide_eq_true (by omega)]
        unfold prnB
        rw [List.all_cons]
        have : (decide (32 ≤ s[pos].toNat) && decide (s[pos].toNat ≤ 126)) = false := by
          rw [Bool.eq_false_iff]; intro e; simp only [Bool.and_eq_true, decide_eq_true_eq] at e; exact hb e
        rw [this]; rfl
    · rw [if_neg hp, List.drop_eq_nil_of_le (by rw [← Lib.size_eq]; omega)]
      rfl
theorem idx_prn (s : ByteArray) : decide (0 ≤ Lib.idxFunc badR true s) = !prnB s.data.toList := idx_prn_from s s.size 0 (by omega)
theorem clo_any (x : Nat) (hx : x ≤ 1114111) (w : World) : Calls Try.prog 82 #[.int .i32 (x : Int)] w fun e w' => e = .returned (.bool (badR x)) ∧ w' = w := by
  by_cases h1 : (x : Int) < 32
  · have hb : badR x = true := by unfold badR; rw [decide_eq_true (by omega)]; rfl
    go_enter Try.func82, Try.ntmps82
    go_wp2
    go_ret
    exact ⟨by first | rfl | (rw [hb]; rfl), rfl⟩
  · by_cases h2 : 126 < (x : Int)
    · have hb : badR x = true := by unfold badR; rw [decide_eq_true (p := 126 < x) (by omega), Bool.or_true]
      go_enter Try.func82, Try.ntmps82
      go_wp2
      go_ret
      exact ⟨by first | rfl | (rw [hb]; rfl), rfl⟩
    · have hb : badR x = false := by unfold badR; rw [decide_eq_false (by omega), decide_eq_false (by omega)]; rfl
      go_enter Try.func82, Try.ntmps82
      go_wp2
      go_ret
      exact ⟨by first | rfl | (rw [hb]; rfl), rfl⟩
theorem clo_enters : ∀ args w, (callFunc 82 args).run Try.prog w = .ok (.enter 82 args) w := enters_of Try.func82 (by kernel_rfl) rfl
theorem contains_any (s : ByteArray) (w : World) : Calls Try.prog 81 #[.string s, .func (.func 82) #[] #[]] w fun e w' => e = .returned (.bool (!prnB s.data.toList)) ∧ Below w.heap.size w w' := by
  rw [← idx_prn]
  exact Try.strings_ContainsFunc_runes _ _ clo_enters badR s w (fun W x hx _ => (clo_any x hx W).mono fun e w' ⟨h1, h2⟩ => ⟨h1, 0, h2⟩)
set_option maxHeartbeats 400000 in
theorem pPrn_any (s : ByteArray) (w : World) : Calls Try.prog 73 #[.string s] w fun e w' => e = .returned (.bool (prnB s.data.toList)) ∧ Below w.heap.size w w' := by
  have hc := fun W => contains_any s W
  cases hp : prnB s.data.toList <;> rw [hp] at hc
  all_goals
    go_enter Try.func73, Try.ntmps73
    go_wp2_with (go_at_call 81; refine (hc _).mono ?_; rintro e w1 ⟨rfl, hb⟩)
    go_ret
    refine ⟨rfl, ?_⟩
    (repeat' (first | (with_reducible exact Below.refl _ _) | (with_reducible assumption) | (with_reducible refine Below.alloc ?_ ?_ _) | (with_reducible refine Below.drew ?_) | (with_reducible refine Below.setCell ?_ ?_ _) | (with_reducible refine Below.trans ?_ (Below.mono (by assumption) ?_)) | go_size))
set_option maxRecDepth 100000 in
set_option maxHeartbeats 1600000 in
theorem pValid_any (k n : Int) (s : ByteArray) (w : World) : Calls Try.prog 64 #[valV (k, n, s)] w fun e w' => e = .returned (.bool (okP (k, n, s))) ∧ Below w.heap.size w w' := by
  have hP := fun W => pPrn_any s W
  unfold okP valV
  dsimp only
  by_cases k0 : k = 0
  · subst k0
    rw [if_pos rfl]
    by_cases hn : n = 0 <;> cases he : s.toList == []
    all_goals
      go_enter Try.func64, Try.ntmps64
      go_wp2
      go_ret
      refine ⟨by simp [*], ?_⟩
      (repeat' (first | (with_reducible exact Below.refl _ _) | (with_reducible assumption) | (with_reducible refine Below.alloc ?_ ?_ _) | (with_reducible refine Below.drew ?_) | (with_reducible refine Below.setCell ?_ ?_ _) | (with_reducible refine Below.trans ?_ (Below.mono (by assumption) ?_)) | go_size))
  rw [if_neg k0]
  by_cases k1 : k = 1
  · subst k1
    rw [if_pos rfl]
    by_cases h1 : -1125899906842624 ≤ n <;> by_cases h2 : n ≤ 1125899906842624 <;> cases he : s.toList == []
    all_goals (first | (exfalso; omega) | skip)
    all_goals
      go_enter Try.func64, Try.ntmps64
      go_wp2
      go_ret
      refine ⟨by simp [*], ?_⟩
      (repeat' (first | (with_reducible exact Below.refl _ _) | (with_reducible assumption) | (with_reducible refine Below.alloc ?_ ?_ _) | (with_reducible refine Below.drew ?_) | (with_reducible refine Below.setCell ?_ ?_ _) | (with_reducible refine Below.trans ?_ (Below.mono (by assumption) ?_)) | go_size))
  rw [if_neg k1]
  by_cases k2 : k = 2
  · subst k2
    rw [if_pos rfl]
    by_cases hn : n = 0
    · by_cases hs : s.size ≤ 200
      · have hsi : (s.size : Int) ≤ 200 := by omega
        cases hp : prnB s.data.toList <;> rw [hp] at hP
        all_goals
          go_enter Try.func64, Try.ntmps64
          go_wp2_with (go_at_call 73; refine (hP _).mono ?_; rintro e w1 ⟨rfl, hb⟩)
          go_ret
          refine ⟨by simp [*], ?_⟩
          (repeat' (first | (with_reducible exact Below.refl _ _) | (with_reducible assumption) | (with_reducible refine Below.alloc ?_ ?_ _) | (with_reducible refine Below.drew ?_) | (with_reducible refine Below.setCell ?_ ?_ _) | (with_reducible refine Below.trans ?_ (Below.mono (by assumption) ?_)) | go_size))
      · have hsi : ¬ (s.size : Int) ≤ 200 := by omega
        go_enter Try.func64, Try.ntmps64
        go_wp2
        go_ret
        refine ⟨by simp [*], ?_⟩
        (repeat' (first | (with_reducible exact Below.refl _ _) | (with_reducible assumption) | (with_reducible refine Below.alloc ?_ ?_ _) | (with_reducible refine Below.drew ?_) | (with_reducible refine Below.setCell ?_ ?_ _) | (with_reducible refine Below.trans ?_ (Below.mono (by assumption) ?_)) | go_size))
    · go_enter Try.func64, Try.ntmps64
      go_wp2
      go_ret
      refine ⟨by simp [*], ?_⟩
      (repeat' (first | (with_reducible exact Below.refl _ _) | (with_reducible assumption) | (with_reducible refine Below.alloc ?_ ?_ _) | (with_reducible refine Below.drew ?_) | (with_reducible refine Below.setCell ?_ ?_ _) | (with_reducible refine Below.trans ?_ (Below.mono (by assumption) ?_)) | go_size))
  rw [if_neg k2]
  by_cases k3 : k = 3
  · subst k3
    rw [if_pos rfl]
    by_cases h1 : n = 0 <;> by_cases h2 : n = 1 <;> cases he : s.toList == []
    all_goals (first | (exfalso; omega) | skip)
    all_goals
      go_enter Try.func64, Try.ntmps64
      go_wp2
      go_ret
      refine ⟨by simp [*], ?_⟩
      (repeat' (first | (with_reducible exact Below.refl _ _) | (with_reducible assumption) | (with_reducible refine Below.alloc ?_ ?_ _) | (with_reducible refine Below.drew ?_) | (with_reducible refine Below.setCell ?_ ?_ _) | (with_reducible refine Below.trans ?_ (Below.mono (by assumption) ?_)) | go_size))
  rw [if_neg k3]
  have j0 : (k == 0) = false := by simpa using k0
  have j1 : (k == 1) = false := by simpa using k1
  have j2 : (k == 2) = false := by simpa using k2
  have j3 : (k == 3) = false := by simpa using k3
  go_enter Try.func64, Try.ntmps64
  go_wp2
  go_ret
  refine ⟨rfl, ?_⟩
  (repeat' (first | (with_reducible exact Below.refl _ _) | (with_reducible assumption) | (with_reducible refine Below.alloc ?_ ?_ _) | (with_reducible refine Below.drew ?_) | (with_reducible refine Below.setCell ?_ ?_ _) | (with_reducible refine Below.trans ?_ (Below.mono (by assumption) ?_)) | go_size))
end Go.Proofs.Yteihjneeiojgaaa
/-
  The reference's PutValue at any valid value: what it answers. Conditions: lengths.
-/
namespace Go.Proofs.Yteihjneeiojgaaa
set_option maxRecDepth 100000
set_option linter.unusedVariables false
set_option linter.unusedSimpArgs false
open Go.RowKit

end Go.Proofs.Yteihjneeiojgaaa
/-
  The reference's ValidValue: what it answers. Conditions: none.
-/
namespace Go.Proofs.Yteihjneeiojgaaa
set_option maxRecDepth 100000
set_option linter.unusedVariables false
set_option linter.unusedSimpArgs false
open Go.RowKit

theorem prn_take_not {s : ByteArray} {k : Nat} (h : k < s.size) (hk : (s[k].toNat : Int) < 32 ∨ 126 < (s[k].toNat : Int)) : prnB s.data.toList = false := by
  unfold prnB
  rw [Bool.eq_false_iff]; intro e
  rw [List.all_eq_true] at e
  have hm : s[k] ∈ s.data.toList := by
    have : s.data.toList[k]'(by simpa using h) ∈ s.data.toList := List.getElem_mem _
    exact this
  have := e _ hm
  simp only [Bool.and_eq_true, decide_eq_true_eq] at this
  omega
theorem prn_step {s : ByteArray} {k : Nat} (h : k < s.size) (hp : prnB (s.data.toList.take k) = true) (h1 : ¬ (s[k].toNat : Int) < 32) (h2 : ¬ 126 < (s[k].toNat : Int)) : prnB (s.data.toList.take (k + 1)) = true := by
  rw [List.take_succ_eq_append_getElem (by simpa using h)]
  unfold prnB at hp ⊢
  rw [List.all_append, hp, List.all_cons, List.all_nil]
  have : s.data.toList[k]'(by simpa using h) = s[k] := rfl
  rw [this, decide_eq_true (by omega), decide_eq_true (by omega)]; rfl
end Go.Proofs.Yteihjneeiojgaaa
/-
  Rows: PutRow of the program and of the reference at valid values; the reference's ValidRow, the statements' valid: what each answers. Conditions: lengths.
-/
namespace Go.Proofs.Yteihjneeiojgaaa
set_option maxRecDepth 100000
set_option linter.unusedVariables false
set_option linter.unusedSimpArgs false
open Go.RowKit

theorem RdV.below {w w' : World} {L B : Nat} {v : Value} {ps : List Vl} (h : RdV w L B v ps) (hb : Below B w w') : RdV w' L B v ps := by
  obtain ⟨A, c, hv, hl, hc⟩ := h
  refine ⟨A, c, hv, hl, fun k p hk => ?_⟩
  obtain ⟨ad, h1, h0, h2, c0, c1, c2⟩ := hc k p hk
  exact ⟨ad, h1, h0, h2, (hb.cell (p := ad.add (k * 3)) (by rw [add_block]; exact h2)).trans c0, (hb.cell (p := ⟨(ad.add (k * 3)).block, (ad.add (k * 3)).off + 1, none⟩) (by show (ad.add (k * 3)).block < _; rw [add_block]; exact h2)).trans c1, (hb.cell (p := ⟨(ad.add (k * 3)).block, (ad.add (k * 3)).off + 2, none⟩) (by show (ad.add (k * 3)).block < _; rw [add_block]; exact h2)).trans c2⟩
theorem RdV.more {w : World} {L L' B B' : Nat} {v : Value} {ps : List Vl} (h : RdV w L B v ps) (hB : B ≤ B') (hL : L' ≤ L) : RdV w L' B' v ps := by
  obtain ⟨A, c, hv, hl, hc⟩ := h
  refine ⟨A, c, hv, hl, fun k p hk => ?_⟩
  obtain ⟨ad, h1, h0, h2, hx⟩ := hc k p hk
  exact ⟨ad, h1, by omega, by omega, hx⟩
theorem RdV.step {w w' : World} {L B : Nat} {v : Value} {ps : List Vl} (h : RdV w L B v ps) (hb : Below w.heap.size w w') (hB : B ≤ w.heap.size) : RdV w' L w'.heap.size v ps :=
  (h.below (hb.mono hB)).more (Nat.le_trans hB hb.size) (Nat.le_refl _)
def okL (ps : List Vl) : Bool := ps.all okP
theorem okL_at {ps : List Vl} (h : okL ps = true) {k : Nat} {p : Vl} (hk : ps[k]? = some p) : okP p = true := List.all_eq_true.1 h p (List.mem_of_getElem? hk)
/-- The bytes of some values, one behind the other. -/
def encs (ps : List Vl) : List UInt8 := (ps.map encV).flatten
def encR (ps : List Vl) : List UInt8 := vint (zig ps.length) ++ encs ps
def szL (ps : List Vl) : Nat := (ps.map fun p => 11 + p.2.2.size).sum
theorem encs_succ (ps : List Vl) (k : Nat) (p : Vl) (h : ps[k]? = some p) : encs (ps.take (k + 1)) = encs (ps.take k) ++ encV p := by
  obtain ⟨h1, rfl⟩ := List.getElem?_eq_some_iff.1 h
  unfold encs
  rw [List.take_succ_eq_append_getElem h1, List.map_append, List.flatten_append]
  simp
theorem encV_len (p : Vl) (h : okP p = true) : (encV p).length ≤ 11 + p.2.2.size := by
  rcases okP_cases h with rfl | ⟨n, rfl, h1, h2⟩ | ⟨s, rfl, h1, h2⟩ | rfl | rfl
  · decide
  · have := vint_len10 (zig_lt (show I64 n from ⟨by omega, by omega⟩))
    show ([1] ++ vint (zig n)).length ≤ 11 + _
    rw [List.length_append]
    simp; omega
  · have := vint_len10 (zig_lt (show I64 (s.size : Int) from ⟨by omega, by omega⟩))
    show ([2] ++ textB s).length ≤ 11 + s.size
    unfold textB
    simp only [List.length_append, size_list]
    simp; omega
  · decide
  · decide
theorem szL_take (ps : List Vl) (k : Nat) (p : Vl) (h : ps[k]? = some p) : szL (ps.take k) + 11 + p.2.2.size ≤ szL ps := by
  obtain ⟨h1, rfl⟩ := List.getElem?_eq_some_iff.1 h
  have h2 : ps = ps.take (k + 1) ++ ps.drop (k + 1) := (List.take_append_drop _ _).symm
  have h3 : szL ps = szL (ps.take (k + 1)) + szL (ps.drop (k + 1)) := by
    unfold szL
    rw [← List.sum_append_nat, ← List.map_append, ← h2]
  have h4 : szL (ps.take (k + 1)) = szL (ps.take k) + (11 + (ps[k]'h1).2.2.size) := by
    unfold szL
    rw [List.take_succ_eq_append_getElem h1, List.map_append, List.sum_append_nat]
    simp
  omega
theorem encs_len : ∀ (ps : List Vl), okL ps = true → (encs ps).length ≤ szL ps := by
  intro ps
  induction ps with
  | nil => intro _; simp [encs, szL]
  | cons p ps ih =>
    intro h
    unfold okL at h ih
    simp only [List.all_cons, Bool.and_eq_true] at h
    have h1 := encV_len p h.1
    have h2 := ih h.2
    unfold encs szL at h2 ⊢
    simp only [List.map_cons, List.flatten_cons, List.length_append, List.sum_cons]
    omega
theorem okL_take {ps : List Vl} (h : okL ps = true) (k : Nat) : okL (ps.take k) = true := by
  unfold okL at h ⊢
  rw [List.all_eq_true] at h ⊢
  exact fun p hp => h p (List.mem_of_mem_take hp)
end Go.Proofs.Yteihjneeiojgaaa
/-
  Mathematics of keys: their bytes are ordered as the values are. Conditions: valid values.
-/
namespace Go.Proofs.Yteihjneeiojgaaa
set_option maxRecDepth 100000
set_option linter.unusedVariables false
set_option linter.unusedSimpArgs false
open Go.RowKit

theorem u8_lt {a b : UInt8} : (a < b) ↔ a.toNat < b.toNat := Iff.rfl
theorem bl_lt {a b : UInt8} (x y : List UInt8) (h : a < b) : Op.bytesLess (a :: x) (b :: y) = true := by
  unfold Op.bytesLess; simp [h]
theorem bl_gt {a b : UInt8} (x y : List UInt8) (h : b < a) : Op.bytesLess (a :: x) (b :: y) = false := by
  unfold Op.bytesLess
  have h1 : ¬ a < b := fun h2 => by rw [u8_lt] at h h2; omega
  have h2 : (a == b) = false := by
    rw [beq_eq_false_iff_ne]; intro e; subst e; rw [u8_lt] at h; omega
  simp [h1, h2]
theorem bl_eq (a : UInt8) (x y : List UInt8) : Op.bytesLess (a :: x) (a :: y) = Op.bytesLess x y := by
  conv => lhs; unfold Op.bytesLess
  have h1 : ¬ a < a := fun h2 => by rw [u8_lt] at h2; omega
  simp [h1]
theorem bl_cancel (c x y : List UInt8) : Op.bytesLess (c ++ x) (c ++ y) = Op.bytesLess x y := by
  induction c with
  | nil => rfl
  | cons a c ih => show Op.bytesLess (a :: (c ++ x)) (a :: (c ++ y)) = _; rw [bl_eq, ih]
theorem bl_nil (y : List UInt8) : Op.bytesLess y [] = false := by cases y <;> rfl
theorem tri (a b : UInt8) : a < b ∨ a = b ∨ b < a := by
  rcases Nat.lt_trichotomy a.toNat b.toNat with h | h | h
  · exact .inl h
  · exact .inr (.inl (UInt8.toNat_inj.1 h))
  · exact .inr (.inr h)
/-- The number that bytes stand for, the most significant first. -/
def beN : List UInt8 → Nat
  | [] => 0
  | a :: l => a.toNat * 256 ^ l.length + beN l
theorem beN_lt : ∀ l : List UInt8, beN l < 256 ^ l.length
  | [] => by decide
  | a :: l => by
    have h := beN_lt l
    have ha := a.toNat_lt
    rw [List.length_cons, Nat.pow_succ]
    show a.toNat * 256 ^ l.length + beN l < _
    have h2 : a.toNat * 256 ^ l.length ≤ 255 * 256 ^ l.length := Nat.mul_le_mul_right _ (by omega)
    omega
theorem bl_same : ∀ (l m x y : List UInt8), l.length = m.length → Op.bytesLess (l ++ x) (m ++ y) = if l = m then Op.bytesLess x y else decide (beN l < beN m)
  | [], [], x, y, _ => by simp
  | [], b :: m, _, _, h => by simp at h
  | a :: l, [], _, _, h => by simp at h
  | a :: l, b :: m, x, y, h => by
    have hl : l.length = m.length := by simpa using h
    have ih := bl_same l m x y hl
    have k1 := beN_lt l
    have k2 := beN_lt m
    show Op.bytesLess (a :: (l ++ x)) (b :: (m ++ y)) = if a :: l = b :: m then _ else decide (a.toNat * 256 ^ l.length + beN l < b.toNat * 256 ^ m.length + beN m)
    rw [← hl] at k2 ⊢
    rcases tri a b with h1 | h1 | h1
    · rw [bl_lt _ _ h1, if_neg (by intro e; injection e with e1; subst e1; rw [u8_lt] at h1; omega), decide_eq_true]
      rw [u8_lt] at h1
      have : (a.toNat + 1) * 256 ^ l.length ≤ b.toNat * 256 ^ l.length := Nat.mul_le_mul_right _ (by omega)
      rw [Nat.add_mul] at this
      omega
    · subst h1
      rw [bl_eq, ih]
      by_cases he : l = m
      · rw [if_pos he, if_pos (by rw [he])]
      · rw [if_neg he, if_neg (by intro e; injection e with _ e2; exact he e2)]
        congr 1
        rw [eq_iff_iff]
        omega
    · rw [bl_gt _ _ h1, if_neg (by intro e; injection e with e1; subst e1; rw [u8_lt] at h1; omega), decide_eq_false]
      rw [u8_lt] at h1
      have : (b.toNat + 1) * 256 ^ l.length ≤ a.toNat * 256 ^ l.length := Nat.mul_le_mul_right _ (by omega)
      rw [Nat.add_mul] at this
      omega
theorem beN_ord {N : Nat} (h : N < 18446744073709551616) : beN (ordB N) = N := by
  unfold ordB
  simp only [beN, UInt8.toNat_ofNat', List.length_cons, List.length_nil]
  omega
theorem ordB_inj {N M : Nat} (hN : N < 18446744073709551616) (hM : M < 18446744073709551616) (h : ordB N = ordB M) : N = M := by
  rw [← beN_ord hN, ← beN_ord hM, h]
theorem bl_ord {n m : Int} (hn : I64 n) (hm : I64 m) (x y : List UInt8) : Op.bytesLess (ordB (shf n) ++ x) (ordB (shf m) ++ y) = if n = m then Op.bytesLess x y else decide (n < m) := by
  have h1 : shf n < 18446744073709551616 := by unfold shf I64 at *; omega
  have h2 : shf m < 18446744073709551616 := by unfold shf I64 at *; omega
  rw [bl_same (ordB (shf n)) (ordB (shf m)) x y rfl, beN_ord h1, beN_ord h2]
  by_cases h : n = m
  · subst h; rw [if_pos rfl, if_pos rfl]
  · have h3 : shf n ≠ shf m := by unfold shf I64 at *; omega
    rw [if_neg h, if_neg (fun e => h3 (ordB_inj h1 h2 e))]
    congr 1
    rw [eq_iff_iff]
    unfold shf I64 at *; omega
theorem bl_text : ∀ (s t x y : List UInt8), prnB s = true → prnB t = true → Op.bytesLess (s ++ 0 :: x) (t ++ 0 :: y) = if s = t then Op.bytesLess x y else Op.bytesLess s t
  | [], [], x, y, _, _ => by rw [if_pos rfl]; exact bl_eq 0 x y
  | [], b :: t, x, y, _, ht => by
    have hb : (0 : UInt8) < b := by
      unfold prnB at ht
      simp only [List.all_cons, Bool.and_eq_true, decide_eq_true_eq] at ht
      rw [u8_lt]; show 0 < _; omega
    rw [if_neg (by intro e; cases e)]
    exact bl_lt _ _ hb
  | a :: s, [], x, y, hs, _ => by
    have ha : (0 : UInt8) < a := by
      unfold prnB at hs
      simp only [List.all_cons, Bool.and_eq_true, decide_eq_true_eq] at hs
      rw [u8_lt]; show 0 < _; omega
    rw [if_neg (by intro e; cases e), bl_nil]
    exact bl_gt _ _ ha
  | a :: s, b :: t, x, y, hs, ht => by
    have hs2 : prnB s = true := by unfold prnB at hs ⊢; simp only [List.all_cons, Bool.and_eq_true] at hs; exact hs.2
    have ht2 : prnB t = true := by unfold prnB at ht ⊢; simp only [List.all_cons, Bool.and_eq_true] at ht; exact ht.2
    have ih := bl_text s t x y hs2 ht2
    show Op.bytesLess (a :: (s ++ 0 :: x)) (b :: (t ++ 0 :: y)) = _
    rcases tri a b with h1 | h1 | h1
    · rw [bl_lt _ _ h1, if_neg (by intro e; injection e with e1; subst e1; rw [u8_lt] at h1; omega), bl_lt _ _ h1]
    · subst h1
      rw [bl_eq, ih, bl_eq]
      by_cases he : s = t
      · rw [if_pos he, if_pos (by rw [he])]
      · rw [if_neg he, if_neg (by intro e; injection e with _ e2; exact he e2)]
    · rw [bl_gt _ _ h1, if_neg (by intro e; injection e with e1; subst e1; rw [u8_lt] at h1; omega), bl_gt _ _ h1]
/-! ### values -/
/-- p lies before q. -/
def lessP (p q : Vl) : Bool := decide (p.1 < q.1) || (decide (p.1 = q.1) && (decide (p.2.1 < q.2.1) || (decide (p.2.1 = q.2.1) && Op.bytesLess p.2.2.toList q.2.2.toList)))
theorem mk_ext {s t : ByteArray} (h : s.data.toList = t.data.toList) : s = t := by
  cases s with
  | mk a => cases t with
    | mk b =>
      have : a = b := by simpa using congrArg List.toArray h
      rw [this]
set_option maxRecDepth 100000 in
theorem bl_key (p q : Vl) (hp : okP p = true) (hq : okP q = true) (x y : List UInt8) : Op.bytesLess (keyV p ++ x) (keyV q ++ y) = if p = q then Op.bytesLess x y else lessP p q := by
  rcases okP_cases hp with rfl | ⟨n, rfl, h1, h2⟩ | ⟨s, rfl, h1, h2⟩ | rfl | rfl <;> rcases okP_cases hq with rfl | ⟨m, rfl, k1, k2⟩ | ⟨t, rfl, k1, k2⟩ | rfl | rfl
  · rw [if_pos rfl]; exact bl_eq 1 x y
  · rw [if_neg (by intro e; simp at e)]; exact (bl_lt (a := 1) (b := 2) _ _ (by decide)).trans (by simp [lessP])
  · rw [if_neg (by intro e; simp at e)]; exact (bl_lt (a := 1) (b := 3) _ _ (by decide)).trans (by simp [lessP])
  · rw [if_neg (by intro e; simp at e)]; exact (bl_lt (a := 1) (b := 4) _ _ (by decide)).trans (by simp [lessP])
  · rw [if_neg (by intro e; simp at e)]; exact (bl_lt (a := 1) (b := 4) _ _ (by decide)).trans (by simp [lessP])
  · rw [if_neg (by intro e; simp at e)]; exact (bl_gt (a := 2) (b := 1) _ _ (by decide)).trans (by simp [lessP])
  · show Op.bytesLess (2 :: (ordB (shf n) ++ x)) (2 :: (ordB (shf m) ++ y)) = _
    rw [bl_eq, bl_ord ⟨by omega, by omega⟩ ⟨by omega, by omega⟩]
    by_cases h : n = m
    · subst h; rw [if_pos rfl, if_pos rfl]
    · rw [if_neg h, if_neg (by intro e; simp at e; exact h e)]
      simp [lessP, h]
  · rw [if_neg (by intro e; simp at e)]; exact (bl_lt (a := 2) (b := 3) _ _ (by decide)).trans (by simp [lessP])
  · rw [if_neg (by intro e; simp at e)]; exact (bl_lt (a := 2) (b := 4) _ _ (by decide)).trans (by simp [lessP])
  · rw [if_neg (by intro e; simp at e)]; exact (bl_lt (a := 2) (b := 4) _ _ (by decide)).trans (by simp [lessP])
  · rw [if_neg (by intro e; simp at e)]; exact (bl_gt (a := 3) (b := 1) _ _ (by decide)).trans (by simp [lessP])
  · rw [if_neg (by intro e; simp at e)]; exact (bl_gt (a := 3) (b := 2) _ _ (by decide)).trans (by simp [lessP])
  · have e1 : keyV (2, 0, s) ++ x = 3 :: (s.data.toList ++ 0 :: x) := by show ([3] ++ s.data.toList ++ [0]) ++ x = _; simp
    have e2 : keyV (2, 0, t) ++ y = 3 :: (t.data.toList ++ 0 :: y) := by show ([3] ++ t.data.toList ++ [0]) ++ y = _; simp
    rw [e1, e2, bl_eq, bl_text _ _ x y h2 k2]
    by_cases h : s = t
    · subst h; rw [if_pos rfl, if_pos rfl]
    · rw [if_neg (fun e => h (mk_ext e)), if_neg (by intro e; simp at e; exact h e)]
      simp [lessP, Lib.toList_data]
  · rw [if_neg (by intro e; simp at e)]; exact (bl_lt (a := 3) (b := 4) _ _ (by decide)).trans (by simp [lessP])
  · rw [if_neg (by intro e; simp at e)]; exact (bl_lt (a := 3) (b := 4) _ _ (by decide)).trans (by simp [lessP])
  · rw [if_neg (by intro e; simp at e)]; exact (bl_gt (a := 4) (b := 1) _ _ (by decide)).trans (by simp [lessP])
  · rw [if_neg (by intro e; simp at e)]; exact (bl_gt (a := 4) (b := 2) _ _ (by decide)).trans (by simp [lessP])
  · rw [if_neg (by intro e; simp at e)]; exact (bl_gt (a := 4) (b := 3) _ _ (by decide)).trans (by simp [lessP])
  · rw [if_pos rfl]; exact (bl_eq 4 _ _).trans (bl_eq 0 x y)
  · rw [if_neg (by intro e; simp at e)]; exact ((bl_eq 4 _ _).trans (bl_lt (a := 0) (b := 1) _ _ (by decide))).trans (by simp [lessP])
  · rw [if_neg (by intro e; simp at e)]; exact (bl_gt (a := 4) (b := 1) _ _ (by decide)).trans (by simp [lessP])
  · rw [if_neg (by intro e; simp at e)]; exact (bl_gt (a := 4) (b := 2) _ _ (by decide)).trans (by simp [lessP])
  · rw [if_neg (by intro e; simp at e)]; exact (bl_gt (a := 4) (b := 3) _ _ (by decide)).trans (by simp [lessP])
  · rw [if_neg (by intro e; simp at e)]; exact ((bl_eq 4 _ _).trans (bl_gt (a := 1) (b := 0) _ _ (by decide))).trans (by simp [lessP])
  · rw [if_pos rfl]; exact (bl_eq 4 _ _).trans (bl_eq 1 x y)
theorem bl_total : ∀ s t : List UInt8, s ≠ t → Op.bytesLess s t = !Op.bytesLess t s
  | [], [], h => absurd rfl h
  | [], b :: t, _ => rfl
  | a :: s, [], _ => rfl
  | a :: s, b :: t, h => by
    rcases tri a b with h1 | h1 | h1
    · rw [bl_lt _ _ h1, bl_gt _ _ h1]; rfl
    · subst h1
      rw [bl_eq, bl_eq]
      exact bl_total s t (fun e => h (by rw [e]))
    · rw [bl_lt _ _ h1, bl_gt _ _ h1]; rfl
theorem lessP_total (p q : Vl) (h : p ≠ q) : lessP p q = !lessP q p := by
  obtain ⟨k, n, s⟩ := p
  obtain ⟨k2, n2, t⟩ := q
  unfold lessP
  dsimp only
  rcases Int.lt_trichotomy k k2 with h1 | h1 | h1
  · simp [h1, show ¬ k2 < k by omega, show ¬ k2 = k by omega]
  · subst h1
    rcases Int.lt_trichotomy n n2 with h2 | h2 | h2
    · simp [h2, show ¬ n2 < n by omega, show ¬ n2 = n by omega]
    · subst h2
      have hst : s.toList ≠ t.toList := fun e => h (by rw [mk_ext (s := s) (t := t) (by rw [← Lib.toList_data, ← Lib.toList_data]; exact e)])
      simp [bl_total _ _ hst]
    · simp [h2, show ¬ n < n2 by omega, show ¬ n = n2 by omega]
  · simp [h1, show ¬ k < k2 by omega, show ¬ k = k2 by omega]
/-- The order of rows. -/
def cmpR : List Vl → List Vl → Int
  | [], [] => 0
  | [], _ :: _ => -1
  | _ :: _, [] => 1
  | p :: ps, q :: qs => if lessP p q = true then -1 else if p = q then cmpR ps qs else 1
def sgnB (x y : List UInt8) : Int := if Op.bytesLess x y = true then -1 else if Op.bytesLess y x = true then 1 else 0
theorem keyL_cons (p : Vl) (ps : List Vl) : keyL (p :: ps) = keyV p ++ keyL ps := by unfold keyL; simp
theorem keyV_cons (p : Vl) : ∃ b t, keyV p = b :: t := by
  unfold keyV
  split
  · exact ⟨_, _, rfl⟩
  · split
    · exact ⟨_, _, rfl⟩
    · split <;> exact ⟨_, _, rfl⟩
theorem bl_irr : ∀ x : List UInt8, Op.bytesLess x x = false
  | [] => rfl
  | a :: x => by rw [bl_eq]; exact bl_irr x
theorem lessP_irr (p : Vl) : lessP p p = false := by
  unfold lessP; simp [bl_irr]
theorem key_order : ∀ ps qs : List Vl, okL ps = true → okL qs = true → sgnB (keyL ps) (keyL qs) = cmpR ps qs
  | [], [], _, _ => by decide
  | [], q :: qs, _, _ => by
    obtain ⟨b, t, h⟩ := keyV_cons q
    rw [keyL_cons, h]; rfl
  | p :: ps, [], _, _ => by
    obtain ⟨b, t, h⟩ := keyV_cons p
    rw [keyL_cons, h]; rfl
  | p :: ps, q :: qs, hp, hq => by
    unfold okL at hp hq
    simp only [List.all_cons, Bool.and_eq_true] at hp hq
    have ih := key_order ps qs (by unfold okL; exact hp.2) (by unfold okL; exact hq.2)
    unfold sgnB at ih ⊢
    rw [keyL_cons, keyL_cons, bl_key p q hp.1 hq.1, bl_key q p hq.1 hp.1]
    show _ = if lessP p q = true then -1 else if p = q then cmpR ps qs else 1
    by_cases h : p = q
    · subst h
      rw [if_pos rfl, if_pos rfl, ih, lessP_irr, if_neg (by decide), if_pos rfl]
    · rw [show (if p = q then Op.bytesLess (keyL ps) (keyL qs) else lessP p q) = lessP p q from if_neg h, show (if q = p then Op.bytesLess (keyL qs) (keyL ps) else lessP q p) = lessP q p from if_neg (fun e => h e.symm), show (if p = q then cmpR ps qs else (1 : Int)) = 1 from if_neg h]
      have ht := lessP_total p q h
      cases hl : lessP p q
      · rw [hl] at ht
        have : lessP q p = true := by simpa using ht.symm
        rw [this, if_neg (by decide), if_pos rfl, if_neg (by decide)]
      · rw [if_pos rfl, if_pos rfl]
end Go.Proofs.Yteihjneeiojgaaa
/-
  The order of values, of the program and of the reference; the reference's Valid. Conditions: none.
-/
namespace Go.Proofs.Yteihjneeiojgaaa
set_option maxRecDepth 100000
set_option linter.unusedVariables false
set_option linter.unusedSimpArgs false
open Go.RowKit

theorem cb_spec : ∀ l m : List UInt8, Lib.compareBytes l m = if Op.bytesLess l m then -1 else if l == m then 0 else 1
  | [], [] => rfl
  | [], _ :: _ => rfl
  | _ :: _, [] => rfl
  | a :: x, b :: y => by
    unfold Lib.compareBytes Op.bytesLess
    rw [cb_spec x y]
    by_cases h1 : a < b
    · simp [h1]
    · by_cases h2 : b < a
      · have hne : a ≠ b := by intro e; subst e; exact h1 h2
        have hb : (a == b) = false := by simpa using hne
        simp [h1, h2, hne]
      · have hab : a = b := by
          have h3 : ¬ a.toNat < b.toNat := h1
          have h4 : ¬ b.toNat < a.toNat := h2
          exact UInt8.toNat_inj.1 (by omega)
        subst hab
        simp [h1]
/-- The order of values. -/
def cmpV (k n : Int) (s : ByteArray) (k2 n2 : Int) (s2 : ByteArray) : Int :=
  if k < k2 then -1 else if k2 < k then 1 else if n < n2 then -1 else if n2 < n then 1 else Lib.compareBytes s.data.toList s2.data.toList
def cmpP (p q : Vl) : Int := if lessP p q = true then -1 else if p = q then 0 else 1
theorem cmpV_P (k n : Int) (s : ByteArray) (k2 n2 : Int) (s2 : ByteArray) : cmpV k n s k2 n2 s2 = cmpP (k, n, s) (k2, n2, s2) := by
  unfold cmpV cmpP lessP
  rw [cb_spec, ← Lib.toList_data, ← Lib.toList_data]
  have hs : (s = s2) = (s.toList = s2.toList) := by
    apply propext
    exact ⟨fun e => by rw [e], fun e => mk_ext (by rw [← Lib.toList_data, ← Lib.toList_data]; exact e)⟩
  simp only [Prod.mk.injEq, hs]
  rcases Int.lt_trichotomy k k2 with h | h | h
  · simp [h]
  · subst h
    rcases Int.lt_trichotomy n n2 with h | h | h
    · simp [h]
    · subst h
      simp
    · simp [h, show ¬ n < n2 by omega, show ¬ n = n2 by omega]
  · simp [h, show ¬ k < k2 by omega, show ¬ k = k2 by omega]
def sgn (a b : Bool) : Int := if a then -1 else if b then 1 else 0
theorem prn7_take_not {s : ByteArray} {k : Nat} (h : k < s.size) (hk : (s[k].toNat : Int) < 32 ∨ 126 < (s[k].toNat : Int)) : prnB s.data.toList = false := by
  unfold prnB
  rw [Bool.eq_false_iff]; intro e
  rw [List.all_eq_true] at e
  have hm : s[k] ∈ s.data.toList := by
    have : s.data.toList[k]'(by simpa using h) ∈ s.data.toList := List.getElem_mem _
    exact this
  have := e _ hm
  simp only [Bool.and_eq_true, decide_eq_true_eq] at this
  omega
theorem prn7_step {s : ByteArray} {k : Nat} (h : k < s.size) (hp : prnB (s.data.toList.take k) = true) (h1 : ¬ (s[k].toNat : Int) < 32) (h2 : ¬ 126 < (s[k].toNat : Int)) : prnB (s.data.toList.take (k + 1)) = true := by
  rw [List.take_succ_eq_append_getElem (by simpa using h)]
  unfold prnB at hp ⊢
  rw [List.all_append, hp, List.all_cons, List.all_nil]
  have : s.data.toList[k]'(by simpa using h) = s[k] := rfl
  rw [this, decide_eq_true (by omega), decide_eq_true (by omega)]; rfl
set_option maxHeartbeats 800000 in
theorem rPrn7_any (s : ByteArray) (w : World) (hs : s.size < 9223372036854775807) : Calls Try.prog 58 #[.string s] w fun e w' => e = .returned (.bool (prnB s.data.toList)) ∧ w' = w := by
  generalize hR : prnB s.data.toList = R
  have HR := Lib.hid hR
  clear hR
  go_enter Try.func58, Try.ntmps58
  go_wp2
  go_loop [3] (fun i => ∃ k : Nat, k ≤ s.size ∧ i = .int .i64 k ∧ Hid (prnB (s.data.toList.take k) = true)) (fun i => s.size - (intOf i).toNat)
  case atStart => exact ⟨0, Nat.zero_le _, rfl, Lib.hid rfl⟩
  case round =>
    obtain ⟨k, hk, rfl, hd⟩ := hrel
    by_cases hlt : k < s.size
    · by_cases hc1 : (s[k].toNat : Int) < 32
      · go_wp2
        go_ret
        exact ⟨by rw [show R = false by rw [← HR.out, prn7_take_not hlt (.inl hc1)]]; rfl, rfl⟩
      · by_cases hc2 : 126 < (s[k].toNat : Int)
        · go_wp2
          go_ret
          exact ⟨by rw [show R = false by rw [← HR.out, prn7_take_not hlt (.inr hc2)]]; rfl, rfl⟩
        · go_wp2
          go_round
          case rel => exact ⟨k + 1, by omega, by go_num, Lib.hid (prn7_step hlt hd.out hc1 hc2)⟩
          case measure => simp [intOf]; omega
    · go_wp2
      go_ret
      have ht : s.data.toList.take k = s.data.toList := List.take_of_length_le (by rw [← Lib.size_eq]; omega)
      have hd' := hd.out
      rw [ht, HR.out] at hd'
      exact ⟨by rw [hd']; rfl, rfl⟩
set_option maxRecDepth 100000 in
set_option maxHeartbeats 1600000 in
theorem rValid7_any (k n : Int) (s : ByteArray) (w : World) : Calls Try.prog 42 #[valV (k, n, s)] w fun e w' => e = .returned (.bool (okP (k, n, s))) ∧ Below w.heap.size w w' := by
  unfold okP valV
  dsimp only
  by_cases k0 : k = 0
  · subst k0
    rw [if_pos rfl]
    by_cases hn : n = 0 <;> cases he : s.toList == []
    all_goals
      go_enter Try.func42, Try.ntmps42
      go_wp2
      go_ret
      refine ⟨by simp [*], ?_⟩
      (repeat' (first | (with_reducible exact Below.refl _ _) | (with_reducible assumption) | (with_reducible refine Below.alloc ?_ ?_ _) | (with_reducible refine Below.drew ?_) | (with_reducible refine Below.setCell ?_ ?_ _) | (with_reducible refine Below.trans ?_ (Below.mono (by assumption) ?_)) | go_size))
  rw [if_neg k0]
  by_cases k1 : k = 1
  · subst k1
    rw [if_pos rfl]
    by_cases h1 : -1125899906842624 ≤ n <;> by_cases h2 : n ≤ 1125899906842624 <;> cases he : s.toList == []
    all_goals (first | (exfalso; omega) | skip)
    all_goals
      go_enter Try.func42, Try.ntmps42
      go_wp2
      go_ret
      refine ⟨by simp [*], ?_⟩
      (repeat' (first | (with_reducible exact Below.refl _ _) | (with_reducible assumption) | (with_reducible refine Below.alloc ?_ ?_ _) | (with_reducible refine Below.drew ?_) | (with_reducible refine Below.setCell ?_ ?_ _) | (with_reducible refine Below.trans ?_ (Below.mono (by assumption) ?_)) | go_size))
  rw [if_neg k1]
  by_cases k2 : k = 2
  · subst k2
    rw [if_pos rfl]
    by_cases hn : n = 0
    · by_cases hs : s.size ≤ 200
      · have hsi : (s.size : Int) ≤ 200 := by omega
        have hP := fun W => rPrn7_any s W (by omega)
        cases hp : prnB s.data.toList <;> rw [hp] at hP
        all_goals
          go_enter Try.func42, Try.ntmps42
          go_wp2_with (go_at_call 58; refine (hP _).mono ?_; rintro e w1 ⟨rfl, rfl⟩)
          go_ret
          refine ⟨by simp [*], ?_⟩
          (repeat' (first | (with_reducible exact Below.refl _ _) | (with_reducible assumption) | (with_reducible refine Below.alloc ?_ ?_ _) | (with_reducible refine Below.drew ?_) | (with_reducible refine Below.setCell ?_ ?_ _) | (with_reducible refine Below.trans ?_ (Below.mono (by assumption) ?_)) | go_size))
      · have hsi : ¬ (s.size : Int) ≤ 200 := by omega
        go_enter Try.func42, Try.ntmps42
        go_wp2
        go_ret
        refine ⟨by simp [*], ?_⟩
        (repeat' (first | (with_reducible exact Below.refl _ _) | (with_reducible assumption) | (with_reducible refine Below.alloc ?_ ?_ _) | (with_reducible refine Below.drew ?_) | (with_reducible refine Below.setCell ?_ ?_ _) | (with_reducible refine Below.trans ?_ (Below.mono (by assumption) ?_)) | go_size))
    · go_enter Try.func42, Try.ntmps42
      go_wp2
      go_ret
      refine ⟨by simp [*], ?_⟩
      (repeat' (first | (with_reducible exact Below.refl _ _) | (with_reducible assumption) | (with_reducible refine Below.alloc ?_ ?_ _) | (with_reducible refine Below.drew ?_) | (with_reducible refine Below.setCell ?_ ?_ _) | (with_reducible refine Below.trans ?_ (Below.mono (by assumption) ?_)) | go_size))
  rw [if_neg k2]
  by_cases k3 : k = 3
  · subst k3
    rw [if_pos rfl]
    by_cases h1 : n = 0 <;> by_cases h2 : n = 1 <;> cases he : s.toList == []
    all_goals (first | (exfalso; omega) | skip)
    all_goals
      go_enter Try.func42, Try.ntmps42
      go_wp2
      go_ret
      refine ⟨by simp [*], ?_⟩
      (repeat' (first | (with_reducible exact Below.refl _ _) | (with_reducible assumption) | (with_reducible refine Below.alloc ?_ ?_ _) | (with_reducible refine Below.drew ?_) | (with_reducible refine Below.setCell ?_ ?_ _) | (with_reducible refine Below.trans ?_ (Below.mono (by assumption) ?_)) | go_size))
  rw [if_neg k3]
  have j0 : (k == 0) = false := by simpa using k0
  have j1 : (k == 1) = false := by simpa using k1
  have j2 : (k == 2) = false := by simpa using k2
  have j3 : (k == 3) = false := by simpa using k3
  go_enter Try.func42, Try.ntmps42
  go_wp2
  go_ret
  refine ⟨rfl, ?_⟩
  (repeat' (first | (with_reducible exact Below.refl _ _) | (with_reducible assumption) | (with_reducible refine Below.alloc ?_ ?_ _) | (with_reducible refine Below.drew ?_) | (with_reducible refine Below.setCell ?_ ?_ _) | (with_reducible refine Below.trans ?_ (Below.mono (by assumption) ?_)) | go_size))
end Go.Proofs.Yteihjneeiojgaaa
/-
  Comparing rows: slices.CompareFunc with value.Compare, tuple.Compare, the reference's Compare and Equal: what they answer. Conditions: lengths.
-/
namespace Go.Proofs.Yteihjneeiojgaaa
set_option maxRecDepth 100000
set_option linter.unusedVariables false
set_option linter.unusedSimpArgs false
open Go.RowKit

theorem cmpQ_drop (ps qs : List Vl) (k : Nat) (p q : Vl) (hp : ps[k]? = some p) (hq : qs[k]? = some q) : cmpR (ps.drop k) (qs.drop k) = if cmpP p q = 0 then cmpR (ps.drop (k + 1)) (qs.drop (k + 1)) else cmpP p q := by
  obtain ⟨h1, rfl⟩ := List.getElem?_eq_some_iff.1 hp
  obtain ⟨h2, rfl⟩ := List.getElem?_eq_some_iff.1 hq
  rw [List.drop_eq_getElem_cons h1, List.drop_eq_getElem_cons h2]
  show (if lessP ps[k] qs[k] = true then -1 else if ps[k] = qs[k] then _ else 1) = _
  unfold cmpP
  by_cases h : lessP ps[k] qs[k] = true
  · simp [h]
  · by_cases h3 : ps[k] = qs[k]
    · simp [h3, lessP_irr]
    · simp [h, h3]
theorem cmpQ_end (ps qs : List Vl) (k : Nat) (h : ¬ (k < ps.length ∧ k < qs.length)) : cmpR (ps.drop k) (qs.drop k) = if k < qs.length then -1 else if k < ps.length then 1 else 0 := by
  by_cases h1 : k < ps.length
  · have h2 : ¬ k < qs.length := fun h2 => h ⟨h1, h2⟩
    rw [List.drop_eq_nil_of_le (show qs.length ≤ k by omega), List.drop_eq_getElem_cons h1, if_neg h2, if_pos h1]
    rfl
  · rw [List.drop_eq_nil_of_le (show ps.length ≤ k by omega)]
    by_cases h2 : k < qs.length
    · rw [List.drop_eq_getElem_cons h2, if_pos h2]; rfl
    · rw [List.drop_eq_nil_of_le (show qs.length ≤ k by omega), if_neg h2, if_neg h1]; rfl
theorem cmpP_i64 (p q : Vl) : cmpP p q = -1 ∨ cmpP p q = 0 ∨ cmpP p q = 1 := by
  unfold cmpP
  split
  · exact .inl rfl
  · split
    · exact .inr (.inl rfl)
    · exact .inr (.inr rfl)
theorem own2 {w : World} {t : TypeId} {cs : Array Value} (o : Obj) : Own ((w.alloc o).alloc (.cells cs t)) (w.heap.size + 1) t cs := by
  have h := Own.new (w.alloc o) t cs
  rwa [World.size_alloc] at h
end Go.Proofs.Yteihjneeiojgaaa
/-
  Period of the program and of the reference: what is read from any bytes at any offset. Conditions: lengths.
-/
namespace Go.Proofs.Yteihjneeiojgaaa
set_option maxRecDepth 100000
set_option linter.unusedVariables false
set_option linter.unusedSimpArgs false
open Go.RowKit

theorem results_cell_row3 {fn : Func} {p u v : Tmp} {ty : TypeId} (h : fn.results = #[.cell p ty, .tmp u, .tmp v]) (tmps : Array Value) (w : World) (g : Nat) (cs : Array Value) (hp : tmps.getD p undef = .pointer (some ⟨g, 0, none⟩))
    (hl : (loadVar ty ⟨g, 0, none⟩).run Try.prog w = .ok (.agg cs) w) : (results fn tmps).run Try.prog w = .ok (.tuple #[.agg cs, tmps.getD u undef, tmps.getD v undef]) w := by
  have hp' : tmps[p]?.getD undef = .pointer (some ⟨g, 0, none⟩) := by simpa using hp
  simp [results, h, hp', asAddr, hl]
/-- What Period answers: the error, both ends, where the next begins. -/
def perF (l : List UInt8) (i : Int) : Nat × Int × Int × Nat :=
  if (intF l i).1 = 0 then if (intF l (intF l i).2.2).1 = 0 then if vld (intF l i).2.1 (intF l (intF l i).2.2).2.1 then (0, (intF l i).2.1, (intF l (intF l i).2.2).2.1, (intF l (intF l i).2.2).2.2) else (6, 0, 0, 0) else ((intF l (intF l i).2.2).1, 0, 0, 0) else ((intF l i).1, 0, 0, 0)
def perR (x : Nat × Int × Int × Nat) : Value := .tuple #[.agg #[.int .i64 x.2.1, .int .i64 x.2.2.1], .int .i64 (x.2.2.2 : Nat), .int .i64 (x.1 : Nat)]
end Go.Proofs.Yteihjneeiojgaaa
/-
  Value of the program and of the reference: which value is read from any bytes at any offset. Conditions: lengths.
-/
namespace Go.Proofs.Yteihjneeiojgaaa
set_option maxRecDepth 100000
set_option linter.unusedVariables false
set_option linter.unusedSimpArgs false
open Go.RowKit

/-- What checked answers. -/
def chkF (p : Vl) (nx er iv : Int) : Vl × Int × Int := if er = 0 then if okP p = true then (p, nx, 0) else ((0, 0, ⟨#[]⟩), 0, iv) else ((0, 0, ⟨#[]⟩), 0, er)
def chkR (x : Vl × Int × Int) : Value := .tuple #[valV x.1, .int .i64 x.2.1, .int .i64 x.2.2]
theorem own_two {w : World} {t : TypeId} {cs : Array Value} (o : Obj) : Own ((w.alloc o).alloc (.cells cs t)) (w.heap.size + 1) t cs := by
  have h := Own.new (w.alloc o) t cs
  rwa [World.size_alloc] at h
/-- What Value answers: the error, the value, where the next begins. -/
def valF (l : List UInt8) (i : Int) : Nat × Vl × Nat :=
  if i < 0 ∨ i > l.length then (6, (0, 0, ⟨#[]⟩), 0) else if i = l.length then (2, (0, 0, ⟨#[]⟩), 0)
  else if (l.getD i.toNat 0).toNat = 0 then (0, (0, 0, ⟨#[]⟩), i.toNat + 1)
  else if (l.getD i.toNat 0).toNat = 1 then (if (intF l (i + 1)).1 = 0 then if okP (1, (intF l (i + 1)).2.1, ⟨#[]⟩) = true then (0, (1, (intF l (i + 1)).2.1, ⟨#[]⟩), (intF l (i + 1)).2.2) else (6, (0, 0, ⟨#[]⟩), 0) else ((intF l (i + 1)).1, (0, 0, ⟨#[]⟩), 0))
  else if (l.getD i.toNat 0).toNat = 2 then (if (txtF l (i + 1) 200).1 = 0 then if okP (2, 0, (txtF l (i + 1) 200).2.1) = true then (0, (2, 0, (txtF l (i + 1) 200).2.1), (txtF l (i + 1) 200).2.2) else (1, (0, 0, ⟨#[]⟩), 0) else ((txtF l (i + 1) 200).1, (0, 0, ⟨#[]⟩), 0))
  else if (l.getD i.toNat 0).toNat = 3 then (0, (3, 0, ⟨#[]⟩), i.toNat + 1)
  else if (l.getD i.toNat 0).toNat = 4 then (0, (3, 1, ⟨#[]⟩), i.toNat + 1) else (1, (0, 0, ⟨#[]⟩), 0)
def valR (x : Nat × Vl × Nat) : Value := .tuple #[valV x.2.1, .int .i64 (x.2.2 : Nat), .int .i64 (x.1 : Nat)]
theorem valF_in {l : List UInt8} {P : Nat} (h : P < l.length) (b : Nat) (hb : (l[P]'h).toNat = b) : valF l P =
    if b = 0 then (0, (0, 0, ⟨#[]⟩), P + 1)
    else if b = 1 then (if (intF l ((P : Int) + 1)).1 = 0 then if okP (1, (intF l ((P : Int) + 1)).2.1, ⟨#[]⟩) = true then (0, (1, (intF l ((P : Int) + 1)).2.1, ⟨#[]⟩), (intF l ((P : Int) + 1)).2.2) else (6, (0, 0, ⟨#[]⟩), 0) else ((intF l ((P : Int) + 1)).1, (0, 0, ⟨#[]⟩), 0))
    else if b = 2 then (if (txtF l ((P : Int) + 1) 200).1 = 0 then if okP (2, 0, (txtF l ((P : Int) + 1) 200).2.1) = true then (0, (2, 0, (txtF l ((P : Int) + 1) 200).2.1), (txtF l ((P : Int) + 1) 200).2.2) else (1, (0, 0, ⟨#[]⟩), 0) else ((txtF l ((P : Int) + 1) 200).1, (0, 0, ⟨#[]⟩), 0))
    else if b = 3 then (0, (3, 0, ⟨#[]⟩), P + 1) else if b = 4 then (0, (3, 1, ⟨#[]⟩), P + 1) else (1, (0, 0, ⟨#[]⟩), 0) := by
  unfold valF
  rw [if_neg (by omega), if_neg (by omega), Int.toNat_natCast, List.getD_eq_getElem?_getD, List.getElem?_eq_getElem h, Option.getD_some, hb]
theorem txtF_size (l : List UInt8) (i m : Int) (h : (txtF l i m).1 = 0) : ((txtF l i m).2.1.size : Int) ≤ max m 0 := by
  unfold txtF at h ⊢
  split at h
  · rename_i h1
    rw [if_pos h1]
    split at h
    · simp at h
    · rename_i h2
      rw [if_neg h2]
      split at h
      · simp at h
      · rename_i h3
        rw [if_neg h3]
        split at h
        · simp at h
        · rename_i h4
          rw [if_neg h4]
          have h5 : (ByteArray.mk ((l.drop (intF l i).2.2).take (intF l i).2.1.toNat).toArray).size ≤ (intF l i).2.1.toNat := by
            show (((l.drop (intF l i).2.2).take (intF l i).2.1.toNat).toArray).size ≤ _
            rw [List.size_toArray, List.length_take]
            omega
          dsimp only
          omega
  · exact absurd h (by assumption)
end Go.Proofs.Yteihjneeiojgaaa
/-
  Value of the program and of the reference: which value is read from any bytes at any offset. Conditions: lengths.
-/
namespace Go.Proofs.Yteihjneeiojgaaa
set_option maxRecDepth 100000
set_option linter.unusedVariables false
set_option linter.unusedSimpArgs false
open Go.RowKit

end Go.Proofs.Yteihjneeiojgaaa
/-
  Row of the program and of the reference: which row is read from any bytes at any offset; rows of the statements. Conditions: lengths.
-/
namespace Go.Proofs.Yteihjneeiojgaaa
set_option maxRecDepth 100000
set_option linter.unusedVariables false
set_option linter.unusedSimpArgs false
open Go.RowKit

/-- The cells of values, one behind the other. -/
def flatV : List Vl → List Value
  | [] => []
  | p :: t => .int .i64 p.1 :: .int .i64 p.2.1 :: .string p.2.2 :: flatV t
theorem flatV_append : ∀ a b : List Vl, flatV (a ++ b) = flatV a ++ flatV b
  | [], b => rfl
  | p :: t, b => by
    show .int .i64 p.1 :: .int .i64 p.2.1 :: .string p.2.2 :: flatV (t ++ b) = _
    rw [flatV_append t b]
    rfl
theorem flatV_len : ∀ a : List Vl, (flatV a).length = a.length * 3
  | [] => rfl
  | p :: t => by
    show (flatV t).length + 1 + 1 + 1 = _
    rw [flatV_len t, List.length_cons]
    omega
theorem flatV_get (ps : List Vl) (k : Nat) (p : Vl) (h : ps[k]? = some p) : (flatV ps)[k * 3]? = some (.int .i64 p.1) ∧ (flatV ps)[k * 3 + 1]? = some (.int .i64 p.2.1) ∧ (flatV ps)[k * 3 + 2]? = some (.string p.2.2) := by
  obtain ⟨hk, rfl⟩ := List.getElem?_eq_some_iff.1 h
  have e : ps = ps.take k ++ ps[k] :: ps.drop (k + 1) := by rw [List.getElem_cons_drop, List.take_append_drop]
  have e2 : flatV ps = flatV (ps.take k) ++ (.int .i64 ps[k].1 :: .int .i64 ps[k].2.1 :: .string ps[k].2.2 :: flatV (ps.drop (k + 1))) := by
    conv => lhs; rw [e]
    rw [flatV_append]
    rfl
  have hl : (flatV (ps.take k)).length = k * 3 := by rw [flatV_len, List.length_take]; omega
  rw [e2]
  refine ⟨?_, ?_, ?_⟩
  · rw [List.getElem?_append_right (by omega), hl, show k * 3 - k * 3 = 0 by omega]; rfl
  · rw [List.getElem?_append_right (by omega), hl, show k * 3 + 1 - k * 3 = 1 by omega]; rfl
  · rw [List.getElem?_append_right (by omega), hl, show k * 3 + 2 - k * 3 = 2 by omega]; rfl
def zV : Vl := (0, 0, ⟨#[]⟩)
/-- The cells of a row of n values of which those of ps are read. -/
def rowC (ps : List Vl) (n : Nat) : Array Value := (flatV (ps ++ List.replicate (n - ps.length) zV)).toArray
theorem rowC_next (ps : List Vl) (n : Nat) (h : ps.length < n) : (rowC ps n)[ps.length * 3]? = some (.int .i64 0) ∧ (rowC ps n)[ps.length * 3 + 1]? = some (.int .i64 0) ∧ (rowC ps n)[ps.length * 3 + 2]? = some (.string ⟨#[]⟩) := by
  have hg : (ps ++ List.replicate (n - ps.length) zV)[ps.length]? = some zV := by
    rw [List.getElem?_append_right (Nat.le_refl _), Nat.sub_self, List.getElem?_replicate, if_pos (by omega)]
  obtain ⟨h1, h2, h3⟩ := flatV_get _ _ _ hg
  unfold rowC
  simp only [List.getElem?_toArray]
  exact ⟨h1, h2, h3⟩
theorem set3 (a : List Value) (x y z x' y' z' : Value) (b : List Value) (i : Nat) (h : a.length = i) : (((a ++ x :: y :: z :: b).set i x').set (i + 1) y').set (i + 2) z' = a ++ x' :: y' :: z' :: b := by
  subst h
  rw [List.set_append_right _ _ (by omega), Nat.sub_self, List.set_cons_zero, List.set_append_right _ _ (by omega), show a.length + 1 - a.length = 1 by omega, List.set_append_right _ _ (by omega), show a.length + 2 - a.length = 2 by omega]
  rfl
theorem rowC_set (ps : List Vl) (n : Nat) (p : Vl) (h : ps.length < n) : (((rowC ps n).setIfInBounds (ps.length * 3) (.int .i64 p.1)).setIfInBounds (ps.length * 3 + 1) (.int .i64 p.2.1)).setIfInBounds (ps.length * 3 + 2) (.string p.2.2) = rowC (ps ++ [p]) n := by
  unfold rowC
  rw [List.setIfInBounds_toArray, List.setIfInBounds_toArray, List.setIfInBounds_toArray, flatV_append, flatV_append, flatV_append]
  have e : List.replicate (n - ps.length) zV = zV :: List.replicate (n - (ps ++ [p]).length) zV := by
    rw [show n - ps.length = (n - (ps ++ [p]).length) + 1 by rw [List.length_append]; simp; omega]
    rfl
  rw [e]
  show (List.set _ _ _).toArray = _
  have := set3 (flatV ps) (.int .i64 0) (.int .i64 0) (.string ⟨#[]⟩) (.int .i64 p.1) (.int .i64 p.2.1) (.string p.2.2) (flatV (List.replicate (n - (ps ++ [p]).length) zV)) (ps.length * 3) (flatV_len ps)
  show (List.set (List.set (List.set (flatV ps ++ (.int .i64 0 :: .int .i64 0 :: .string ⟨#[]⟩ :: flatV (List.replicate (n - (ps ++ [p]).length) zV))) _ _) _ _) _ _).toArray = _
  rw [this]
  show _ = (flatV ps ++ flatV [p] ++ _).toArray
  rw [List.append_assoc]
  rfl
theorem rdV_row {w : World} {g : Nat} {ps : List Vl} (h : Own w g 38 (rowC ps ps.length)) (hl : ps.length ≤ 9223372036854775807) : RdV w 0 w.heap.size (.slice (some ⟨g, 0, none⟩) ps.length ps.length) ps := by
  refine ⟨_, _, rfl, hl, fun k p hk => ⟨_, rfl, Nat.zero_le _, h.lt, ?_⟩⟩
  have h0 : rowC ps ps.length = (flatV ps).toArray := by unfold rowC; rw [Nat.sub_self]; simp
  rw [h0] at h
  obtain ⟨h1, h2, h3⟩ := flatV_get ps k p hk
  have ea : (⟨g, 0, none⟩ : Addr).add (k * 3) = ⟨g, k * 3, none⟩ := by unfold Addr.add; split <;> simp_all
  rw [ea]
  exact ⟨(h.cell _).trans (by simpa using h1), (h.cell _).trans (by simpa using h2), (h.cell _).trans (by simpa using h3)⟩
theorem rdV_nil (w : World) (L B : Nat) : RdV w L B (.slice none 0 0) [] := ⟨none, 0, rfl, by simp, fun k b h => by simp at h⟩
theorem infoV : (Try.prog.info? 38).map (fun i => (i.zero, i.size, i.bytes)) = some (some (.agg #[.int .i64 0, .int .i64 0, .string ⟨#[]⟩]), 3, 32) := by kernel_rfl
theorem RdV.of_own {w : World} {base : Nat} {v : Value} {ps : List Vl} (h : w.ownsRow base 38 3 v ps.length (flatV ps)) (hl : ps.length ≤ 9223372036854775807) : RdV w base w.heap.size v ps := by
  rcases h.2 with ⟨rfl, h0⟩ | ⟨g, cap, cur, rfl, hb, hh, hn, hc, hs, ht⟩
  · obtain rfl := List.eq_nil_of_length_eq_zero h0
    exact ⟨none, 0, rfl, by simp, fun k n hk => by simp at hk⟩
  · have hg : g < w.heap.size := by
      rcases Nat.lt_or_ge g w.heap.size with h1 | h1
      · exact h1
      · rw [Array.getElem?_eq_none h1] at hh; cases hh
    have he : ∀ i u, (flatV ps)[i]? = some u → w.cell? ⟨g, i, none⟩ = some u := fun i u hu => by
      rw [cell_of_row w g i cur _ _ hh, ← Array.getElem?_toList]
      rw [← ht, List.getElem?_take] at hu
      split at hu
      · exact hu
      · cases hu
    refine ⟨_, cap, rfl, hl, fun k p hk => ⟨_, rfl, hb, hg, ?_⟩⟩
    obtain ⟨h1, h2, h3⟩ := flatV_get ps k p hk
    have ea : (⟨g, 0, none⟩ : Addr).add (k * 3) = ⟨g, k * 3, none⟩ := by unfold Addr.add; split <;> simp_all
    rw [ea]
    exact ⟨he _ _ h1, he _ _ h2, he _ _ h3⟩
theorem append_val {ops : Array Oper} {rest : List Oper} {o : Oper} {a : Act} {Q : Exit → Act → World → Prop} (W : World) (hgd : o.guard = none) (s x : Operand)
    (ho : o.op = .call { callee := .builtin .append, args := #[s, x], argTypes := #[90, 90] }) (base : Nat) (v : Value) (l : List Vl) (hs : a.eval s = v)
    (hown : W.ownsRow base 38 3 v l.length (flatV l)) (ad : Addr) (m : List Vl) (c : Nat) (hx : a.eval x = .slice (some ad) m.length c)
    (hnew : ∀ j u, (flatV m)[j]? = some u → W.cell? (ad.add j) = some u) (hl : l.length + m.length ≤ 2199023255552) (hbase : base ≤ W.heap.size)
    (h : ∀ v' w', w'.ownsRow base 38 3 v' (l ++ m).length (flatV (l ++ m)) → Below base W w' → wpList Try.prog ops Q rest (a.put o.dst v') w') :
    wpList Try.prog ops Q (o :: rest) a W := by
  obtain ⟨i0, hi, hz0, hz1, hz2⟩ := info_partsB infoV
  refine wpList_append_own _ hgd s x 90 ho base 38 i0 (.agg #[.int .i64 0, .int .i64 0, .string ⟨#[]⟩]) 3 32 Try.underlying90 hi hz0 hz1 hz2 rfl (by decide) v l.length (flatV l) hs hown ad m.length c (flatV m) hx (by rw [flatV_len])
    hnew (fun u hu => ?_) (by unfold maxLen; omega) (by omega) hbase ?_
  · have hall : ∀ ps : List Vl, ∀ u ∈ flatV ps, u.oneCell' = true := by
      intro ps
      induction ps with
      | nil => intro u hu; cases hu
      | cons p t ih =>
        intro u hu
        have hu2 : u ∈ (.int .i64 p.1 :: .int .i64 p.2.1 :: .string p.2.2 :: flatV t : List Value) := hu
        simp only [List.mem_cons] at hu2
        rcases hu2 with rfl | rfl | rfl | hu2
        · rfl
        · rfl
        · rfl
        · exact ih u hu2
    exact hall m u hu
  · intro v' w' h1 h2 _
    exact h v' w' (by rw [flatV_append, List.length_append]; exact h1) ((Below.refl _ _).grown h2 hbase fun k hk => (hown.lt k hk).1)
theorem made0 : madeCells (Value.agg #[.int .i64 0, .int .i64 0, .string ⟨#[]⟩]).cells (0 * 3) = rowC [] 0 := by kernel_rfl
theorem made1 : madeCells (Value.agg #[.int .i64 0, .int .i64 0, .string ⟨#[]⟩]).cells (1 * 3) = rowC [] 1 := by kernel_rfl
theorem made2 : madeCells (Value.agg #[.int .i64 0, .int .i64 0, .string ⟨#[]⟩]).cells (2 * 3) = rowC [] 2 := by kernel_rfl
theorem made3 : madeCells (Value.agg #[.int .i64 0, .int .i64 0, .string ⟨#[]⟩]).cells (3 * 3) = rowC [] 3 := by kernel_rfl
theorem made4 : madeCells (Value.agg #[.int .i64 0, .int .i64 0, .string ⟨#[]⟩]).cells (4 * 3) = rowC [] 4 := by kernel_rfl
theorem made5 : madeCells (Value.agg #[.int .i64 0, .int .i64 0, .string ⟨#[]⟩]).cells (5 * 3) = rowC [] 5 := by kernel_rfl
theorem made6 : madeCells (Value.agg #[.int .i64 0, .int .i64 0, .string ⟨#[]⟩]).cells (6 * 3) = rowC [] 6 := by kernel_rfl
theorem made7 : madeCells (Value.agg #[.int .i64 0, .int .i64 0, .string ⟨#[]⟩]).cells (7 * 3) = rowC [] 7 := by kernel_rfl
theorem made8 : madeCells (Value.agg #[.int .i64 0, .int .i64 0, .string ⟨#[]⟩]).cells (8 * 3) = rowC [] 8 := by kernel_rfl
theorem made9 : madeCells (Value.agg #[.int .i64 0, .int .i64 0, .string ⟨#[]⟩]).cells (9 * 3) = rowC [] 9 := by kernel_rfl
theorem made10 : madeCells (Value.agg #[.int .i64 0, .int .i64 0, .string ⟨#[]⟩]).cells (10 * 3) = rowC [] 10 := by kernel_rfl
theorem made11 : madeCells (Value.agg #[.int .i64 0, .int .i64 0, .string ⟨#[]⟩]).cells (11 * 3) = rowC [] 11 := by kernel_rfl
theorem made12 : madeCells (Value.agg #[.int .i64 0, .int .i64 0, .string ⟨#[]⟩]).cells (12 * 3) = rowC [] 12 := by kernel_rfl
theorem made_row (W : World) (g : Nat) (hg : g = W.heap.size) (n : Nat) (hn : n ≤ 12) (N : Int) (hN : N = (n : Nat)) :
    (Instr.makeSlice 90 (.int .i64 N) (.int .i64 N)).run Try.prog W = .ok (.slice (some ⟨g, 0, none⟩) n n) (W.alloc (.cells (rowC [] n) 38)) := by
  subst hg hN
  obtain ⟨i0, hi, hz0, hz1, hz2⟩ := info_partsB infoV
  have h := run_makeSlice (P := Try.prog) (w := W) 90 38 i0 (.agg #[.int .i64 0, .int .i64 0, .string ⟨#[]⟩]) Try.underlying90 hi hz0 .i64 .i64 (n : Int) (n : Int) (by omega) (Int.le_refl _) (by rw [hz1, Int.toNat_natCast]; omega) (by rw [hz2]; omega) (by omega)
  rw [h, Int.toNat_natCast, hz1]
  have hr : madeCells (Value.agg #[.int .i64 0, .int .i64 0, .string ⟨#[]⟩]).cells (n * 3) = rowC [] n := by
    have h12 : n = 0 ∨ n = 1 ∨ n = 2 ∨ n = 3 ∨ n = 4 ∨ n = 5 ∨ n = 6 ∨ n = 7 ∨ n = 8 ∨ n = 9 ∨ n = 10 ∨ n = 11 ∨ n = 12 := by omega
    rcases h12 with rfl | rfl | rfl | rfl | rfl | rfl | rfl | rfl | rfl | rfl | rfl | rfl | rfl
    · exact made0
    · exact made1
    · exact made2
    · exact made3
    · exact made4
    · exact made5
    · exact made6
    · exact made7
    · exact made8
    · exact made9
    · exact made10
    · exact made11
    · exact made12
  rw [hr]
/-- n values read from the k-th byte on: the error, the values, where the next begins. -/
def readR (l : List UInt8) : Nat → Nat → Nat × List Vl × Nat
  | k, 0 => (0, [], k)
  | k, n + 1 => if (valF l k).1 = 0 then (if (readR l (valF l k).2.2 n).1 = 0 then (0, (valF l k).2.1 :: (readR l (valF l k).2.2 n).2.1, (readR l (valF l k).2.2 n).2.2) else ((readR l (valF l k).2.2 n).1, [], 0)) else ((valF l k).1, [], 0)
def comb (ps : List Vl) (y : Nat × List Vl × Nat) : Nat × List Vl × Nat := if y.1 = 0 then (0, ps ++ y.2.1, y.2.2) else (y.1, [], 0)
theorem readR_err (l : List UInt8) : ∀ (n k : Nat), (readR l k n).1 ≠ 0 → readR l k n = ((readR l k n).1, [], 0) := by
  intro n
  cases n with
  | zero => intro k h; exact absurd rfl h
  | succ n =>
    intro k h
    unfold readR at h ⊢
    split
    · split
      · rename_i h1 h2
        rw [if_pos h1, if_pos h2] at h
        exact absurd rfl h
      · rfl
    · rfl
theorem comb_nil (l : List UInt8) (k n : Nat) : comb [] (readR l k n) = readR l k n := by
  unfold comb
  by_cases h : (readR l k n).1 = 0
  · rw [if_pos h, List.nil_append, ← h]
  · rw [if_neg h]; exact (readR_err l n k h).symm
theorem comb_step (l : List UInt8) (ps : List Vl) (k n : Nat) (e : Nat) (p : Vl) (k2 : Nat) (hX : valF l k = (e, p, k2)) : comb ps (readR l k (n + 1)) = if e = 0 then comb (ps ++ [p]) (readR l k2 n) else (e, [], 0) := by
  rw [readR, hX]
  dsimp only
  by_cases he : e = 0
  · rw [if_pos he, if_pos he]
    unfold comb
    by_cases h : (readR l k2 n).1 = 0
    · rw [if_pos h, if_pos rfl, if_pos h]
      simp
    · rw [if_neg h, if_neg h]
      dsimp only
      rw [if_neg h]
  · rw [if_neg he, if_neg he]
    unfold comb
    dsimp only
    rw [if_neg he]
theorem comb_zero (l : List UInt8) (ps : List Vl) (k : Nat) : comb ps (readR l k 0) = (0, ps, k) := by
  rw [readR]; unfold comb; rw [if_pos rfl, List.append_nil]
/-- What Row answers. -/
def rowF (l : List UInt8) (i : Int) : Nat × List Vl × Nat :=
  if (intF l i).1 = 0 then if (intF l i).2.1 < 0 then (1, [], 0) else if (intF l i).2.1 > 12 then (5, [], 0) else readR l (intF l i).2.2 (intF l i).2.1.toNat else ((intF l i).1, [], 0)
def RetW (w : World) (x : Nat × List Vl × Nat) (e : Ending) (w' : World) : Prop := ∃ u, e = .returned (.tuple #[u, .int .i64 (x.2.2 : Nat), .int .i64 (x.1 : Nat)]) ∧ RdV w' 0 w'.heap.size u x.2.1 ∧ Below w.heap.size w w'
theorem lit_cells (W : World) (g : Nat) (hg : g = W.heap.size) (k n : Int) (s : ByteArray) : ∀ j u, (flatV [(k, n, s)])[j]? = some u → (W.alloc (.cells #[.int .i64 k, .int .i64 n, .string s] 38)).cell? ((⟨g, 0, none⟩ : Addr).add j) = some u := by
  subst hg
  intro j u hu
  rw [cell_add0, (Own.new W 38 #[.int .i64 k, .int .i64 n, .string s]).cell j]
  simpa [flatV] using hu
theorem neq_self (k n : Int) (s : ByteArray) (w : World) : (binOp .neq 38 (.agg #[.int .i64 k, .int .i64 n, .string s]) (.agg #[.int .i64 k, .int .i64 n, .string s])).run Try.prog w = .ok (.bool false) w := by
  rw [run_neq_struct, run_equalIn_struct w 9999 38 _ _ (by kernel_rfl) (by kernel_rfl)]
  simp [Program.fieldsOf, Op.eqFields, Try.underlying38, Try.underlying3, Try.underlying9, part, isAgg, go_sem]
end Go.Proofs.Yteihjneeiojgaaa
/-
  What the statements' rows give at their first world; how slices of bytes and numbers are opened, with what a machine bears. Conditions: none.
-/
namespace Go.Proofs.Yteihjneeiojgaaa
set_option maxRecDepth 100000
set_option linter.unusedVariables false
set_option linter.unusedSimpArgs false
open Go.ChangeShapes Go.WideShapes Go.ChangeAt Go.RowKit Go.Joins Go.Deep

theorem own : ownKnob Try.prog.godebug = none := by kernel_rfl
theorem laidOut : laidOutB Try.prog = true := by kernel_rfl
theorem cellsU8 : Try.prog.cellsOf 5 = 1 := by kernel_rfl
theorem maxLen_le : maxLen ≤ 9223372036854775807 := by unfold maxLen; omega
theorem cell_lt {w : World} {a : Addr} {v : Value} (h : w.cell? a = some v) : a.block < w.heap.size := by
  rcases Nat.lt_or_ge a.block w.heap.size with h1 | h1
  · exact h1
  · unfold World.cell? at h
    rw [Array.getElem?_eq_none h1] at h
    cases h
section
variable {H : Type} {enc : TypeId × Value → H} {W : World} {base : Nat}
theorem rdB_of_ints {a : Addr} {len cap n : Nat} {zs : List Int} (hl : len ≤ cap) (hcap : len ≤ maxLen) (hzl : zs.length = n) (hn : len ≤ n) (hx : ∀ i, i < n → W.cell? (a.add i) = some (.int .u8 (zs.getD i 0))) (hw : ∀ i, i < n → 0 ≤ zs.getD i 0 ∧ zs.getD i 0 ≤ 255) :
    ∃ l : List UInt8, RdB W 0 W.heap.size (.slice (some a) len cap) l := by
  have hml := maxLen_le
  refine ⟨(zs.take len).map fun z => UInt8.ofNat z.toNat, some a, cap, by rw [List.length_map, List.length_take]; congr 1; omega, by rw [List.length_map, List.length_take]; omega, by rw [List.length_map, List.length_take]; omega, fun k b hk => ?_⟩
  obtain ⟨hk1, hk2⟩ := List.getElem?_eq_some_iff.1 hk
  rw [List.length_map, List.length_take] at hk1
  have hc := hx k (by omega)
  have hwk := hw k (by omega)
  have hb := cell_lt hc
  rw [add_block] at hb
  refine ⟨a, rfl, Nat.zero_le _, hb, ?_⟩
  rw [hc]
  rw [List.getElem_map, List.getElem_take] at hk2
  have hg : zs.getD k 0 = zs[k]'(by omega) := by rw [List.getD_eq_getElem?_getD, List.getElem?_eq_getElem (by omega)]; rfl
  rw [hg] at hwk ⊢
  rw [← hk2, UInt8.toNat_ofNat']
  congr 2
  omega
theorem bytes_bound {es sp : List (DataW H)} {l : List UInt8} {n : Nat} (h : (es.length + sp.length) * Try.prog.bytesOf 5 ≤ reachBytes) (he : es.length = l.length) (hn : n = l.length) : n ≤ 140737488351232 := by
  rw [show Try.prog.bytesOf 5 = 1 by kernel_rfl] at h
  have : reachBytes = 140737488351232 := by decide
  omega
theorem i64_wf {n : Int} (h : (Lit.int .i64 n).wf = true) : I64 n := by
  simp only [Lit.wf, Bool.and_eq_true, decide_eq_true_eq] at h
  rw [show IntKind.i64.min = -9223372036854775808 by rfl, show IntKind.i64.max = 9223372036854775807 by rfl] at h
  exact h
end
end Go.Proofs.Yteihjneeiojgaaa
/-
  How parameters that are periods or values are opened. Conditions: none.
-/
namespace Go.Proofs.Yteihjneeiojgaaa
set_option maxRecDepth 100000
set_option linter.unusedVariables false
set_option linter.unusedSimpArgs false
open Go.ChangeShapes Go.WideShapes Go.ChangeAt Go.RowKit Go.Joins Go.Deep

theorem cellsVal : Try.prog.cellsOf 38 = 3 := by kernel_rfl
section
variable {H : Type} {enc : TypeId × Value → H} {W : World} {base : Nat}
theorem open_valI {v : Value} {d : DataW H} {p : List MemPlace} (hv : Value.okWide Try.prog W .any base 38 v) (h : DataW.Trod enc Try.prog W 0 (fun _ => true) true 38 v d p) :
    ∃ (k n : Int) (s : ByteArray), v = .agg #[.int .i64 k, .int .i64 n, .string s] ∧ I64 k ∧ I64 n ∧ s.size ≤ maxLen := by
  obtain ⟨c0, c1, c2, y0, y1, y2, m, rfl, rfl, rfl, hy0, hy1, hy2⟩ := open_agg3 Try.underlying38 (by kernel_rfl) cellsVal hv h
  obtain ⟨a, e0, rfl, wa⟩ := DataW.trod_int Try.underlying3 hy0
  obtain ⟨b, e1, rfl, wb⟩ := DataW.trod_int Try.underlying3 hy1
  obtain ⟨s, e2, rfl, ws⟩ := DataW.trod_string Try.underlying9 hy2
  simp at e0 e1 e2
  subst e0 e1 e2
  exact ⟨a, b, s, rfl, i64_wf wa, i64_wf wb, ws⟩
end
end Go.Proofs.Yteihjneeiojgaaa
/-
  How much a slice of bytes holds, as the second forms reckon it. Conditions: none.
-/
namespace Go.Proofs.Yteihjneeiojgaaa
set_option maxRecDepth 100000
set_option linter.unusedVariables false
set_option linter.unusedSimpArgs false
open Go.ChangeShapes Go.WideShapes Go.ChangeAt Go.RowKit Go.Joins Go.Deep

theorem bulk_lits {H : Type} (k : IntKind) : ∀ zs : List Int, Rows.uptoBulkAll (lits k zs : List (DataW H)) = zs.length := by
  intro zs
  induction zs with
  | nil => rfl
  | cons z zs ih =>
    show Rows.uptoBulk (DataW.lit (Lit.int k z)) + Rows.uptoBulkAll (lits k zs) = _
    rw [ih, List.length_cons]
    show 1 + _ = _
    omega
section
variable {H : Type} {enc : TypeId × Value → H} {W : World} {base : Nat}
theorem open_valU {v : Value} {d : DataW H} {p : List MemPlace} (hv : Value.okWide Try.prog W .any base 38 v) (h : DataW.Trod enc Try.prog W 0 (fun _ => true) true 38 v d p) :
    ∃ (k n : Int) (s : ByteArray), v = .agg #[.int .i64 k, .int .i64 n, .string s] ∧ I64 k ∧ I64 n ∧ s.size + 4 ≤ Rows.uptoBulk d := by
  obtain ⟨c0, c1, c2, y0, y1, y2, m, rfl, rfl, rfl, hy0, hy1, hy2⟩ := open_agg3 Try.underlying38 (by kernel_rfl) cellsVal hv h
  obtain ⟨a, e0, rfl, wa⟩ := DataW.trod_int Try.underlying3 hy0
  obtain ⟨b, e1, rfl, wb⟩ := DataW.trod_int Try.underlying3 hy1
  obtain ⟨s, e2, rfl, ws⟩ := DataW.trod_string Try.underlying9 hy2
  simp at e0 e1 e2
  subst e0 e1 e2
  refine ⟨a, b, s, rfl, i64_wf wa, i64_wf wb, ?_⟩
  simp only [Rows.uptoBulk, Rows.uptoBulkAll]
  have := Lib.size_eq s
  omega
end
end Go.Proofs.Yteihjneeiojgaaa
/-
  How parameters that are slices of values are opened, and how much they hold, as the second forms reckon it. Conditions: none.
-/
namespace Go.Proofs.Yteihjneeiojgaaa
set_option maxRecDepth 100000
set_option linter.unusedVariables false
set_option linter.unusedSimpArgs false
open Go.ChangeShapes Go.WideShapes Go.ChangeAt Go.RowKit Go.Joins Go.Deep

theorem cellsInt1 : Try.prog.cellsOf 3 = 1 := by kernel_rfl
theorem cellsStr1 : Try.prog.cellsOf 9 = 1 := by kernel_rfl
theorem addr_add1 (ad : Addr) : ad.add 1 = ⟨ad.block, ad.off + 1, none⟩ := by unfold Addr.add; simp
theorem addr_add2 (ad : Addr) : ad.add 2 = ⟨ad.block, ad.off + 2, none⟩ := by unfold Addr.add; simp
theorem bulk_vals {H : Type} (q : Nat → Vl) (D : Nat → DataW H) : ∀ l : List Nat, (∀ i ∈ l, (q i).2.2.size + 4 ≤ Rows.uptoBulk (D i)) → szL (l.map q) ≤ 3 * Rows.uptoBulkAll (l.map D) ∧ l.length ≤ Rows.uptoBulkAll (l.map D) := by
  intro l
  induction l with
  | nil => intro _; simp [szL]
  | cons i l ih =>
    intro h
    have h1 := h i (List.mem_cons_self ..)
    obtain ⟨h2, h3⟩ := ih (fun j hj => h j (List.mem_cons_of_mem _ hj))
    unfold szL at h2 ⊢
    simp only [List.map_cons, List.sum_cons, Rows.uptoBulkAll, List.length_cons]
    constructor <;> omega
section
variable {H : Type} {enc : TypeId × Value → H} {W : World} {base : Nat}
set_option maxRecDepth 100000 in
theorem open_valsU {v : Value} {d : DataW H} {p : List MemPlace} (hv : Value.okWide Try.prog W .any base 90 v) (h : DataW.Trod enc Try.prog W 0 (fun _ => true) true 90 v d p) :
    ∃ ps : List Vl, RdV W 0 W.heap.size v ps ∧ (∀ n c, v = .slice none n c → c = 0) ∧ szL ps ≤ 3 * Rows.uptoBulk d ∧ ps.length ≤ Rows.uptoBulk d := by
  obtain ⟨a0, len0, cap0, rfl⟩ := okWide_slice Try.underlying90 hv
  obtain ⟨fuel, hf⟩ := h
  rcases open_slice Try.underlying90 hf with ⟨hcs, _⟩ | ⟨a, len, cap, m, n, D, Pl, hcs, _, hl, hm, hmm, hxx, hx⟩
  · simp only [Value.cells, List.cons.injEq, and_true] at hcs
    injection hcs with e1 e2 e3
    subst e1 e2 e3
    exact ⟨[], ⟨none, 0, rfl, by simp, by simp⟩, fun n c e => by injection e with _ _ e3; exact e3.symm, by simp [szL], by simp⟩
  · simp only [Value.cells, List.cons.injEq, and_true] at hcs
    injection hcs with e1 e2 e3
    subst e1 e2 e3
    rw [if_pos rfl] at hmm
    subst hmm
    have hml := maxLen_le
    have each : ∀ i, i < len0 → ∃ q : Vl, W.cell? (a.add (i * 3)) = some (.int .i64 q.1) ∧ W.cell? ⟨(a.add (i * 3)).block, (a.add (i * 3)).off + 1, none⟩ = some (.int .i64 q.2.1) ∧ W.cell? ⟨(a.add (i * 3)).block, (a.add (i * 3)).off + 2, none⟩ = some (.string q.2.2) ∧ q.2.2.size + 4 ≤ Rows.uptoBulk (D i) := by
      intro i hi
      obtain ⟨cs', hc, ht⟩ := hx i (by omega)
      rw [cellsVal] at hc
      obtain ⟨_, hcl, hat⟩ := World.cells?_some hc
      obtain ⟨xs, n', _, hxy, _, hxl, hfl⟩ := DataW.trod_struct Try.underlying38 ht
      match xs, hxl, cs', hcl with
      | [y0, y1, y2], _, [v0, v1, v2], _ =>
        have g0 := hfl 0 _ rfl
        have g1 := hfl 1 _ rfl
        have g2 := hfl 2 _ rfl
        simp [cellsInt1, cellsStr1] at g0 g1 g2
        have e0 := hat 0 (by omega)
        have e1 := hat 1 (by omega)
        have e2 := hat 2 (by omega)
        rw [addr_add1] at e1
        rw [addr_add2] at e2
        obtain ⟨x, f0, hy0, _⟩ := DataW.trod_int Try.underlying3 g0
        obtain ⟨y, f1, hy1, _⟩ := DataW.trod_int Try.underlying3 g1
        obtain ⟨s, f2, hy2, _⟩ := DataW.trod_string Try.underlying9 g2
        simp at f0 f1 f2
        subst f0 f1 f2
        refine ⟨(x, y, s), by simpa [show (a.add (i * 3)).add 0 = a.add (i * 3) by unfold Addr.add; simp] using e0, by simpa using e1, by simpa using e2, ?_⟩
        have hD := congrArg Prod.fst hxy
        have hD2 : D i = .agg [y0.1, y1.1, y2.1] := by simpa using hD
        rw [hD2, hy0, hy1, hy2]
        simp only [Rows.uptoBulk, Rows.uptoBulkAll]
        have := Lib.size_eq s
        omega
    obtain ⟨q, hq⟩ := choose_lt each
    have hd := congrArg Prod.fst hxx
    have hd' : d = .slice ((List.range len0).map D) ((List.range (m - len0)).map fun j => D (len0 + j)) := hd
    obtain ⟨hb1, hb2⟩ := bulk_vals q D (List.range len0) (fun i hi => (hq i (List.mem_range.1 hi)).2.2.2)
    refine ⟨(List.range len0).map q, ⟨some a, _, by rw [List.length_map, List.length_range], by rw [List.length_map, List.length_range]; omega, fun k p hk => ?_⟩, (by intro n c e; cases e), ?_, ?_⟩
    · obtain ⟨hk1, hk2⟩ := List.getElem?_eq_some_iff.1 hk
      simp at hk1 hk2
      subst hk2
      obtain ⟨g0, g1, g2, _⟩ := hq k hk1
      have hb := cell_lt g0
      rw [add_block] at hb
      exact ⟨a, rfl, Nat.zero_le _, hb, g0, g1, g2⟩
    · rw [hd']
      show _ ≤ 3 * (Rows.uptoBulkAll _ + Rows.uptoBulkAll _ + 1)
      omega
    · rw [hd', List.length_map]
      show _ ≤ (Rows.uptoBulkAll _ + Rows.uptoBulkAll _ + 1)
      omega
end
end Go.Proofs.Yteihjneeiojgaaa
