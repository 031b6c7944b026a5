import Derived.Test.YthnmcpfmljibeaaGreatME
import Derived.Test.YthnmcpfmljibeaaGreatProg
import Derived.Test.YthnmcpfmljibeaaGreatMA
import Derived.WalkKit
import Derived.WalkSpells
import Derived.WalkLawsBesides
import Derived.Deep.QuietTactic
import Derived.BigQuiet
import Derived.Handy
import Derived.Lib.Hide
import Derived.Test.YthnmcpfmljibeaaGreatMB
import Derived.Shelf.Small.Bits
import Derived.Shelf.Small.Strs
import Derived.Shelf.Small.Wraps
import Derived.Shelf.Strconv.Itoa0
import Derived.Shelf.Sort.Plain
import Derived.Shelf.GgClosure.StringsIndexFunc
import Derived.Ground.GgwProg
import Derived.Shelf.GgClosure.StringsIndexFuncTop
import Derived.Shelf.GgClosure.StringsRunes
import Derived.Shelf.Bits.Mul64
import Derived.Shelf.Strings.FuncGrows
import Derived.Ground.Names2Prog
import Derived.Shelf.Slices.CompactI
import Derived.Shelf.Slices.SearchI
import Derived.Shelf.Slices.Cells
import Derived.Shelf.Slices.In.SortNone
import Derived.Test.YthnmcpfmljibeaaGreatMT
import Derived.Shelf.GgSortFunc.Insertion
import Derived.Test.YthnmcpfmljibeaaGreatUB
import Derived.Test.YthnmcpfmljibeaaGreatTA
import Derived.Deep.AppendLies
import Derived.Lib.SlicesCompact
import Derived.Laws.OwnMore
import Derived.Test.YthnmcpfmljibeaaGreatUE
import Derived.Test.YthnmcpfmljibeaaGreatQEE
import Derived.Test.YthnmcpfmljibeaaGreatPV
import Derived.Test.YthnmcpfmljibeaaGreatTI
import Derived.Laws.AppendOwnNone
import Derived.Test.YthnmcpfmljibeaaGreatPRh
import Derived.Test.YthnmcpfmljibeaaGreatPRa
import Derived.Test.YthnmcpfmljibeaaGreatPRd
import Derived.Test.YthnmcpfmljibeaaGreatPKb
/-
  Expressions in memory: trees of a bounded depth. Conditions: none.
-/
namespace Go.Proofs.YthnmcpfmljibeaaGreat
set_option maxRecDepth 100000
set_option linter.unusedVariables false
set_option linter.unusedSimpArgs false
open Go.RowKit

/-- The list e.args is no deeper than d - 1. -/
def Ex.Fin : Nat → Ex → Prop
  | 0, _ => False
  | d + 1, e => ∀ a ∈ e.args, Ex.Fin d a
theorem RdE.fin {w : World} {L B : Nat} : ∀ {d : Nat} {v : Value} {es : List Ex}, RdE w L B d v es → ∀ e ∈ es, Ex.Fin d ⟨0, 0, (0, 0, ⟨#[]⟩), ⟨#[]⟩, es⟩
  | 0, _, _, h => h.elim
  | d + 1, _, _, ⟨_, _, _, _, hc⟩ => fun _ _ => fun a ha => by
    obtain ⟨k, hk⟩ := List.mem_iff_getElem?.1 ha
    obtain ⟨ad, u, _, _, _, _, h5⟩ := hc k a hk
    cases d with
    | zero => exact h5.elim
    | succ d =>
      intro b hb
      exact h5.fin b hb b hb
end Go.Proofs.YthnmcpfmljibeaaGreat
/-
  DERIVED: THE SHELF's CONTRACTS AT THIS DUMP, IN PLAIN WORDS (tools/lay-plain.mjs out of 'TryzShelf.lean', which tools/lay-shelf.mjs wrote): THE SAME DECLARATIONS UNDER THE SAME NAMES: 'import', 'namespace', 'open', 'def', 'theorem' AND NOTHING ELSE: no command of the shelf's: FOR A HAND-IN. Each laying: the table of numbers ('.._ren') and one theorem, a field a fact of the dump's own or the kernel's comparison; each contract: ONE APPLICATION.
-/
namespace Go.Proofs
set_option linter.unusedVariables false
set_option linter.unusedSimpArgs false
open Go.Shelf
def Tryz.lays189_ren : Go.Shelf.Ren := ⟨fun | 189 => 125 | 125 => 150 | 257 => 149 | 128 => 179 | 129 => 180 | 294 => 170 | 295 => 171 | 296 => 172 | 297 => 173 | 298 => 174 | 299 => 175 | 216 => 176 | 300 => 177 | 301 => 178 | 328 => 184 | 329 => 185 | 330 => 186 | 331 => 187 | 332 => 188 | 215 => 168 | 343 => 190 | n => n, fun | 28 => 28 | 3 => 3 | 46 => 118 | 0 => 0 | 51 => 137 | 53 => 140 | 4 => 4 | 183 => 155 | 182 => 154 | 131 => 106 | 5 => 5 | 9 => 9 | 218 => 166 | 222 => 170 | 228 => 173 | 229 => 67 | n => n, fun | n => n⟩
theorem Tryz.lays189 : Go.Proofs.Lays.n189 Tryz.prog Tryz.lays189_ren := {
  mixed := by kernel_rfl
  f125 := Tryz.func150.trans (congrArg some (by kernel_rfl))
  f128 := Tryz.func179.trans (congrArg some (by kernel_rfl))
  f129 := Tryz.func180.trans (congrArg some (by kernel_rfl))
  f189 := Tryz.func125.trans (congrArg some (by kernel_rfl))
  f215 := Tryz.func168.trans (congrArg some (by kernel_rfl))
  f216 := Tryz.func176.trans (congrArg some (by kernel_rfl))
  f257 := Tryz.func149.trans (congrArg some (by kernel_rfl))
  f294 := Tryz.func170.trans (congrArg some (by kernel_rfl))
  f295 := Tryz.func171.trans (congrArg some (by kernel_rfl))
  f296 := Tryz.func172.trans (congrArg some (by kernel_rfl))
  f297 := Tryz.func173.trans (congrArg some (by kernel_rfl))
  f298 := Tryz.func174.trans (congrArg some (by kernel_rfl))
  f299 := Tryz.func175.trans (congrArg some (by kernel_rfl))
  f300 := Tryz.func177.trans (congrArg some (by kernel_rfl))
  f301 := Tryz.func178.trans (congrArg some (by kernel_rfl))
  f328 := Tryz.func184.trans (congrArg some (by kernel_rfl))
  f329 := Tryz.func185.trans (congrArg some (by kernel_rfl))
  f330 := Tryz.func186.trans (congrArg some (by kernel_rfl))
  f331 := Tryz.func187.trans (congrArg some (by kernel_rfl))
  f332 := Tryz.func188.trans (congrArg some (by kernel_rfl))
  f343 := Tryz.func190.trans (congrArg some (by kernel_rfl))
  t0 := Tryz.underlying0
  a0 := Tryz.isAgg0
  z0 := Tryz.sizeOf0
  v0 := Tryz.zeroValue0
  t3 := Tryz.underlying3
  a3 := Tryz.isAgg3
  z3 := Tryz.sizeOf3
  v3 := Tryz.zeroValue3
  t4 := Tryz.underlying4
  a4 := Tryz.isAgg4
  z4 := Tryz.sizeOf4
  v4 := Tryz.zeroValue4
  t5 := Tryz.underlying5
  a5 := Tryz.isAgg5
  z5 := Tryz.sizeOf5
  v5 := Tryz.zeroValue5
  t9 := Tryz.underlying9
  a9 := Tryz.isAgg9
  z9 := Tryz.sizeOf9
  v9 := Tryz.zeroValue9
  t28 := Tryz.underlying28
  a28 := Tryz.isAgg28
  z28 := Tryz.sizeOf28
  v28 := Tryz.zeroValue28
  t46 := Tryz.underlying118
  a46 := Tryz.isAgg118
  z46 := Tryz.sizeOf118
  v46 := Tryz.zeroValue118
  t51 := Tryz.underlying137
  a51 := Tryz.isAgg137
  z51 := Tryz.sizeOf137
  v51 := Tryz.zeroValue137
  t53 := Tryz.underlying140
  a53 := Tryz.isAgg140
  z53 := Tryz.sizeOf140
  v53 := Tryz.zeroValue140
  t131 := Tryz.underlying106
  a131 := Tryz.isAgg106
  z131 := Tryz.sizeOf106
  v131 := Tryz.zeroValue106
  t182 := Tryz.underlying154
  a182 := Tryz.isAgg154
  z182 := Tryz.sizeOf154
  v182 := Tryz.zeroValue154
  t183 := Tryz.underlying155
  a183 := Tryz.isAgg155
  z183 := Tryz.sizeOf155
  v183 := Tryz.zeroValue155
  t218 := Tryz.underlying166
  a218 := Tryz.isAgg166
  z218 := Tryz.sizeOf166
  v218 := Tryz.zeroValue166
  t222 := Tryz.underlying170
  a222 := Tryz.isAgg170
  z222 := Tryz.sizeOf170
  v222 := Tryz.zeroValue170
  t228 := Tryz.underlying173
  a228 := Tryz.isAgg173
  z228 := Tryz.sizeOf173
  v228 := Tryz.zeroValue173
  t229 := Tryz.underlying67
  a229 := Tryz.isAgg67
  z229 := Tryz.sizeOf67
  v229 := Tryz.zeroValue67 }
open Go.Sort Go.RowKit in
theorem Tryz.slices_Sort_int (blk off cap : Nat) (zs : List Int) (w : World) (hH : Holds (Value.int .i64) w blk off zs.toArray) (hblk : blk < w.heap.size) (hsz : zs.length < 4611686018427387904) :
    Calls Tryz.prog 125 #[.slice (some ⟨blk, off, none⟩) zs.length cap] w fun e w' =>
      e = .returned (.tuple #[]) ∧ ∃ n os, w' = grow (putRow (Value.int .i64) (Sort.ahead w n) blk off (zs.mergeSort fun x y => decide (x ≤ y)).toArray) os := Any.slices_Sort_int Tryz.lays189 blk off cap zs w hH hblk hsz
def Tryz.laysNm220_ren : Go.Shelf.Ren := ⟨fun | 20 => 126 | n => n, fun | 22 => 28 | 3 => 3 | 4 => 4 | 0 => 0 | n => n, fun | n => n⟩
theorem Tryz.laysNm220 : Go.Proofs.Lays2.n20 Tryz.prog Tryz.laysNm220_ren := {
  mixed := by kernel_rfl
  f20 := Tryz.func126.trans (congrArg some (by kernel_rfl))
  t0 := Tryz.underlying0
  a0 := Tryz.isAgg0
  z0 := Tryz.sizeOf0
  v0 := Tryz.zeroValue0
  t3 := Tryz.underlying3
  a3 := Tryz.isAgg3
  z3 := Tryz.sizeOf3
  v3 := Tryz.zeroValue3
  t4 := Tryz.underlying4
  a4 := Tryz.isAgg4
  z4 := Tryz.sizeOf4
  v4 := Tryz.zeroValue4
  t22 := Tryz.underlying28
  a22 := Tryz.isAgg28
  z22 := Tryz.sizeOf28
  v22 := Tryz.zeroValue28
  i3 := by kernel_rfl }
open Go.RowKit Go.Lib Go.Sort in
/-- slices.Compact at []int: "Compact replaces consecutive runs of equal elements with a single copy. This is like the uniq command found on Unix. Compact modifies the contents of the slice s and returns the modified slice, which may have a smaller length. Compact zeroes the elements between the new length and the original length. The result preserves the nilness of s.": IT RETURNS THE SLICE CUT TO 'Lib.compact zs'; ITS CELLS HOLD 'Lib.compact zs', THEN ZERO VALUES up to the old length; all else is as it was, but for the count of draws. IN THE WORDS OF slices.Sort's CONTRACT ('Holds', 'putRow'): so the everyday 'slices.Sort(xs); xs = slices.Compact(xs)' goes from the one contract to the other. It asks 'zs.length ≤ cap' (every slice's: the reslicing 's[:k]' looks at it). Length 0, nil: '.._empty'. (LAID: no walk: one application.) -/
theorem Tryz.slices_Compact_int (blk off cap : Nat) (zs : List Int) (w : World) (hH : Holds (Value.int .i64) w blk off zs.toArray) (hsz : zs.length ≤ 9223372036854775807) (hcap : zs.length ≤ cap) :
    Calls Tryz.prog 126 #[.slice (some ⟨blk, off, none⟩) zs.length cap] w fun e w' => e = .returned (.slice (some ⟨blk, off, none⟩) (Lib.compact zs).length cap) ∧ ∃ q, w' = putRow (Value.int .i64) (Sort.ahead w q) blk off (Lib.compact zs ++ List.replicate (zs.length - (Lib.compact zs).length) 0).toArray := Any.slices_Compact_int Tryz.laysNm220 blk off cap zs w hH hsz hcap
open Go.RowKit Go.Lib Go.Sort in
/-- The same at a slice of length 0, a nil one too: it comes back as it is. (LAID: no walk: one application.) -/
theorem Tryz.slices_Compact_int_empty (a : Option Addr) (cap : Nat) (w : World) :
    Calls Tryz.prog 126 #[.slice a 0 cap] w fun e w' => e = .returned (.slice a 0 cap) ∧ w' = w := Any.slices_Compact_int_empty Tryz.laysNm220 a cap w
open Go.RowKit Go.Sort in
/-- .. and plain. (LAID: no walk: one application.) -/
theorem Tryz.slices_Sort_int_none (p : Option Addr) (cap : Nat) (w : World) :
    Calls Tryz.prog 125 #[.slice p 0 cap] w fun e w' => e = .returned (.tuple #[]) ∧ w' = w := Any.slices_Sort_int_none Tryz.lays189 p cap w
end Go.Proofs
/-
  Comparing rows, the program's side, with the world that is left said exactly enough for a callback of slices.SortFunc. Conditions: lengths. (Written by mkTuG.py.)
-/
namespace Go.Proofs.YthnmcpfmljibeaaGreat
set_option maxRecDepth 100000
set_option linter.unusedVariables false
set_option linter.unusedSimpArgs false
open Go.RowKit

theorem GB.grow {w w' : World} (h : GB w w') : ∃ q os, w' = Go.Sort.grow (w.drewN q) os := by
  obtain ⟨hb, hd⟩ := h
  refine ⟨w'.drawn - w.drawn, w'.heap.extract w.heap.size w'.heap.size, ?_⟩
  have h1 : w'.heap = w.heap ++ w'.heap.extract w.heap.size w'.heap.size := by
    have hz := hb.size
    apply Array.ext
    · simp; omega
    · intro i h1 h2
      by_cases hi : i < w.heap.size
      · have h3 := hb.block i hi
        rw [Array.getElem_append_left hi]
        rw [Array.getElem?_eq_getElem h1, Array.getElem?_eq_getElem hi] at h3
        exact Option.some.inj h3
      · rw [Array.getElem_append_right (by omega), Array.getElem_extract]
        congr 1
        omega
  have e1 := hb.os; have e2 := hb.tape; have e3 := hb.output
  cases w' with
  | mk heap' tape' drawn' os' output' =>
    cases w with
    | mk heap tape drawn os output =>
      dsimp only at *
      subst e1 e2 e3
      unfold Go.Sort.grow World.drewN
      dsimp only
      congr 1
      omega
end Go.Proofs.YthnmcpfmljibeaaGreat
/-
  The columns of a tree, gathered by visit and its closure. Conditions: lengths, a bounded depth.
-/
namespace Go.Proofs.YthnmcpfmljibeaaGreat
set_option maxRecDepth 100000
set_option linter.unusedVariables false
set_option linter.unusedSimpArgs false
open Go.RowKit

theorem append_iL {ops : Array Oper} {rest : List Oper} {o : Oper} {a : Act} {Q : Exit → Act → World → Prop} (W : World) (hgd : o.guard = none) (s x : Operand)
    (ho : o.op = .call { callee := .builtin .append, args := #[s, x], argTypes := #[28, 28] }) (base : Nat) (vb : Value) (zs : List Int) (hs : a.eval s = vb)
    (hown : W.ownsRow base 3 1 vb zs.length (intsV zs)) (h0 c : Nat) (z : Int) (hx : a.eval x = .slice (some ⟨h0, 0, none⟩) 1 c) (hcell : W.cell? ⟨h0, 0, none⟩ = some (.int .i64 z))
    (hl : zs.length ≤ 1099511627776) (hbase : base ≤ W.heap.size)
    (h : ∀ g cap w', w'.ownsRow base 3 1 (.slice (some ⟨g, 0, none⟩) (zs.length + 1) cap) (zs ++ [z]).length (intsV (zs ++ [z])) → W.grownBy w' vb.ownBlock → (vb.ownBlock = some g ∨ g = W.heap.size) → wpList Tryz.prog ops Q rest (a.put o.dst (.slice (some ⟨g, 0, none⟩) (zs.length + 1) cap)) w') :
    wpList Tryz.prog ops Q (o :: rest) a W := by
  obtain ⟨i0, hi, hz0, hz1, hz2⟩ := info_partsB infoI
  refine wpList_append_lies W hgd s x 28 ho base 3 i0 (.int .i64 0) 1 8 Tryz.underlying28 hi hz0 hz1 hz2 rfl (by decide) vb zs.length (intsV zs) hs hown ⟨h0, 0, none⟩ 1 c [.int .i64 z] hx rfl
    ?_ ?_ (by decide) (by unfold maxLen; omega) (by omega) hbase W.heap.size rfl ?_
  · intro j v hj
    have hj0 : j = 0 := by have := (List.getElem?_eq_some_iff.1 hj).1; simp at this; omega
    subst hj0
    have hv : Value.int .i64 z = v := by simpa using hj
    subst hv
    exact hcell
  · intro v hv
    simp at hv
    subst hv
    rfl
  · intro g cap w' h1 h2 h3 _
    exact h g cap w' (by unfold intsV; rw [List.length_append, List.map_append]; exact h1) h2 h3
theorem ownI_far {w : World} {base n : Nat} {v : Value} {xs : List Value} (h : w.ownsRow base 3 1 v n xs) {p : Addr} (hp : p.block < base) (u : Value) : (w.setCell p u).ownsRow base 3 1 v n xs := by
  refine ⟨h.1, ?_⟩
  rcases h.2 with h0 | ⟨g, cap, cur, rfl, hb, hh, hr⟩
  · exact .inl h0
  · exact .inr ⟨g, cap, cur, rfl, hb, (Below.heap_setCell w p u g (by omega)).trans hh, hr⟩
theorem ownI_shape {w : World} {base n : Nat} {v : Value} {xs : List Value} (h : w.ownsRow base 3 1 v n xs) : ∃ Av cv, v = .slice Av n cv := by
  rcases h.2 with ⟨rfl, rfl⟩ | ⟨g, cap, cur, rfl, _⟩
  · exact ⟨_, _, rfl⟩
  · exact ⟨_, _, rfl⟩
theorem Own.grownI {w w' : World} {g : Nat} {t : TypeId} {cs : Array Value} (h : Own w g t cs) {row : Option Nat} (hg : w.grownBy w' row) (hne : row ≠ some g) : Own w' g t cs := by
  have hlt := h.lt
  unfold Own at h ⊢
  rw [hg.block g hlt (fun e => hne e.symm)]
  exact h
theorem own_two2X (W : World) (g : Nat) (hg : W.heap.size = g) (v : Value) : Own (W.alloc (.cells #[v] 3)) g 3 #[v] := by
  subst hg
  exact Own.new W _ _
/-- What the closure leaves: its list in the box g. -/
def RetL (w : World) (g base : Nat) (zs : List Int) (e : Ending) (w' : World) : Prop :=
  e = .returned (.tuple #[]) ∧ ∃ v, Own w' g 28 #[v] ∧ w'.ownsRow base 3 1 v zs.length (intsV zs) ∧ Below g w w'
set_option maxRecDepth 100000 in
set_option maxHeartbeats 6400000 in
theorem pCol1_any (e : Ex) (u : Value) (hu : ∃ A n c, u = .slice A n c) (g base : Nat) (v : Value) (zs : List Int) (W : World) (hg : Own W g 28 #[v]) (hgb : g < base) (hbz : base ≤ W.heap.size)
    (hown : W.ownsRow base 3 1 v zs.length (intsV zs)) (hl : zs.length ≤ 1099511627776) :
    Calls Tryz.prog 124 #[exV e u, .pointer (some ⟨g, 0, none⟩)] W fun e' w' => RetL W g base (zs ++ colH e) e' w' ∧ ∀ b t cs, Own W b t cs → b ≠ g → v.ownBlock ≠ some b → Own w' b t cs := by
  obtain ⟨A, nn, c, rfl⟩ := hu
  obtain ⟨op, n, ⟨k1, k2, s⟩, nm, es⟩ := e
  obtain ⟨Av, cv, rfl⟩ := ownI_shape hown
  have HG := Lib.hid hg
  have HOWN := Lib.hid hown
  have hgl := hg.lt
  have hgc := hg.cell 0
  have b1 := bel_mk W (.cells #[.int .i64 op, .int .i64 n, .int .i64 k1, .int .i64 k2, .string s, .string nm, .slice A nn c] 26)
  have HB1 := Lib.hid b1
  unfold exV
  dsimp only
  by_cases h2 : op = 2
  · subst h2
    rw [show colH ⟨2, n, (k1, k2, s), nm, es⟩ = [n] from rfl]
    have b2 := bel_mk (W.alloc (.cells #[.int .i64 2, .int .i64 n, .int .i64 k1, .int .i64 k2, .string s, .string nm, .slice A nn c] 26)) (.cells #[.int .i64 n] 3)
    have HG2 := Lib.hid ((hg.alloc (.cells #[.int .i64 2, .int .i64 n, .int .i64 k1, .int .i64 k2, .string s, .string nm, .slice A nn c] 26)).alloc (.cells #[.int .i64 n] 3))
    have HR2 := Lib.hid (own_below (own_below hown b1) b2)
    have HB2 := Lib.hid (HB1.out.trans (b2.mono HB1.out.size))
    have HCU := Lib.hid (show ((W.alloc (.cells #[.int .i64 2, .int .i64 n, .int .i64 k1, .int .i64 k2, .string s, .string nm, .slice A nn c] 26)).alloc (.cells #[.int .i64 n] 3)).cell? ⟨W.heap.size + 1, 0, none⟩ = some (.int .i64 n) from (own_two2X (W.alloc (.cells #[.int .i64 2, .int .i64 n, .int .i64 k1, .int .i64 k2, .string s, .string nm, .slice A nn c] 26)) (W.heap.size + 1) (by simp) (.int .i64 n)).cell 0)
    have HGE := Lib.hid (show ∀ b, (Value.slice Av zs.length cv).ownBlock = some b → base ≤ b from fun b hb => (hown.lt b hb).1)
    clear hown hg b1 b2
    go_enter Tryz.func124, Tryz.ntmps124
    go_wp2_with (at_builtin; refine append_iL _ rfl _ _ rfl base _ zs rfl HR2.out (W.heap.size + 1) 1 n rfl HCU.out hl (by have := HB2.out.size; omega) ?_; intro g2 cap2 w2 hr2 hg2 hv2; have hgg := HG2.out.grownI hg2 (fun e => by have := HGE.out g e; omega); have c0 := hgg.cell 0; have k0 := hgg.free 0; have HR3 := Lib.hid hr2; have HG3 := Lib.hid hg2; have HGG := Lib.hid hgg; clear hr2 hg2 hv2 hgg)
    go_end0
    refine ⟨⟨rfl, _, HGG.out.store 0 _, ownI_far HR3.out (by show g < base; exact hgb) _, ?_⟩, fun b t cs ho hne hv => (((ho.alloc _).alloc _).grownI HG3.out hv).far (p := ⟨g, 0, none⟩) hne _⟩
    exact (((HB2.out.mono (Nat.le_of_lt hgl)).grown HG3.out (by have := HB2.out.size; omega) (fun b hb => by have := HGE.out b hb; omega)).setCell (p := ⟨g, 0, none⟩) (Nat.le_refl _) _)
  · rw [show colH ⟨op, n, (k1, k2, s), nm, es⟩ = [] from if_neg h2, List.append_nil]
    have h2b : (op == 2) = false := by rw [beq_eq_false_iff_ne]; exact h2
    have HG1 := Lib.hid (hg.alloc (.cells #[.int .i64 op, .int .i64 n, .int .i64 k1, .int .i64 k2, .string s, .string nm, .slice A nn c] 26))
    have HR1 := Lib.hid (own_below hown b1)
    clear h2 hgc hown hg b1
    go_enter Tryz.func124, Tryz.ntmps124
    go_wp2
    go_end0
    exact ⟨⟨rfl, _, HG1.out, HR1.out, HB1.out.mono (Nat.le_of_lt hgl)⟩, fun b t cs ho _ _ => ho.alloc _⟩
set_option maxRecDepth 100000 in
set_option maxHeartbeats 6400000 in
theorem pVisit_any : ∀ (d : Nat) (e : Ex) (u : Value) (g base : Nat) (v : Value) (zs : List Int) (w : World) (L : Nat), RdE w L g d u e.args → Own w g 28 #[v] → g < base → base ≤ w.heap.size →
    w.ownsRow base 3 1 v zs.length (intsV zs) → (zs ++ colE d e).length ≤ 1099511627776 →
    Calls Tryz.prog 123 #[exV e u, .func (.func 124) #[] #[.pointer (some ⟨g, 0, none⟩)]] w (RetL w g base (zs ++ colE d e))
  | 0, _, _, _, _, _, _, _, _, h, _, _, _, _, _ => h.elim
  | d + 1, e, u, g, base, v, zs, w, L, h, hg, hgb, hbz, hown, hlen => by
    have IH := Lib.hid (pVisit_any d)
    obtain ⟨A, c, rfl, hl, hc⟩ := h
    have HC := Lib.hid hc
    have hsplit : zs ++ colE (d + 1) e = (zs ++ colH e) ++ e.args.flatMap (colE d) := by rw [List.append_assoc]; rfl
    rw [hsplit] at hlen ⊢
    have HLEN := Lib.hid hlen
    have hl0 : zs.length ≤ 1099511627776 := by rw [List.length_append, List.length_append] at hlen; omega
    have b1 := bel_mk w (.cells (exA e (.slice A e.args.length c)) 26)
    have HE1 := Lib.hid (Own.new w 26 (exA e (.slice A e.args.length c)))
    have HC1 := Lib.hid (pCol1_any e (.slice A e.args.length c) ⟨_, _, _, rfl⟩ g base v zs (w.alloc (.cells (exA e (.slice A e.args.length c)) 26)) (hg.alloc _) hgb (Nat.le_trans hbz b1.size) (own_below hown b1) hl0)
    have HB1 := Lib.hid (b1.mono (Nat.le_of_lt hg.lt))
    have HVN := Lib.hid (show v.ownBlock ≠ some w.heap.size from fun e2 => by have := (hown.lt _ e2).2; omega)
    have hgl := hg.lt
    have hgne : w.heap.size ≠ g := by omega
    clear hc hlen hsplit hown hg hl0 b1
    generalize colH e = h1 at *
    unfold exV exA at *
    have e0 := HE1.out.cell 0
    have e1 := HE1.out.cell 1
    have e2 := HE1.out.cell 2
    have e3 := HE1.out.cell 3
    have e4 := HE1.out.cell 4
    have e5 := HE1.out.cell 5
    have e6 := HE1.out.cell 6
    go_enter Tryz.func123, Tryz.ntmps123
    go_wp2_with fail
    with_reducible refine HC1.out.mono ?_
    rintro e' w2 ⟨⟨rfl, v2, hg2, hr2, hb2⟩, hkeep⟩
    have hx := hkeep w.heap.size _ _ HE1.out hgne HVN.out
    replace e6 := hx.cell 6
    have HB2 := Lib.hid (HB1.out.trans hb2)
    have HG2 := Lib.hid hg2
    have HR2 := Lib.hid (show w2.ownsRow base 3 1 v2 ((zs ++ h1) ++ (e.args.take 0).flatMap (colE d)).length (intsV ((zs ++ h1) ++ (e.args.take 0).flatMap (colE d))) from by simpa using hr2)
    clear hx hkeep hg2 hr2 hb2 HC1 HE1 HB1 HVN e0 e1 e2 e3 e4 e5
    go_wp2_with fail
    go_loopw [12] (fun i wr => ∃ k : Nat, k ≤ e.args.length ∧ i = .int .i64 k ∧ Hid (∃ v, Own wr g 28 #[v] ∧ wr.ownsRow base 3 1 v ((zs ++ h1) ++ (e.args.take k).flatMap (colE d)).length (intsV ((zs ++ h1) ++ (e.args.take k).flatMap (colE d)))) ∧ Below g w wr) (fun i _ => e.args.length - (intOf i).toNat)
    case atStart => exact ⟨0, Nat.zero_le _, rfl, Lib.hid ⟨v2, HG2.out, HR2.out⟩, HB2.out⟩
    case round =>
      clear HB2 HG2 HR2 e6
      obtain ⟨k, hk, rfl, HQ, hbr⟩ := hrel
      have hbz2 := hbr.size
      obtain ⟨v3, hg3, hr3⟩ := HQ.out
      by_cases hlt : k < e.args.length
      · have hki : (k : Int) < e.args.length := by omega
        obtain ⟨ad, x, rfl, _, hab, hxc, hxr⟩ := HC.out k _ (List.getElem?_eq_getElem hlt)
        have htk := flat_take (colE d) e.args k _ (List.getElem?_eq_getElem hlt)
        have hlk : ((zs ++ h1) ++ (e.args.take (k + 1)).flatMap (colE d)).length ≤ 1099511627776 := by
          have h2 := HLEN.out
          have h3 : (e.args.flatMap (colE d)).length = ((e.args.take (k + 1)).flatMap (colE d)).length + ((e.args.drop (k + 1)).flatMap (colE d)).length := by rw [← List.length_append, ← List.flatMap_append, List.take_append_drop]
          rw [List.length_append] at h2 ⊢
          omega
        rw [htk] at hlk
        generalize e.args[k] = y at *
        obtain ⟨A3, c3, rfl, hl3⟩ := hxr.slice
        obtain ⟨x0, x1, x2, x3, x4, x5, x6⟩ := hxc.below hbr (by rw [add_blk]; exact hab)
        have b2 := bel_mk wr (.cells (exA y (.slice A3 y.args.length c3)) 26)
        have HB3 := Lib.hid (hbr.trans (b2.mono (Nat.le_of_lt hg3.lt)))
        have hcall := IH.out y (.slice A3 y.args.length c3) g base v3 _ (wr.alloc (.cells (exA y (.slice A3 y.args.length c3)) 26)) L (hxr.below HB3.out) (hg3.alloc _) hgb (Nat.le_trans hbz (Nat.le_trans hbz2 b2.size)) (own_below hr3 b2) (by rw [List.append_assoc]; exact hlk)
        rw [List.append_assoc, ← htk] at hcall
        have HCL := Lib.hid hcall
        have HY := Lib.hid (Own.new wr 26 (exA y (.slice A3 y.args.length c3)))
        clear hxc hxr htk hlk b2 hg3 hr3 HQ hcall
        unfold exA at *
        have y0 := HY.out.cell 0
        have y1 := HY.out.cell 1
        have y2 := HY.out.cell 2
        have y3 := HY.out.cell 3
        have y4 := HY.out.cell 4
        have y5 := HY.out.cell 5
        have y6 := HY.out.cell 6
        go_wp2_with fail
        with_reducible refine HCL.out.mono ?_
        rintro e' w4 ⟨rfl, v4, hg4, hr4, hb4⟩
        have HQ4 := Lib.hid (show ∃ v, Own w4 g 28 #[v] ∧ w4.ownsRow base 3 1 v ((zs ++ h1) ++ (e.args.take (k + 1)).flatMap (colE d)).length (intsV ((zs ++ h1) ++ (e.args.take (k + 1)).flatMap (colE d))) from ⟨v4, hg4, hr4⟩)
        have HB4 := Lib.hid (HB3.out.trans hb4)
        clear hg4 hr4 hb4 y0 y1 y2 y3 y4 y5 y6 HCL HY
        go_wp2
        go_roundw
        case rel => exact ⟨k + 1, by omega, by go_num, HQ4, HB4.out⟩
        case measure => simp [intOf]; omega
      · have hki : ¬ (k : Int) < e.args.length := by omega
        have HF := Lib.hid (show ∃ v, Own wr g 28 #[v] ∧ wr.ownsRow base 3 1 v ((zs ++ h1) ++ e.args.flatMap (colE d)).length (intsV ((zs ++ h1) ++ e.args.flatMap (colE d))) from by
          rw [List.take_of_length_le (by omega)] at hr3
          exact ⟨v3, hg3, hr3⟩)
        clear hg3 hr3 HQ
        go_wp2
        go_end0
        obtain ⟨v5, hg5, hr5⟩ := HF.out
        exact ⟨rfl, v5, hg5, by simpa only [List.append_assoc] using hr5, hbr⟩
end Go.Proofs.YthnmcpfmljibeaaGreat
/-
  Ascending lists of numbers. Conditions: none.
-/
namespace Go.Proofs.YthnmcpfmljibeaaGreat
set_option maxRecDepth 100000
set_option linter.unusedVariables false
set_option linter.unusedSimpArgs false
open Go.Lib

theorem colS_len (l : List Int) : (colS l).length ≤ l.length := by
  unfold colS compact compactUpTo
  rw [List.length_map]
  refine Nat.le_trans (List.length_filter_le _ _) ?_
  rw [List.length_range, List.length_mergeSort]
  exact Nat.le_refl _
end Go.Proofs.YthnmcpfmljibeaaGreat
/-
  Columns of the program: the visit, sorted, its runs made single. Conditions: lengths, a bounded depth.
-/
namespace Go.Proofs.YthnmcpfmljibeaaGreat
set_option maxRecDepth 100000
set_option linter.unusedVariables false
set_option linter.unusedSimpArgs false
open Go.RowKit Go.Sort Go.Lib

theorem own_get {w : World} {base : Nat} {e : TypeId} {sz n : Nat} {v : Value} {xs : List Value} (h : w.ownsRow base e sz v n xs) : (v = .slice none 0 0 ∧ n = 0) ∨ ∃ g c, v = .slice (some ⟨g, 0, none⟩) n c ∧ base ≤ g ∧ g < w.heap.size ∧ n ≤ c ∧ ∀ j u, xs[j]? = some u → w.cell? ⟨g, j, none⟩ = some u := by
  have hlen := h.1
  rcases h.2 with ⟨rfl, h0⟩ | ⟨g, cap, cur, rfl, hb, hh, hn, hc, hs, ht⟩
  · exact .inl ⟨rfl, h0⟩
  · have hg : g < w.heap.size := by
      rcases Nat.lt_or_ge g w.heap.size with h1 | h1
      · exact h1
      · rw [Array.getElem?_eq_none h1] at hh; cases hh
    refine .inr ⟨g, cap, rfl, hb, hg, hn, fun j u hj => ?_⟩
    have e : w.cell? ⟨g, j, none⟩ = cur[j]? := cell_of_row w g j cur _ _ hh
    have hjl : j < xs.length := (List.getElem?_eq_some_iff.1 hj).1
    rw [e, ← hj, ← ht, ← Array.getElem?_toList, List.getElem?_take, if_pos (by omega)]
theorem plain_add (g j : Nat) : (⟨g, 0, none⟩ : Addr).add j = ⟨g, j, none⟩ := by
  unfold Addr.add
  split
  · rename_i h; subst h; rfl
  · simp
theorem holdsI_of_own {w : World} {base g c : Nat} {l : List Int} (h : w.ownsRow base 3 1 (.slice (some ⟨g, 0, none⟩) l.length c) l.length (intsV l)) : Holds (Value.int .i64) w g 0 l.toArray := by
  intro j hj
  have hjl : j < l.length * 1 := by simpa using hj
  have h1 := World.ownsRow.cellAt h j hjl
  have h2 := World.ownsRow.frozenAt h j
  rw [Nat.zero_add]
  refine ⟨?_, h2⟩
  have hk : j < l.length := by omega
  rw [h1]
  unfold intsV
  rw [List.getElem?_map, List.getElem?_eq_getElem hk, getElem!_pos l.toArray j (by simpa using hk)]
  simp
theorem below_putRow {α : Type} [Inhabited α] (enc : α → Value) (w : World) (blk off n : Nat) (d : Array α) (os : Array Obj) (hblk : blk < w.heap.size) : Below blk w (grow (putRow enc (Sort.ahead w n) blk off d) os) := by
  refine ⟨rfl, rfl, rfl, ?_, fun j hj => ?_⟩
  · unfold putRow mapBlock grow Sort.ahead
    show w.heap.size ≤ (w.heap.modify blk _ ++ os).size
    rw [Array.size_append, Array.size_modify]; omega
  · unfold putRow mapBlock grow Sort.ahead
    show (w.heap.modify blk _ ++ os)[j]? = _
    rw [Array.getElem?_append_left (by rw [Array.size_modify]; omega), Array.getElem?_modify, if_neg (by omega)]
theorem rdI_of_holds {w : World} {base g c : Nat} {l : List Int} {d : Array Int} (h : Holds (Value.int .i64) w g 0 d) (hl : ∀ (k : Nat) (x : Int), l[k]? = some x → d[k]? = some x) (hb : base ≤ g) (hg : g < w.heap.size) (hll : l.length ≤ 9223372036854775807) : RdI w base w.heap.size (.slice (some ⟨g, 0, none⟩) l.length c) l := by
  refine ⟨some ⟨g, 0, none⟩, c, rfl, hll, fun k x hk => ⟨⟨g, 0, none⟩, rfl, hb, hg, ?_⟩⟩
  have h1 := hl k x hk
  obtain ⟨hk1, hk2⟩ := Array.getElem?_eq_some_iff.1 h1
  have h2 := (h k hk1).1
  rw [getElem!_pos d k hk1, hk2, Nat.zero_add] at h2
  rw [plain_add]
  exact h2

theorem own_two2Y (W : World) (g : Nat) (hg : W.heap.size = g) (v : Value) : Own (W.alloc (.cells #[v] 28)) g 28 #[v] := by
  subst hg
  exact Own.new W _ _
def RetCol (w : World) (l : List Int) (e : Ending) (w' : World) : Prop := ∃ v, e = .returned v ∧ RdI w' w.heap.size w'.heap.size v l ∧ Below w.heap.size w w'
set_option maxRecDepth 100000 in
set_option maxHeartbeats 6400000 in
theorem pColumns_any (d : Nat) (e : Ex) (u : Value) (w : World) (L : Nat) (h : RdE w L w.heap.size d u e.args) (hlen : (colE d e).length ≤ 1099511627776) :
    Calls Tryz.prog 76 #[exV e u] w (RetCol w (colS (colE d e))) := by
  obtain ⟨A, c, rfl, _⟩ := h.slice
  have b1 := bel_mk w (.cells (exA e (.slice A e.args.length c)) 26)
  have b2 := bel_mk (w.alloc (.cells (exA e (.slice A e.args.length c)) 26)) (.cells #[.slice none 0 0] 28)
  have HB := Lib.hid (b1.trans (b2.mono b1.size))
  have HE := Lib.hid ((Own.new w 26 (exA e (.slice A e.args.length c))).alloc (.cells #[.slice none 0 0] 28))
  have HG := Lib.hid (own_two2Y (w.alloc (.cells (exA e (.slice A e.args.length c)) 26)) (w.heap.size + 1) (by rw [World.size_alloc]) (.slice none 0 0))
  have HV := Lib.hid (pVisit_any d e (.slice A e.args.length c) (w.heap.size + 1) (w.heap.size + 2) (.slice none 0 0) [] _ L (by have h3 := (h.step b1 (Nat.le_refl _)).below b2; simp only [World.size_alloc] at h3; exact h3) HG.out (by omega) (by simp only [World.size_alloc]; omega) (World.ownsRow_nil _ _ _ 1) (by simpa using hlen))
  have HL := Lib.hid hlen
  clear b1 b2 h hlen
  rw [List.nil_append] at HV
  generalize hzs : colE d e = zs at *
  clear hzs
  unfold exV exA at *
  have e0 := HE.out.cell 0
  have e1 := HE.out.cell 1
  have e2 := HE.out.cell 2
  have e3 := HE.out.cell 3
  have e4 := HE.out.cell 4
  have e5 := HE.out.cell 5
  have e6 := HE.out.cell 6
  go_enter Tryz.func76, Tryz.ntmps76
  go_wp2_with fail
  with_reducible refine HV.out.mono ?_
  rintro e' w2 ⟨rfl, v2, hg2, hr2, hb2⟩
  have HB2 := Lib.hid (HB.out.trans (hb2.mono (by omega)))
  clear e0 e1 e2 e3 e4 e5 e6 HV HE HG HB hb2
  have c0 := hg2.cell 0
  have HG2 := Lib.hid hg2
  have HSP := colS_len zs
  have hdef : Lib.compact (zs.mergeSort fun x y => decide (x ≤ y)) = colS zs := rfl
  have HSPh := Lib.hid hdef
  have hML : ((zs.mergeSort fun x y => decide (x ≤ y))).length = zs.length := List.length_mergeSort _
  rcases own_get hr2 with ⟨rfl, h0⟩ | ⟨g, cc, rfl, hbg, hg, hnc, _⟩
  · obtain rfl := List.eq_nil_of_length_eq_zero h0
    have hE := Lib.hid (show colS [] = [] from List.eq_nil_of_length_eq_zero (by have := colS_len []; simpa using this))
    clear hML h0 HSP hdef HSPh hr2 hg2
    go_wp2_with (first
      | (go_at_call 125; refine (Tryz.slices_Sort_int_none none 0 _).mono ?_; rintro e w3 ⟨rfl, rfl⟩)
      | (go_at_call 126; refine (Tryz.slices_Compact_int_empty none 0 _).mono ?_; rintro e w3 ⟨rfl, rfl⟩))
    go_ret
    rw [hE.out]
    exact ⟨_, rfl, ⟨none, 0, rfl, by simp, by simp⟩, HB2.out⟩
  · have hH := holdsI_of_own hr2
    have HLL := HL.out
    have hcon := Lib.hid (Tryz.slices_Sort_int g 0 cc zs w2 hH hg (by omega))
    generalize hms : (zs.mergeSort fun x y => decide (x ≤ y)) = ms at *
    clear hms
    have HH := Lib.hid hH
    have hML3 := Lib.hid (show zs.length = ms.length from hML.symm)
    have HHG := Lib.hid hg
    have HNC := Lib.hid hnc
    have HBG := Lib.hid hbg
    have HSZ := Lib.hid HSP
    clear hML hH hr2 hdef hg hnc hbg HSP hg2 HLL
    go_wp2_with fail
    with_reducible refine hcon.out.mono ?_
    rintro e w3 ⟨rfl, n2, os2, rfl⟩
    have hbS := below_putRow (Value.int .i64) w2 g 0 n2 ms.toArray os2 HHG.out
    have hH2 : Holds (Value.int .i64) (grow (putRow (Value.int .i64) (Sort.ahead w2 n2) g 0 ms.toArray) os2) g 0 ms.toArray := by
      refine holds_grow _ _ _ _ _ _ ?_ (holds_putRow _ _ _ _ zs.toArray _ HH.out (by have := hML3.out; simpa using this.symm))
      unfold putRow mapBlock Sort.ahead
      show g < (w2.heap.modify g _).size
      rw [Array.size_modify]; exact HHG.out
    have hg3 := Nat.lt_of_lt_of_le HHG.out hbS.size
    generalize grow (putRow (Value.int .i64) (Sort.ahead w2 n2) g 0 ms.toArray) os2 = w3 at *
    have hgx := HG2.out.below hbS (by have := HBG.out; omega)
    replace c0 := hgx.cell 0
    have hcon2 := Tryz.slices_Compact_int g 0 cc ms w3 hH2 (by have := hML3.out; have := HL.out; omega) (by have := hML3.out; have := HNC.out; omega)
    rw [HSPh.out, ← hML3.out] at hcon2
    have HC2 := Lib.hid hcon2
    have HH2 := Lib.hid hH2
    have HG3 := Lib.hid hg3
    have HBS := Lib.hid hbS
    clear hH2 hcon2 hg3 hbS hgx hcon HG2
    go_wp2_with fail
    with_reducible refine HC2.out.mono ?_
    rintro e w4 ⟨rfl, n3, rfl⟩
    go_wp2
    go_ret
    have hML2 := hML3.out
    have hcl := HSZ.out
    have hbC := below_putRow (Value.int .i64) w3 g 0 n3 (colS zs ++ List.replicate (zs.length - (colS zs).length) 0).toArray #[] HG3.out
    rw [grow_empty] at hbC
    have hH3 : Holds (Value.int .i64) (putRow (Value.int .i64) (Sort.ahead w3 n3) g 0 (colS zs ++ List.replicate (zs.length - (colS zs).length) 0).toArray) g 0 (colS zs ++ List.replicate (zs.length - (colS zs).length) 0).toArray :=
      holds_putRow _ _ _ _ ms.toArray _ HH2.out (by simp; omega)
    have hbg := HBG.out
    have hll := HL.out
    refine ⟨_, rfl, (rdI_of_holds (c := cc) hH3 (fun k x hk => ?_) (by omega) (Nat.lt_of_lt_of_le HG3.out hbC.size) (by omega)), HB2.out.trans ((HBS.out.mono (by omega)).trans (hbC.mono (by omega)))⟩
    have hk1 := (List.getElem?_eq_some_iff.1 hk).1
    rw [List.getElem?_toArray, List.getElem?_append_left hk1]; exact hk
end Go.Proofs.YthnmcpfmljibeaaGreat
/-
  Arguments that are expressions, opened: their numbers are ints, their columns are few. Conditions: none.
-/
namespace Go.Proofs.YthnmcpfmljibeaaGreat
set_option maxRecDepth 100000
set_option linter.unusedVariables false
set_option linter.unusedSimpArgs false
open Go.ChangeShapes Go.WideShapes Go.ChangeAt Go.RowKit Go.Joins Go.Deep

theorem colE_mk {op n : Int} {v : Vl} {nm : ByteArray} {es : List Ex} {b B : Nat} (h : b < B) (ho : ∀ m, (es.flatMap (colE m)).length ≤ b) : ∀ m, (colE m ⟨op, n, v, nm, es⟩).length ≤ B
  | 0 => Nat.zero_le _
  | m + 1 => by
    show (colH ⟨op, n, v, nm, es⟩ ++ es.flatMap (colE m)).length ≤ B
    have h1 := ho m
    have h2 : (colH ⟨op, n, v, nm, es⟩).length ≤ 1 := by unfold colH; split <;> simp
    rw [List.length_append]
    omega
theorem flat_bulk {H : Type} (D : Nat → DataW H) (q : Nat → Ex) (g : Ex → List Int) : ∀ l : List Nat, (∀ i ∈ l, (g (q i)).length ≤ Rows.uptoBulk (D i)) → ((l.map q).flatMap g).length ≤ Rows.uptoBulkAll (l.map D)
  | [], _ => by simp
  | j :: l, h => by
    have h1 := flat_bulk D q g l fun i hi => h i (List.mem_cons_of_mem _ hi)
    have h2 := h j List.mem_cons_self
    simp only [List.map_cons, Rows.uptoBulkAll, List.flatMap_cons, List.length_append]
    omega
section
variable {H : Type} {enc : TypeId × Value → H} {W : World} {base : Nat}
end
end Go.Proofs.YthnmcpfmljibeaaGreat
/-
  Rows of expressions to which one or many are appended. Conditions: lengths.
-/
namespace Go.Proofs.YthnmcpfmljibeaaGreat
set_option maxRecDepth 100000
set_option linter.unusedVariables false
set_option linter.unusedSimpArgs false
open Go.RowKit Go.Joins Go.Deep

/-- append of one expression that was just laid. -/
theorem append_ex1 {ops : Array Oper} {rest : List Oper} {o : Oper} {a : Act} {Q : Exit → Act → World → Prop} (W : World) (hgd : o.guard = none) (s x : Operand)
    (ho : o.op = .call { callee := .builtin .append, args := #[s, x], argTypes := #[24, 24] }) (base : Nat) (v : Value) (l : List ExU) (hs : a.eval s = v)
    (hown : W.ownsRow base 26 7 v l.length (flatE l)) (g c : Nat) (p : ExU) (hp : ∃ A4 n4 c4, p.2 = .slice A4 n4 c4) (hx : a.eval x = .slice (some ⟨g, 0, none⟩) 1 c)
    (hnew : ∀ j u, (exL p)[j]? = some u → W.cell? ((⟨g, 0, none⟩ : Addr).add j) = some u) (hl : l.length ≤ 1099511627776) (hbase : base ≤ W.heap.size)
    (h : ∀ g' cap w', w'.ownsRow base 26 7 (.slice (some ⟨g', 0, none⟩) (l.length + 1) cap) (l ++ [p]).length (flatE (l ++ [p])) → W.grownBy w' v.ownBlock → (v.ownBlock = some g' ∨ g' = W.heap.size) → wpList Tryz.prog ops Q rest (a.put o.dst (.slice (some ⟨g', 0, none⟩) (l.length + 1) cap)) w') :
    wpList Tryz.prog ops Q (o :: rest) a W := by
  obtain ⟨i0, hi, hz0, hz1, hz2⟩ := info_partsB infoX
  obtain ⟨A4, n4, c4, hp⟩ := hp
  refine wpList_append_lies W hgd s x 24 ho base 26 i0 (.agg #[.int .i64 0, .int .i64 0, .int .i64 0, .int .i64 0, .string ⟨#[]⟩, .string ⟨#[]⟩, .slice none 0 0]) 7 88 Tryz.underlying24 hi hz0 hz1 hz2 rfl (by decide) v l.length (flatE l) hs hown ⟨g, 0, none⟩ 1 c (exL p) hx rfl hnew (fun u hu => ?_) (by decide) (by unfold maxLen; omega) (by omega) hbase W.heap.size rfl ?_
  · simp only [exL, List.mem_cons, List.not_mem_nil, or_false, hp] at hu
    rcases hu with rfl | rfl | rfl | rfl | rfl | rfl | rfl <;> rfl
  · intro g' cap w' h1 h2 h3 h4
    refine h g' cap w' ?_ h2 h3
    rw [flatE_append, List.length_append]
    show w'.ownsRow base _ 7 _ (l.length + 1) (flatE l ++ (exL p ++ []))
    rw [List.append_nil]
    exact h1
end Go.Proofs.YthnmcpfmljibeaaGreat
/-
  Conditions, by the reference. Conditions: lengths, a bounded depth.
-/
namespace Go.Proofs.YthnmcpfmljibeaaGreat
set_option maxRecDepth 100000
set_option linter.unusedVariables false
set_option linter.unusedSimpArgs false
open Go.RowKit

/-- What the reference's Conjuncts returns reads as trees. -/
theorem rdE_J {w0 w' : World} {B L D c : Nat} {ad : Addr} {ps : List ExU} (hk : ∀ p ∈ ps, RdE w0 L B D p.2 p.1.args) (hb : Below B w0 w') (hB : B ≤ w'.heap.size) (hc : ∀ j u, (flatE ps)[j]? = some u → w'.cell? (ad.add j) = some u) (hl : ps.length ≤ 1099511627776) :
    RdE w' 0 w'.heap.size (D + 1) (.slice (some ad) ps.length c) (ps.map (·.1)) := by
  refine ⟨some ad, c, by rw [List.length_map], by rw [List.length_map]; exact hl, fun k e hk2 => ?_⟩
  rw [List.getElem?_map] at hk2
  obtain ⟨p, hp, rfl⟩ := Option.map_eq_some_iff.1 hk2
  have G := fun j hj u hu => hc (k * 7 + j) u ((flatE_get ps k p hp j hj).trans hu)
  have hadd : ∀ j, j ≠ 0 → ad.add (k * 7 + j) = ⟨(ad.add (k * 7)).block, (ad.add (k * 7)).off + j, none⟩ := fun j hj => by
    rw [add_blk]
    unfold Addr.add
    rw [if_neg (by omega)]
    split <;> simp <;> omega
  have g0 := G 0 (by decide) _ rfl
  rw [Nat.add_zero] at g0
  have hlt := World.block_lt_of_cell? w' _ g0
  rw [add_blk] at hlt
  refine ⟨ad, p.2, rfl, Nat.zero_le _, hlt, ?_, ((hk p (List.mem_of_getElem? hp)).below hb).more hB (Nat.zero_le _)⟩
  refine ⟨g0, ?_, ?_, ?_, ?_, ?_, ?_⟩
  · rw [← hadd 1 (by decide)]; exact G 1 (by decide) _ rfl
  · rw [← hadd 2 (by decide)]; exact G 2 (by decide) _ rfl
  · rw [← hadd 3 (by decide)]; exact G 3 (by decide) _ rfl
  · rw [← hadd 4 (by decide)]; exact G 4 (by decide) _ rfl
  · rw [← hadd 5 (by decide)]; exact G 5 (by decide) _ rfl
  · rw [← hadd 6 (by decide)]; exact G 6 (by decide) _ rfl
end Go.Proofs.YthnmcpfmljibeaaGreat
