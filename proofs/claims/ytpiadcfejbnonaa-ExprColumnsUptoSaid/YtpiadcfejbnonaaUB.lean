import Derived.Shelf.Small.Bits
import Derived.Shelf.Small.Strs
import Derived.Shelf.Small.Wraps
import Derived.Shelf.Strconv.Itoa0
import Derived.Shelf.Sort.Plain
import Derived.Shelf.GgClosure.StringsIndexFunc
import Derived.Ground.GgwProg
import Derived.Shelf.GgClosure.StringsIndexFuncTop
import Derived.Shelf.GgClosure.StringsRunes
import Derived.Shelf.Strings.FuncGrows
import Derived.Ground.Names2Prog
import Derived.Shelf.Slices.CompactI
import Derived.Shelf.Slices.SearchI
import Derived.Shelf.Slices.Cells
import Derived.Shelf.Slices.In.SortNone
import Derived.Test.YtpiadcfejbnonaaProg
import Derived.Test.YtpiadcfejbnonaaTA
import Derived.Test.YtpiadcfejbnonaaMT
import Derived.Deep.AppendLies
import Derived.WalkKit
import Derived.WalkSpells
import Derived.WalkLawsBesides
import Derived.Deep.QuietTactic
import Derived.BigQuiet
import Derived.Handy
import Derived.Lib.Hide
import Derived.Lib.SlicesCompact
import Derived.Laws.OwnMore
/-
  DERIVED: THE SHELF's CONTRACTS AT THIS DUMP, IN PLAIN WORDS (tools/lay-plain.mjs out of 'TryShelfC.lean', which tools/lay-shelf.mjs wrote): THE SAME DECLARATIONS UNDER THE SAME NAMES: 'import', 'namespace', 'open', 'def', 'theorem' AND NOTHING ELSE: no command of the shelf's: FOR A HAND-IN. Each laying: the table of numbers ('.._ren') and one theorem, a field a fact of the dump's own or the kernel's comparison; each contract: ONE APPLICATION.
-/
namespace Go.Proofs
open Go.Shelf
def Try.lays189_ren : Go.Shelf.Ren := ⟨fun | 189 => 67 | 125 => 104 | 257 => 103 | 128 => 127 | 129 => 128 | 294 => 118 | 295 => 119 | 296 => 120 | 297 => 121 | 298 => 122 | 299 => 123 | 216 => 124 | 300 => 125 | 301 => 126 | 328 => 136 | 329 => 137 | 330 => 138 | 331 => 139 | 332 => 140 | 215 => 141 | 343 => 144 | n => n, fun | 28 => 27 | 3 => 3 | 46 => 98 | 0 => 0 | 51 => 117 | 53 => 119 | 4 => 4 | 183 => 111 | 182 => 110 | 131 => 81 | 5 => 5 | 9 => 9 | 218 => 126 | 222 => 130 | 228 => 134 | 229 => 79 | n => n, fun | n => n⟩
theorem Try.lays189 : Go.Proofs.Lays.n189 Try.prog Try.lays189_ren := {
  mixed := by kernel_rfl
  f125 := Try.func104.trans (congrArg some (by kernel_rfl))
  f128 := Try.func127.trans (congrArg some (by kernel_rfl))
  f129 := Try.func128.trans (congrArg some (by kernel_rfl))
  f189 := Try.func67.trans (congrArg some (by kernel_rfl))
  f215 := Try.func141.trans (congrArg some (by kernel_rfl))
  f216 := Try.func124.trans (congrArg some (by kernel_rfl))
  f257 := Try.func103.trans (congrArg some (by kernel_rfl))
  f294 := Try.func118.trans (congrArg some (by kernel_rfl))
  f295 := Try.func119.trans (congrArg some (by kernel_rfl))
  f296 := Try.func120.trans (congrArg some (by kernel_rfl))
  f297 := Try.func121.trans (congrArg some (by kernel_rfl))
  f298 := Try.func122.trans (congrArg some (by kernel_rfl))
  f299 := Try.func123.trans (congrArg some (by kernel_rfl))
  f300 := Try.func125.trans (congrArg some (by kernel_rfl))
  f301 := Try.func126.trans (congrArg some (by kernel_rfl))
  f328 := Try.func136.trans (congrArg some (by kernel_rfl))
  f329 := Try.func137.trans (congrArg some (by kernel_rfl))
  f330 := Try.func138.trans (congrArg some (by kernel_rfl))
  f331 := Try.func139.trans (congrArg some (by kernel_rfl))
  f332 := Try.func140.trans (congrArg some (by kernel_rfl))
  f343 := Try.func144.trans (congrArg some (by kernel_rfl))
  t0 := Try.underlying0
  a0 := Try.isAgg0
  z0 := Try.sizeOf0
  v0 := Try.zeroValue0
  t3 := Try.underlying3
  a3 := Try.isAgg3
  z3 := Try.sizeOf3
  v3 := Try.zeroValue3
  t4 := Try.underlying4
  a4 := Try.isAgg4
  z4 := Try.sizeOf4
  v4 := Try.zeroValue4
  t5 := Try.underlying5
  a5 := Try.isAgg5
  z5 := Try.sizeOf5
  v5 := Try.zeroValue5
  t9 := Try.underlying9
  a9 := Try.isAgg9
  z9 := Try.sizeOf9
  v9 := Try.zeroValue9
  t28 := Try.underlying27
  a28 := Try.isAgg27
  z28 := Try.sizeOf27
  v28 := Try.zeroValue27
  t46 := Try.underlying98
  a46 := Try.isAgg98
  z46 := Try.sizeOf98
  v46 := Try.zeroValue98
  t51 := Try.underlying117
  a51 := Try.isAgg117
  z51 := Try.sizeOf117
  v51 := Try.zeroValue117
  t53 := Try.underlying119
  a53 := Try.isAgg119
  z53 := Try.sizeOf119
  v53 := Try.zeroValue119
  t131 := Try.underlying81
  a131 := Try.isAgg81
  z131 := Try.sizeOf81
  v131 := Try.zeroValue81
  t182 := Try.underlying110
  a182 := Try.isAgg110
  z182 := Try.sizeOf110
  v182 := Try.zeroValue110
  t183 := Try.underlying111
  a183 := Try.isAgg111
  z183 := Try.sizeOf111
  v183 := Try.zeroValue111
  t218 := Try.underlying126
  a218 := Try.isAgg126
  z218 := Try.sizeOf126
  v218 := Try.zeroValue126
  t222 := Try.underlying130
  a222 := Try.isAgg130
  z222 := Try.sizeOf130
  v222 := Try.zeroValue130
  t228 := Try.underlying134
  a228 := Try.isAgg134
  z228 := Try.sizeOf134
  v228 := Try.zeroValue134
  t229 := Try.underlying79
  a229 := Try.isAgg79
  z229 := Try.sizeOf79
  v229 := Try.zeroValue79 }
open Go.Sort Go.RowKit in
theorem Try.slices_Sort_int (blk off cap : Nat) (zs : List Int) (w : World) (hH : Holds (Value.int .i64) w blk off zs.toArray) (hblk : blk < w.heap.size) (hsz : zs.length < 4611686018427387904) :
    Calls Try.prog 67 #[.slice (some ⟨blk, off, none⟩) zs.length cap] w fun e w' =>
      e = .returned (.tuple #[]) ∧ ∃ n os, w' = grow (putRow (Value.int .i64) (Sort.ahead w n) blk off (zs.mergeSort fun x y => decide (x ≤ y)).toArray) os := Any.slices_Sort_int Try.lays189 blk off cap zs w hH hblk hsz
open Go.RowKit Go.Sort in
/-- .. and plain. (LAID: no walk: one application.) -/
theorem Try.slices_Sort_int_none (p : Option Addr) (cap : Nat) (w : World) :
    Calls Try.prog 67 #[.slice p 0 cap] w fun e w' => e = .returned (.tuple #[]) ∧ w' = w := Any.slices_Sort_int_none Try.lays189 p cap w
end Go.Proofs
/-
  The columns of a tree, gathered by visit and its closure. Conditions: lengths, a bounded depth.
-/
namespace Go.Proofs.Ytpiadcfejbnonaa
set_option linter.unusedVariables false
set_option linter.unusedSimpArgs false
set_option maxRecDepth 100000
open Go.RowKit

def colH (e : Ex) : List Int := if e.op = 2 then [e.n] else []
/-- The columns of a tree, in the order of the visit. -/
def colE : Nat → Ex → List Int
  | 0, _ => []
  | d + 1, e => colH e ++ e.args.flatMap (colE d)
theorem append_iL {ops : Array Oper} {rest : List Oper} {o : Oper} {a : Act} {Q : Exit → Act → World → Prop} (W : World) (hgd : o.guard = none) (s x : Operand)
    (ho : o.op = .call { callee := .builtin .append, args := #[s, x], argTypes := #[27, 27] }) (base : Nat) (vb : Value) (zs : List Int) (hs : a.eval s = vb)
    (hown : W.ownsRow base 3 1 vb zs.length (intsV zs)) (h0 c : Nat) (z : Int) (hx : a.eval x = .slice (some ⟨h0, 0, none⟩) 1 c) (hcell : W.cell? ⟨h0, 0, none⟩ = some (.int .i64 z))
    (hl : zs.length ≤ 1099511627776) (hbase : base ≤ W.heap.size)
    (h : ∀ g cap w', w'.ownsRow base 3 1 (.slice (some ⟨g, 0, none⟩) (zs.length + 1) cap) (zs ++ [z]).length (intsV (zs ++ [z])) → W.grownBy w' vb.ownBlock → (vb.ownBlock = some g ∨ g = W.heap.size) → wpList Try.prog ops Q rest (a.put o.dst (.slice (some ⟨g, 0, none⟩) (zs.length + 1) cap)) w') :
    wpList Try.prog ops Q (o :: rest) a W := by
  obtain ⟨i0, hi, hz0, hz1, hz2⟩ := info_partsB infoI
  refine wpList_append_lies W hgd s x 27 ho base 3 i0 (.int .i64 0) 1 8 Try.underlying27 hi hz0 hz1 hz2 rfl (by decide) vb zs.length (intsV zs) hs hown ⟨h0, 0, none⟩ 1 c [.int .i64 z] hx rfl
    ?_ ?_ (by decide) (by unfold maxLen; omega) (by omega) hbase W.heap.size rfl ?_
  · intro j v hj
    have hj0 : j = 0 := by have := (List.getElem?_eq_some_iff.1 hj).1; simp at this; omega
    subst hj0
    have hv : Value.int .i64 z = v := by simpa using hj
    subst hv
    exact hcell
  · intro v hv
    simp at hv
    subst hv
    rfl
  · intro g cap w' h1 h2 h3 _
    exact h g cap w' (by unfold intsV; rw [List.length_append, List.map_append]; exact h1) h2 h3
theorem ownI_far {w : World} {base n : Nat} {v : Value} {xs : List Value} (h : w.ownsRow base 3 1 v n xs) {p : Addr} (hp : p.block < base) (u : Value) : (w.setCell p u).ownsRow base 3 1 v n xs := by
  refine ⟨h.1, ?_⟩
  rcases h.2 with h0 | ⟨g, cap, cur, rfl, hb, hh, hr⟩
  · exact .inl h0
  · exact .inr ⟨g, cap, cur, rfl, hb, (Below.heap_setCell w p u g (by omega)).trans hh, hr⟩
theorem ownI_shape {w : World} {base n : Nat} {v : Value} {xs : List Value} (h : w.ownsRow base 3 1 v n xs) : ∃ Av cv, v = .slice Av n cv := by
  rcases h.2 with ⟨rfl, rfl⟩ | ⟨g, cap, cur, rfl, _⟩
  · exact ⟨_, _, rfl⟩
  · exact ⟨_, _, rfl⟩
theorem Own.grownI {w w' : World} {g : Nat} {t : TypeId} {cs : Array Value} (h : Own w g t cs) {row : Option Nat} (hg : w.grownBy w' row) (hne : row ≠ some g) : Own w' g t cs := by
  have hlt := h.lt
  unfold Own at h ⊢
  rw [hg.block g hlt (fun e => hne e.symm)]
  exact h
theorem own_two2X (W : World) (g : Nat) (hg : W.heap.size = g) (v : Value) : Own (W.alloc (.cells #[v] 3)) g 3 #[v] := by
  subst hg
  exact Own.new W _ _
/-- What the closure leaves: its list in the box g. -/
def RetL (w : World) (g base : Nat) (zs : List Int) (e : Ending) (w' : World) : Prop :=
  e = .returned (.tuple #[]) ∧ ∃ v, Own w' g 27 #[v] ∧ w'.ownsRow base 3 1 v zs.length (intsV zs) ∧ Below g w w'
set_option maxRecDepth 100000 in
set_option maxHeartbeats 6400000 in
theorem pCol1_any (e : Ex) (u : Value) (hu : ∃ A n c, u = .slice A n c) (g base : Nat) (v : Value) (zs : List Int) (W : World) (hg : Own W g 27 #[v]) (hgb : g < base) (hbz : base ≤ W.heap.size)
    (hown : W.ownsRow base 3 1 v zs.length (intsV zs)) (hl : zs.length ≤ 1099511627776) :
    Calls Try.prog 66 #[exV e u, .pointer (some ⟨g, 0, none⟩)] W fun e' w' => RetL W g base (zs ++ colH e) e' w' ∧ ∀ b t cs, Own W b t cs → b ≠ g → v.ownBlock ≠ some b → Own w' b t cs := by
  obtain ⟨A, nn, c, rfl⟩ := hu
  obtain ⟨op, n, ⟨k1, k2, s⟩, nm, es⟩ := e
  obtain ⟨Av, cv, rfl⟩ := ownI_shape hown
  have HG := Lib.hid hg
  have HOWN := Lib.hid hown
  have hgl := hg.lt
  have hgc := hg.cell 0
  have b1 := bel_mk W (.cells #[.int .i64 op, .int .i64 n, .int .i64 k1, .int .i64 k2, .string s, .string nm, .slice A nn c] 26)
  have HB1 := Lib.hid b1
  unfold exV
  dsimp only
  by_cases h2 : op = 2
  · subst h2
    rw [show colH ⟨2, n, (k1, k2, s), nm, es⟩ = [n] from rfl]
    have b2 := bel_mk (W.alloc (.cells #[.int .i64 2, .int .i64 n, .int .i64 k1, .int .i64 k2, .string s, .string nm, .slice A nn c] 26)) (.cells #[.int .i64 n] 3)
    have HG2 := Lib.hid ((hg.alloc (.cells #[.int .i64 2, .int .i64 n, .int .i64 k1, .int .i64 k2, .string s, .string nm, .slice A nn c] 26)).alloc (.cells #[.int .i64 n] 3))
    have HR2 := Lib.hid (own_below (own_below hown b1) b2)
    have HB2 := Lib.hid (HB1.out.trans (b2.mono HB1.out.size))
    have HCU := Lib.hid (show ((W.alloc (.cells #[.int .i64 2, .int .i64 n, .int .i64 k1, .int .i64 k2, .string s, .string nm, .slice A nn c] 26)).alloc (.cells #[.int .i64 n] 3)).cell? ⟨W.heap.size + 1, 0, none⟩ = some (.int .i64 n) from (own_two2X (W.alloc (.cells #[.int .i64 2, .int .i64 n, .int .i64 k1, .int .i64 k2, .string s, .string nm, .slice A nn c] 26)) (W.heap.size + 1) (by simp) (.int .i64 n)).cell 0)
    have HGE := Lib.hid (show ∀ b, (Value.slice Av zs.length cv).ownBlock = some b → base ≤ b from fun b hb => (hown.lt b hb).1)
    clear hown hg b1 b2
    go_enter Try.func66, Try.ntmps66
    go_wp2_with (at_builtin; refine append_iL _ rfl _ _ rfl base _ zs rfl HR2.out (W.heap.size + 1) 1 n rfl HCU.out hl (by have := HB2.out.size; omega) ?_; intro g2 cap2 w2 hr2 hg2 hv2; have hgg := HG2.out.grownI hg2 (fun e => by have := HGE.out g e; omega); have c0 := hgg.cell 0; have k0 := hgg.free 0; have HR3 := Lib.hid hr2; have HG3 := Lib.hid hg2; have HGG := Lib.hid hgg; clear hr2 hg2 hv2 hgg)
    go_end0
    refine ⟨⟨rfl, _, HGG.out.store 0 _, ownI_far HR3.out (by show g < base; exact hgb) _, ?_⟩, fun b t cs ho hne hv => (((ho.alloc _).alloc _).grownI HG3.out hv).far (p := ⟨g, 0, none⟩) hne _⟩
    exact (((HB2.out.mono (Nat.le_of_lt hgl)).grown HG3.out (by have := HB2.out.size; omega) (fun b hb => by have := HGE.out b hb; omega)).setCell (p := ⟨g, 0, none⟩) (Nat.le_refl _) _)
  · rw [show colH ⟨op, n, (k1, k2, s), nm, es⟩ = [] from if_neg h2, List.append_nil]
    have h2b : (op == 2) = false := by rw [beq_eq_false_iff_ne]; exact h2
    have HG1 := Lib.hid (hg.alloc (.cells #[.int .i64 op, .int .i64 n, .int .i64 k1, .int .i64 k2, .string s, .string nm, .slice A nn c] 26))
    have HR1 := Lib.hid (own_below hown b1)
    clear h2 hgc hown hg b1
    go_enter Try.func66, Try.ntmps66
    go_wp2
    go_end0
    exact ⟨⟨rfl, _, HG1.out, HR1.out, HB1.out.mono (Nat.le_of_lt hgl)⟩, fun b t cs ho _ _ => ho.alloc _⟩
theorem flat_take (f : Ex → List Int) (es : List Ex) (k : Nat) (y : Ex) (h : es[k]? = some y) : (es.take (k + 1)).flatMap f = (es.take k).flatMap f ++ f y := by
  rw [List.take_add_one, h, List.flatMap_append]
  simp
set_option maxRecDepth 100000 in
set_option maxHeartbeats 6400000 in
theorem pVisit_any : ∀ (d : Nat) (e : Ex) (u : Value) (g base : Nat) (v : Value) (zs : List Int) (w : World) (L : Nat), RdE w L g d u e.args → Own w g 27 #[v] → g < base → base ≤ w.heap.size →
    w.ownsRow base 3 1 v zs.length (intsV zs) → (zs ++ colE d e).length ≤ 1099511627776 →
    Calls Try.prog 65 #[exV e u, .func (.func 66) #[] #[.pointer (some ⟨g, 0, none⟩)]] w (RetL w g base (zs ++ colE d e))
  | 0, _, _, _, _, _, _, _, _, h, _, _, _, _, _ => h.elim
  | d + 1, e, u, g, base, v, zs, w, L, h, hg, hgb, hbz, hown, hlen => by
    have IH := Lib.hid (pVisit_any d)
    obtain ⟨A, c, rfl, hl, hc⟩ := h
    have HC := Lib.hid hc
    have hsplit : zs ++ colE (d + 1) e = (zs ++ colH e) ++ e.args.flatMap (colE d) := by rw [List.append_assoc]; rfl
    rw [hsplit] at hlen ⊢
    have HLEN := Lib.hid hlen
    have hl0 : zs.length ≤ 1099511627776 := by rw [List.length_append, List.length_append] at hlen; omega
    have b1 := bel_mk w (.cells (exA e (.slice A e.args.length c)) 26)
    have HE1 := Lib.hid (Own.new w 26 (exA e (.slice A e.args.length c)))
    have HC1 := Lib.hid (pCol1_any e (.slice A e.args.length c) ⟨_, _, _, rfl⟩ g base v zs (w.alloc (.cells (exA e (.slice A e.args.length c)) 26)) (hg.alloc _) hgb (Nat.le_trans hbz b1.size) (own_below hown b1) hl0)
    have HB1 := Lib.hid (b1.mono (Nat.le_of_lt hg.lt))
    have HVN := Lib.hid (show v.ownBlock ≠ some w.heap.size from fun e2 => by have := (hown.lt _ e2).2; omega)
    have hgl := hg.lt
    have hgne : w.heap.size ≠ g := by omega
    clear hc hlen hsplit hown hg hl0 b1
    generalize colH e = h1 at *
    unfold exV exA at *
    have e0 := HE1.out.cell 0
    have e1 := HE1.out.cell 1
    have e2 := HE1.out.cell 2
    have e3 := HE1.out.cell 3
    have e4 := HE1.out.cell 4
    have e5 := HE1.out.cell 5
    have e6 := HE1.out.cell 6
    go_enter Try.func65, Try.ntmps65
    go_wp2_with fail
    with_reducible refine HC1.out.mono ?_
    rintro e' w2 ⟨⟨rfl, v2, hg2, hr2, hb2⟩, hkeep⟩
    have hx := hkeep w.heap.size _ _ HE1.out hgne HVN.out
    replace e6 := hx.cell 6
    have HB2 := Lib.hid (HB1.out.trans hb2)
    have HG2 := Lib.hid hg2
    have HR2 := Lib.hid (show w2.ownsRow base 3 1 v2 ((zs ++ h1) ++ (e.args.take 0).flatMap (colE d)).length (intsV ((zs ++ h1) ++ (e.args.take 0).flatMap (colE d))) from by simpa using hr2)
    clear hx hkeep hg2 hr2 hb2 HC1 HE1 HB1 HVN e0 e1 e2 e3 e4 e5
    go_wp2_with fail
    go_loopw [12] (fun i wr => ∃ k : Nat, k ≤ e.args.length ∧ i = .int .i64 k ∧ Hid (∃ v, Own wr g 27 #[v] ∧ wr.ownsRow base 3 1 v ((zs ++ h1) ++ (e.args.take k).flatMap (colE d)).length (intsV ((zs ++ h1) ++ (e.args.take k).flatMap (colE d)))) ∧ Below g w wr) (fun i _ => e.args.length - (intOf i).toNat)
    case atStart => exact ⟨0, Nat.zero_le _, rfl, Lib.hid ⟨v2, HG2.out, HR2.out⟩, HB2.out⟩
    case round =>
      clear HB2 HG2 HR2 e6
      obtain ⟨k, hk, rfl, HQ, hbr⟩ := hrel
      have hbz2 := hbr.size
      obtain ⟨v3, hg3, hr3⟩ := HQ.out
      by_cases hlt : k < e.args.length
      · have hki : (k : Int) < e.args.length := by omega
        obtain ⟨ad, x, rfl, _, hab, hxc, hxr⟩ := HC.out k _ (List.getElem?_eq_getElem hlt)
        have htk := flat_take (colE d) e.args k _ (List.getElem?_eq_getElem hlt)
        have hlk : ((zs ++ h1) ++ (e.args.take (k + 1)).flatMap (colE d)).length ≤ 1099511627776 := by
          have h2 := HLEN.out
          have h3 : (e.args.flatMap (colE d)).length = ((e.args.take (k + 1)).flatMap (colE d)).length + ((e.args.drop (k + 1)).flatMap (colE d)).length := by rw [← List.length_append, ← List.flatMap_append, List.take_append_drop]
          rw [List.length_append] at h2 ⊢
          omega
        rw [htk] at hlk
        generalize e.args[k] = y at *
        obtain ⟨A3, c3, rfl, hl3⟩ := hxr.slice
        obtain ⟨x0, x1, x2, x3, x4, x5, x6⟩ := hxc.below hbr (by rw [add_blk]; exact hab)
        have b2 := bel_mk wr (.cells (exA y (.slice A3 y.args.length c3)) 26)
        have HB3 := Lib.hid (hbr.trans (b2.mono (Nat.le_of_lt hg3.lt)))
        have hcall := IH.out y (.slice A3 y.args.length c3) g base v3 _ (wr.alloc (.cells (exA y (.slice A3 y.args.length c3)) 26)) L (hxr.below HB3.out) (hg3.alloc _) hgb (Nat.le_trans hbz (Nat.le_trans hbz2 b2.size)) (own_below hr3 b2) (by rw [List.append_assoc]; exact hlk)
        rw [List.append_assoc, ← htk] at hcall
        have HCL := Lib.hid hcall
        have HY := Lib.hid (Own.new wr 26 (exA y (.slice A3 y.args.length c3)))
        clear hxc hxr htk hlk b2 hg3 hr3 HQ hcall
        unfold exA at *
        have y0 := HY.out.cell 0
        have y1 := HY.out.cell 1
        have y2 := HY.out.cell 2
        have y3 := HY.out.cell 3
        have y4 := HY.out.cell 4
        have y5 := HY.out.cell 5
        have y6 := HY.out.cell 6
        go_wp2_with fail
        with_reducible refine HCL.out.mono ?_
        rintro e' w4 ⟨rfl, v4, hg4, hr4, hb4⟩
        have HQ4 := Lib.hid (show ∃ v, Own w4 g 27 #[v] ∧ w4.ownsRow base 3 1 v ((zs ++ h1) ++ (e.args.take (k + 1)).flatMap (colE d)).length (intsV ((zs ++ h1) ++ (e.args.take (k + 1)).flatMap (colE d))) from ⟨v4, hg4, hr4⟩)
        have HB4 := Lib.hid (HB3.out.trans hb4)
        clear hg4 hr4 hb4 y0 y1 y2 y3 y4 y5 y6 HCL HY
        go_wp2
        go_roundw
        case rel => exact ⟨k + 1, by omega, by go_num, HQ4, HB4.out⟩
        case measure => simp [intOf]; omega
      · have hki : ¬ (k : Int) < e.args.length := by omega
        have HF := Lib.hid (show ∃ v, Own wr g 27 #[v] ∧ wr.ownsRow base 3 1 v ((zs ++ h1) ++ e.args.flatMap (colE d)).length (intsV ((zs ++ h1) ++ e.args.flatMap (colE d))) from by
          rw [List.take_of_length_le (by omega)] at hr3
          exact ⟨v3, hg3, hr3⟩)
        clear hg3 hr3 HQ
        go_wp2
        go_end0
        obtain ⟨v5, hg5, hr5⟩ := HF.out
        exact ⟨rfl, v5, hg5, by simpa only [List.append_assoc] using hr5, hbr⟩
end Go.Proofs.Ytpiadcfejbnonaa
/-
  Ascending lists of numbers. Conditions: none.
-/
namespace Go.Proofs.Ytpiadcfejbnonaa
set_option linter.unusedVariables false
set_option linter.unusedSimpArgs false
set_option maxRecDepth 100000
open Go.Lib

def AscI (l : List Int) : Prop := l.Pairwise (· < ·)
/-- Two ascending lists with the same members are the same. -/
theorem asc_ext : ∀ (a b : List Int), AscI a → AscI b → (∀ x, x ∈ a ↔ x ∈ b) → a = b
  | [], [], _, _, _ => rfl
  | [], y :: b, _, _, h => by have := (h y).2 List.mem_cons_self; simp at this
  | x :: a, [], _, _, h => by have := (h x).1 List.mem_cons_self; simp at this
  | x :: a, y :: b, ha, hb, h => by
    have ha1 := List.pairwise_cons.1 ha
    have hb1 := List.pairwise_cons.1 hb
    have hxy : x = y := by
      rcases List.mem_cons.1 ((h x).1 List.mem_cons_self) with e | hx
      · exact e
      · rcases List.mem_cons.1 ((h y).2 List.mem_cons_self) with e | hy
        · exact e.symm
        · have h1 := hb1.1 x hx
          have h2 := ha1.1 y hy
          omega
    subst hxy
    congr 1
    refine asc_ext a b ha1.2 hb1.2 fun z => ⟨fun hz => ?_, fun hz => ?_⟩
    · rcases List.mem_cons.1 ((h z).1 (List.mem_cons_of_mem _ hz)) with e | h1
      · have := ha1.1 z hz; omega
      · exact h1
    · rcases List.mem_cons.1 ((h z).2 (List.mem_cons_of_mem _ hz)) with e | h1
      · have := hb1.1 z hz; omega
      · exact h1
theorem comp_asc (d : Array Int) (h : ∀ i j, i ≤ j → j < d.size → d[i]! ≤ d[j]!) : ∀ m, m ≤ d.size → AscI (compactUpTo d m) ∧ (∀ x, x ∈ compactUpTo d m ↔ ∃ j, j < m ∧ d[j]! = x)
  | 0, _ => ⟨by simp [compactUpTo, AscI], fun x => by simp [compactUpTo]⟩
  | m + 1, hm => by
    obtain ⟨h1, h2⟩ := comp_asc d h m (by omega)
    rw [compactUpTo_succ]
    by_cases hk : keeps d m = true
    · rw [if_pos hk]
      refine ⟨List.pairwise_append.2 ⟨h1, by simp, fun a ha b hb => ?_⟩, fun x => ?_⟩
      · simp only [List.mem_singleton] at hb
        subst hb
        obtain ⟨j, hj, rfl⟩ := (h2 a).1 ha
        have hne : d[m]! ≠ d[m - 1]! := by
          unfold keeps at hk
          have := of_decide_eq_true hk
          rcases this with h0 | h0
          · omega
          · exact h0
        have ha := h j (m - 1) (by omega) (by omega)
        have hb := h (m - 1) m (by omega) (by omega)
        omega
      · rw [List.mem_append, h2 x, List.mem_singleton]
        constructor
        · rintro (⟨j, hj, e⟩ | rfl)
          · exact ⟨j, by omega, e⟩
          · exact ⟨m, by omega, rfl⟩
        · rintro ⟨j, hj, e⟩
          by_cases hjm : j = m
          · subst hjm; exact .inr e.symm
          · exact .inl ⟨j, by omega, e⟩
    · rw [if_neg hk, List.append_nil]
      refine ⟨h1, fun x => (h2 x).trans ⟨fun ⟨j, hj, e⟩ => ⟨j, by omega, e⟩, fun ⟨j, hj, e⟩ => ?_⟩⟩
      by_cases hjm : j = m
      · subst hjm
        unfold keeps at hk
        have hk2 : ¬ (j = 0 ∨ d[j]! ≠ d[j - 1]!) := fun h0 => hk (decide_eq_true h0)
        have hj0 : j ≠ 0 := fun h0 => hk2 (.inl h0)
        have he : d[j]! = d[j - 1]! := Decidable.byContradiction fun h0 => hk2 (.inr h0)
        exact ⟨j - 1, by omega, by rw [← he]; exact e⟩
      · exact ⟨j, by omega, e⟩
/-- A list sorted and its runs made single: ascending, with the same members. -/
def colS (l : List Int) : List Int := compact (l.mergeSort fun x y => decide (x ≤ y))
theorem colS_asc (l : List Int) : AscI (colS l) ∧ ∀ x, x ∈ colS l ↔ x ∈ l := by
  have hp : List.Pairwise (fun x y : Int => (decide (x ≤ y)) = true) (l.mergeSort fun x y => decide (x ≤ y)) := List.pairwise_mergeSort (fun a b c => by simp only [decide_eq_true_eq]; omega) (fun a b => by simp only [Bool.or_eq_true, decide_eq_true_eq]; omega) l
  have hm : ∀ x, x ∈ (l.mergeSort fun x y => decide (x ≤ y)) ↔ x ∈ l := fun x => List.mem_mergeSort
  unfold colS compact
  generalize (l.mergeSort fun x y => decide (x ≤ y)) = ms at *
  have hget : ∀ i (hi : i < ms.length), ms.toArray[i]! = ms[i] := fun i hi => by rw [getElem!_pos ms.toArray i (by simpa using hi)]; simp
  have h := comp_asc ms.toArray (fun i j hij hj => by
    have hj2 : j < ms.length := by simpa using hj
    rw [hget i (by omega), hget j hj2]
    by_cases e : i = j
    · subst e; exact Int.le_refl _
    · exact of_decide_eq_true (List.pairwise_iff_getElem.1 hp i j (by omega) hj2 (by omega))) ms.length (by simp)
  refine ⟨h.1, fun x => (h.2 x).trans (Iff.trans ?_ (hm x))⟩
  constructor
  · rintro ⟨j, hj, e⟩
    rw [hget j hj] at e
    exact e ▸ List.getElem_mem hj
  · intro hx
    obtain ⟨j, hj, e⟩ := List.getElem_of_mem hx
    exact ⟨j, hj, by rw [hget j hj]; exact e⟩
theorem colS_len (l : List Int) : (colS l).length ≤ l.length := by
  unfold colS compact compactUpTo
  rw [List.length_map]
  refine Nat.le_trans (List.length_filter_le _ _) ?_
  rw [List.length_range, List.length_mergeSort]
  exact Nat.le_refl _
/-- The reference's insert: the smaller ones, the number, the others without it. -/
def lowI (l : List Int) (n : Int) : List Int := l.takeWhile fun x => decide (x < n)
def insI (l : List Int) (n : Int) : List Int := lowI l n ++ n :: ((l.drop (lowI l n).length).filter fun x => decide (x ≠ n))
theorem lowI_cons (x : Int) (l : List Int) (n : Int) : lowI (x :: l) n = if x < n then x :: lowI l n else [] := by
  unfold lowI
  by_cases h : x < n
  · rw [if_pos h, List.takeWhile_cons_of_pos (by simpa using h)]
  · rw [if_neg h, List.takeWhile_cons_of_neg (by simpa using h)]
theorem insI_cons (x : Int) (l : List Int) (n : Int) : insI (x :: l) n = if x < n then x :: insI l n else n :: ((x :: l).filter fun x => decide (x ≠ n)) := by
  unfold insI
  rw [lowI_cons]
  by_cases h : x < n
  · rw [if_pos h, if_pos h]
    simp
  · rw [if_neg h, if_neg h]
    simp
theorem insI_asc : ∀ (l : List Int) (n : Int), AscI l → AscI (insI l n) ∧ (∀ x, x ∈ insI l n ↔ x ∈ l ∨ x = n)
  | [], n, _ => ⟨by simp [insI, lowI, AscI], fun x => by simp [insI, lowI]⟩
  | y :: l, n, h => by
    have h1 := List.pairwise_cons.1 h
    obtain ⟨ha, hm⟩ := insI_asc l n h1.2
    rw [insI_cons]
    by_cases hy : y < n
    · rw [if_pos hy]
      refine ⟨List.pairwise_cons.2 ⟨fun b hb => ?_, ha⟩, fun x => ?_⟩
      · rcases (hm b).1 hb with h0 | rfl
        · exact h1.1 b h0
        · exact hy
      · rw [List.mem_cons, hm x, List.mem_cons, or_assoc]
    · rw [if_neg hy]
      refine ⟨List.pairwise_cons.2 ⟨fun b hb => ?_, h.sublist List.filter_sublist⟩, fun x => ?_⟩
      · obtain ⟨hb1, hb2⟩ := List.mem_filter.1 hb
        have hb3 : b ≠ n := by simpa using hb2
        rcases List.mem_cons.1 hb1 with rfl | h0
        · omega
        · have := h1.1 b h0; omega
      · rw [List.mem_cons, List.mem_filter]
        constructor
        · rintro (rfl | ⟨h0, _⟩)
          · exact .inr rfl
          · exact .inl h0
        · rintro (h0 | rfl)
          · by_cases e : x = n
            · exact .inl e
            · exact .inr ⟨h0, by simpa using e⟩
          · exact .inl rfl
theorem insI_len (l : List Int) (n : Int) : (insI l n).length ≤ l.length + 1 := by
  unfold insI
  rw [List.length_append, List.length_cons]
  have h1 : (lowI l n).length ≤ l.length := List.Sublist.length_le (List.takeWhile_sublist _)
  have h2 : ((l.drop (lowI l n).length).filter fun x => decide (x ≠ n)).length ≤ (l.drop (lowI l n).length).length := List.length_filter_le _ _
  rw [List.length_drop] at h2
  omega
theorem foldI_asc : ∀ (m l : List Int), AscI l → AscI (m.foldl insI l) ∧ ∀ x, x ∈ m.foldl insI l ↔ x ∈ l ∨ x ∈ m
  | [], l, h => ⟨h, fun x => by simp⟩
  | y :: m, l, h => by
    obtain ⟨h1, h2⟩ := insI_asc l y h
    obtain ⟨h3, h4⟩ := foldI_asc m (insI l y) h1
    refine ⟨h3, fun x => ?_⟩
    rw [List.foldl_cons, h4 x, h2 x, List.mem_cons, or_assoc]
theorem foldI_len : ∀ (m l : List Int), (m.foldl insI l).length ≤ l.length + m.length
  | [], l => Nat.le_refl _
  | y :: m, l => by
    have h1 := foldI_len m (insI l y)
    have h2 := insI_len l y
    rw [List.foldl_cons, List.length_cons]
    omega
end Go.Proofs.Ytpiadcfejbnonaa
/-
  Columns of the program: the visit, sorted, its runs made single. Conditions: lengths, a bounded depth.
-/
namespace Go.Proofs.Ytpiadcfejbnonaa
set_option linter.unusedVariables false
set_option linter.unusedSimpArgs false
set_option maxRecDepth 100000
open Go.RowKit Go.Sort Go.Lib

theorem own_get {w : World} {base : Nat} {e : TypeId} {sz n : Nat} {v : Value} {xs : List Value} (h : w.ownsRow base e sz v n xs) : (v = .slice none 0 0 ∧ n = 0) ∨ ∃ g c, v = .slice (some ⟨g, 0, none⟩) n c ∧ base ≤ g ∧ g < w.heap.size ∧ n ≤ c ∧ ∀ j u, xs[j]? = some u → w.cell? ⟨g, j, none⟩ = some u := by
  have hlen := h.1
  rcases h.2 with ⟨rfl, h0⟩ | ⟨g, cap, cur, rfl, hb, hh, hn, hc, hs, ht⟩
  · exact .inl ⟨rfl, h0⟩
  · have hg : g < w.heap.size := by
      rcases Nat.lt_or_ge g w.heap.size with h1 | h1
      · exact h1
      · rw [Array.getElem?_eq_none h1] at hh; cases hh
    refine .inr ⟨g, cap, rfl, hb, hg, hn, fun j u hj => ?_⟩
    have e : w.cell? ⟨g, j, none⟩ = cur[j]? := cell_of_row w g j cur _ _ hh
    have hjl : j < xs.length := (List.getElem?_eq_some_iff.1 hj).1
    rw [e, ← hj, ← ht, ← Array.getElem?_toList, List.getElem?_take, if_pos (by omega)]
theorem plain_add (g j : Nat) : (⟨g, 0, none⟩ : Addr).add j = ⟨g, j, none⟩ := by
  unfold Addr.add
  split
  · rename_i h; subst h; rfl
  · simp
theorem holdsI_of_own {w : World} {base g c : Nat} {l : List Int} (h : w.ownsRow base 3 1 (.slice (some ⟨g, 0, none⟩) l.length c) l.length (intsV l)) : Holds (Value.int .i64) w g 0 l.toArray := by
  intro j hj
  have hjl : j < l.length * 1 := by simpa using hj
  have h1 := World.ownsRow.cellAt h j hjl
  have h2 := World.ownsRow.frozenAt h j
  rw [Nat.zero_add]
  refine ⟨?_, h2⟩
  have hk : j < l.length := by omega
  rw [h1]
  unfold intsV
  rw [List.getElem?_map, List.getElem?_eq_getElem hk, getElem!_pos l.toArray j (by simpa using hk)]
  simp
theorem below_putRow {α : Type} [Inhabited α] (enc : α → Value) (w : World) (blk off n : Nat) (d : Array α) (os : Array Obj) (hblk : blk < w.heap.size) : Below blk w (grow (putRow enc (Sort.ahead w n) blk off d) os) := by
  refine ⟨rfl, rfl, rfl, ?_, fun j hj => ?_⟩
  · unfold putRow mapBlock grow Sort.ahead
    show w.heap.size ≤ (w.heap.modify blk _ ++ os).size
    rw [Array.size_append, Array.size_modify]; omega
  · unfold putRow mapBlock grow Sort.ahead
    show (w.heap.modify blk _ ++ os)[j]? = _
    rw [Array.getElem?_append_left (by rw [Array.size_modify]; omega), Array.getElem?_modify, if_neg (by omega)]
theorem rdI_of_holds {w : World} {base g c : Nat} {l : List Int} {d : Array Int} (h : Holds (Value.int .i64) w g 0 d) (hl : ∀ (k : Nat) (x : Int), l[k]? = some x → d[k]? = some x) (hb : base ≤ g) (hg : g < w.heap.size) (hll : l.length ≤ 9223372036854775807) : RdI w base w.heap.size (.slice (some ⟨g, 0, none⟩) l.length c) l := by
  refine ⟨some ⟨g, 0, none⟩, c, rfl, hll, fun k x hk => ⟨⟨g, 0, none⟩, rfl, hb, hg, ?_⟩⟩
  have h1 := hl k x hk
  obtain ⟨hk1, hk2⟩ := Array.getElem?_eq_some_iff.1 h1
  have h2 := (h k hk1).1
  rw [getElem!_pos d k hk1, hk2, Nat.zero_add] at h2
  rw [plain_add]
  exact h2

theorem own_two2Y (W : World) (g : Nat) (hg : W.heap.size = g) (v : Value) : Own (W.alloc (.cells #[v] 27)) g 27 #[v] := by
  subst hg
  exact Own.new W _ _
def RetCol (w : World) (l : List Int) (e : Ending) (w' : World) : Prop := ∃ v, e = .returned v ∧ RdI w' w.heap.size w'.heap.size v l ∧ Below w.heap.size w w'
set_option maxRecDepth 100000 in
set_option maxHeartbeats 6400000 in
theorem pColumns_any (d : Nat) (e : Ex) (u : Value) (w : World) (L : Nat) (h : RdE w L w.heap.size d u e.args) (hlen : (colE d e).length ≤ 1099511627776) :
    Calls Try.prog 16 #[exV e u] w (RetCol w (colS (colE d e))) := by
  obtain ⟨A, c, rfl, _⟩ := h.slice
  have b1 := bel_mk w (.cells (exA e (.slice A e.args.length c)) 26)
  have b2 := bel_mk (w.alloc (.cells (exA e (.slice A e.args.length c)) 26)) (.cells #[.slice none 0 0] 27)
  have HB := Lib.hid (b1.trans (b2.mono b1.size))
  have HE := Lib.hid ((Own.new w 26 (exA e (.slice A e.args.length c))).alloc (.cells #[.slice none 0 0] 27))
  have HG := Lib.hid (own_two2Y (w.alloc (.cells (exA e (.slice A e.args.length c)) 26)) (w.heap.size + 1) (by rw [World.size_alloc]) (.slice none 0 0))
  have HV := Lib.hid (pVisit_any d e (.slice A e.args.length c) (w.heap.size + 1) (w.heap.size + 2) (.slice none 0 0) [] _ L (by have h3 := (h.step b1 (Nat.le_refl _)).below b2; simp only [World.size_alloc] at h3; exact h3) HG.out (by omega) (by simp only [World.size_alloc]; omega) (World.ownsRow_nil _ _ _ 1) (by simpa using hlen))
  have HL := Lib.hid hlen
  clear b1 b2 h hlen
  rw [List.nil_append] at HV
  generalize hzs : colE d e = zs at *
  clear hzs
  unfold exV exA at *
  have e0 := HE.out.cell 0
  have e1 := HE.out.cell 1
  have e2 := HE.out.cell 2
  have e3 := HE.out.cell 3
  have e4 := HE.out.cell 4
  have e5 := HE.out.cell 5
  have e6 := HE.out.cell 6
  go_enter Try.func16, Try.ntmps16
  go_wp2_with fail
  with_reducible refine HV.out.mono ?_
  rintro e' w2 ⟨rfl, v2, hg2, hr2, hb2⟩
  have HB2 := Lib.hid (HB.out.trans (hb2.mono (by omega)))
  clear e0 e1 e2 e3 e4 e5 e6 HV HE HG HB hb2
  have c0 := hg2.cell 0
  have HG2 := Lib.hid hg2
  have HSP := colS_len zs
  have hdef : Lib.compact (zs.mergeSort fun x y => decide (x ≤ y)) = colS zs := rfl
  have HSPh := Lib.hid hdef
  have hML : ((zs.mergeSort fun x y => decide (x ≤ y))).length = zs.length := List.length_mergeSort _
  rcases own_get hr2 with ⟨rfl, h0⟩ | ⟨g, cc, rfl, hbg, hg, hnc, _⟩
  · obtain rfl := List.eq_nil_of_length_eq_zero h0
    have hE := Lib.hid (show colS [] = [] from List.eq_nil_of_length_eq_zero (by have := colS_len []; simpa using this))
    clear hML h0 HSP hdef HSPh hr2 hg2
    go_wp2_with (first
      | (go_at_call 67; refine (Try.slices_Sort_int_none none 0 _).mono ?_; rintro e w3 ⟨rfl, rfl⟩)
      | (go_at_call 68; refine (Try.slices_Compact_int_empty none 0 _).mono ?_; rintro e w3 ⟨rfl, rfl⟩))
    go_ret
    rw [hE.out]
    exact ⟨_, rfl, ⟨none, 0, rfl, by simp, by simp⟩, HB2.out⟩
  · have hH := holdsI_of_own hr2
    have HLL := HL.out
    have hcon := Lib.hid (Try.slices_Sort_int g 0 cc zs w2 hH hg (by omega))
    generalize hms : (zs.mergeSort fun x y => decide (x ≤ y)) = ms at *
    clear hms
    have HH := Lib.hid hH
    have hML3 := Lib.hid (show zs.length = ms.length from hML.symm)
    have HHG := Lib.hid hg
    have HNC := Lib.hid hnc
    have HBG := Lib.hid hbg
    have HSZ := Lib.hid HSP
    clear hML hH hr2 hdef hg hnc hbg HSP hg2 HLL
    go_wp2_with fail
    with_reducible refine hcon.out.mono ?_
    rintro e w3 ⟨rfl, n2, os2, rfl⟩
    have hbS := below_putRow (Value.int .i64) w2 g 0 n2 ms.toArray os2 HHG.out
    have hH2 : Holds (Value.int .i64) (grow (putRow (Value.int .i64) (Sort.ahead w2 n2) g 0 ms.toArray) os2) g 0 ms.toArray := by
      refine holds_grow _ _ _ _ _ _ ?_ (holds_putRow _ _ _ _ zs.toArray _ HH.out (by have := hML3.out; simpa using this.symm))
      unfold putRow mapBlock Sort.ahead
      show g < (w2.heap.modify g _).size
      rw [Array.size_modify]; exact HHG.out
    have hg3 := Nat.lt_of_lt_of_le HHG.out hbS.size
    generalize grow (putRow (Value.int .i64) (Sort.ahead w2 n2) g 0 ms.toArray) os2 = w3 at *
    have hgx := HG2.out.below hbS (by have := HBG.out; omega)
    replace c0 := hgx.cell 0
    have hcon2 := Try.slices_Compact_int g 0 cc ms w3 hH2 (by have := hML3.out; have := HL.out; omega) (by have := hML3.out; have := HNC.out; omega)
    rw [HSPh.out, ← hML3.out] at hcon2
    have HC2 := Lib.hid hcon2
    have HH2 := Lib.hid hH2
    have HG3 := Lib.hid hg3
    have HBS := Lib.hid hbS
    clear hH2 hcon2 hg3 hbS hgx hcon HG2
    go_wp2_with fail
    with_reducible refine HC2.out.mono ?_
    rintro e w4 ⟨rfl, n3, rfl⟩
    go_wp2
    go_ret
    have hML2 := hML3.out
    have hcl := HSZ.out
    have hbC := below_putRow (Value.int .i64) w3 g 0 n3 (colS zs ++ List.replicate (zs.length - (colS zs).length) 0).toArray #[] HG3.out
    rw [grow_empty] at hbC
    have hH3 : Holds (Value.int .i64) (putRow (Value.int .i64) (Sort.ahead w3 n3) g 0 (colS zs ++ List.replicate (zs.length - (colS zs).length) 0).toArray) g 0 (colS zs ++ List.replicate (zs.length - (colS zs).length) 0).toArray :=
      holds_putRow _ _ _ _ ms.toArray _ HH2.out (by simp; omega)
    have hbg := HBG.out
    have hll := HL.out
    refine ⟨_, rfl, (rdI_of_holds (c := cc) hH3 (fun k x hk => ?_) (by omega) (Nat.lt_of_lt_of_le HG3.out hbC.size) (by omega)), HB2.out.trans ((HBS.out.mono (by omega)).trans (hbC.mono (by omega)))⟩
    have hk1 := (List.getElem?_eq_some_iff.1 hk).1
    rw [List.getElem?_toArray, List.getElem?_append_left hk1]; exact hk
end Go.Proofs.Ytpiadcfejbnonaa
/-
  The reference's insert: a number into an ascending list. Conditions: lengths.
-/
namespace Go.Proofs.Ytpiadcfejbnonaa
set_option linter.unusedVariables false
set_option linter.unusedSimpArgs false
set_option maxRecDepth 100000
open Go.RowKit

theorem own_empty (w : World) : (w.alloc (.cells #[] 3)).ownsRow w.heap.size 3 1 (.slice (some ⟨w.heap.size, 0, none⟩) 0 0) ([] : List Int).length (intsV []) :=
  ⟨rfl, .inr ⟨w.heap.size, 0, #[], rfl, Nat.le_refl _, heap_alloc_new w _, Nat.le_refl _, Nat.zero_le _, rfl, rfl⟩⟩
theorem lowI_take {l : List Int} {n : Int} : ∀ {k : Nat}, k ≤ (lowI l n).length → lowI (l.take k) n = l.take k := by
  induction l with
  | nil => intro k _; simp [lowI]
  | cons x l ih =>
    intro k hk
    rw [lowI_cons] at hk
    by_cases hx : x < n
    · rw [if_pos hx] at hk
      cases k with
      | zero => simp [lowI]
      | succ k =>
        rw [List.take_succ_cons, lowI_cons, if_pos hx, ih (by simpa using hk)]
    · rw [if_neg hx] at hk
      have : k = 0 := by simpa using hk
      subst this
      simp [lowI]
theorem lowI_step : ∀ {l : List Int} {n x : Int} {k : Nat}, l[k]? = some x → k ≤ (lowI l n).length → (if x < n then k + 1 ≤ (lowI l n).length else (lowI l n).length = k)
  | y :: l, n, x, 0, h, _ => by
    have e : y = x := by simpa using h
    subst e
    rw [lowI_cons]
    by_cases hx : y < n
    · rw [if_pos hx, if_pos hx]; simp
    · rw [if_neg hx, if_neg hx]; rfl
  | y :: l, n, x, k + 1, h, hk => by
    have h2 : l[k]? = some x := by simpa using h
    rw [lowI_cons] at hk ⊢
    by_cases hy : y < n
    · rw [if_pos hy] at hk ⊢
      have h3 := lowI_step h2 (by simpa using hk)
      by_cases hx : x < n
      · rw [if_pos hx] at h3 ⊢; simpa using h3
      · rw [if_neg hx] at h3 ⊢; simpa using h3
    · rw [if_neg hy] at hk
      simp at hk
theorem lowI_le (l : List Int) (n : Int) : (lowI l n).length ≤ l.length := List.Sublist.length_le (List.takeWhile_sublist _)
theorem lowI_eq (l : List Int) (n : Int) : lowI l n = l.take (lowI l n).length := by
  have h : lowI l n <+: l := List.takeWhile_prefix _
  exact List.prefix_iff_eq_take.1 h
/-- What stands after the first k elements, k not below the smaller ones' number. -/
def insK (l : List Int) (n : Int) (k : Nat) : List Int := lowI l n ++ n :: (((l.take k).drop (lowI l n).length).filter fun x => decide (x ≠ n))
theorem insK_full (l : List Int) (n : Int) (k : Nat) (h : l.length ≤ k) : insK l n k = insI l n := by
  unfold insK insI
  rw [List.take_of_length_le h]
theorem insK_first (l : List Int) (n : Int) : insK l n (lowI l n).length = lowI l n ++ [n] := by
  unfold insK
  rw [List.drop_of_length_le (by rw [List.length_take]; omega)]
  rfl
theorem insK_step {l : List Int} {n x : Int} {k : Nat} (h : l[k]? = some x) (hk : (lowI l n).length ≤ k) : insK l n (k + 1) = if x = n then insK l n k else insK l n k ++ [x] := by
  unfold insK
  have hkl := (List.getElem?_eq_some_iff.1 h).1
  rw [List.take_add_one, h, List.drop_append_of_le_length (by rw [List.length_take]; omega), List.filter_append]
  by_cases e : x = n
  · rw [if_pos e]
    simp [e]
  · rw [if_neg e]
    simp [e]
theorem insK_len (l : List Int) (n : Int) (k : Nat) (hk : (lowI l n).length ≤ k) (hkl : k ≤ l.length) : (insK l n k).length ≤ k + 1 := by
  unfold insK
  rw [List.length_append, List.length_cons]
  have h := List.length_filter_le (fun x => decide (x ≠ n)) ((l.take k).drop (lowI l n).length)
  rw [List.length_drop, List.length_take] at h
  omega
def RetIn (w : World) (l : List Int) (e : Ending) (w' : World) : Prop := ∃ v, e = .returned v ∧ w'.ownsRow w.heap.size 3 1 v l.length (intsV l) ∧ Below w.heap.size w w'
set_option maxRecDepth 100000 in
set_option maxHeartbeats 6400000 in
theorem rInsert_any (l : List Int) (n : Int) (v : Value) (w : World) (L : Nat) (hv : RdI w L w.heap.size v l) (hlen : l.length ≤ 1099511627775) :
    Calls Try.prog 69 #[v, .int .i64 n] w (RetIn w (insI l n)) := by
  obtain ⟨A, c, rfl, hl1, hc1⟩ := hv
  have HC := Lib.hid hc1
  have HLE := Lib.hid (lowI_le l n)
  clear hc1
  have HW := Lib.hid (own_empty w)
  have HB := Lib.hid (bel_mk w (.cells #[] 3))
  go_enter Try.func69, Try.ntmps69
  go_wp2_with fail
  go_loopw [5, 6] (fun vb i wr => ∃ k : Nat, k ≤ (lowI l n).length ∧ i = .int .i64 k ∧ Hid (wr.ownsRow w.heap.size 3 1 vb (l.take k).length (intsV (l.take k))) ∧ Below w.heap.size w wr) (fun _ i _ => l.length - (intOf i).toNat)
  case atStart => exact ⟨0, Nat.zero_le _, rfl, HW, HB.out⟩
  case round =>
    clear HW HB
    obtain ⟨k, hk, rfl, HR, hbr⟩ := hrel
    have hbz := hbr.size
    have hkl : k ≤ l.length := Nat.le_trans hk HLE.out
    by_cases hlt : k < l.length
    · have hki : (k : Int) < l.length := by omega
      have hx := List.getElem?_eq_getElem hlt
      obtain ⟨ad, rfl, _, hab, a0⟩ := HC.out k _ hx
      have htk : l.take (k + 1) = l.take k ++ [l[k]] := by rw [List.take_add_one, hx]; rfl
      have hst := lowI_step (n := n) hx hk
      have HX := Lib.hid hx
      generalize l[k] = q at *
      have e1 := (hbr.cell (p := ad.add k) (by rw [add_block]; exact hab)).trans a0
      have hlk : (l.take k).length = k := by rw [List.length_take]; omega
      have HTK := Lib.hid htk
      clear a0 htk hx
      by_cases hq : q < n
      · rw [if_pos hq] at hst
        have b2 := bel_mk wr (.cells #[.int .i64 q] 3)
        have HR2 := Lib.hid (own_below HR.out b2)
        have HCU := Lib.hid (show (wr.alloc (.cells #[.int .i64 q] 3)).cell? ⟨wr.heap.size, 0, none⟩ = some (.int .i64 q) from (Own.new wr 3 #[.int .i64 q]).cell 0)
        have HB2 := Lib.hid (hbr.trans (b2.mono hbz))
        have HLZ := Lib.hid (show (l.take k).length ≤ 1099511627776 by omega)
        have HST := Lib.hid hst
        clear b2 hlk hst
        go_wp2_with (at_builtin; refine append_i _ rfl _ _ rfl w.heap.size _ (l.take k) rfl HR2.out wr.heap.size 1 q rfl HCU.out HLZ.out HB2.out.size ?_; intro v3 w3 hR3 hb3)
        rw [← HTK.out] at hR3
        have B3 := HB2.out.trans (hb3.mono (Nat.le_refl _))
        go_roundw
        case rel => exact ⟨k + 1, HST.out, by go_num, Lib.hid hR3, B3⟩
        case measure => simp [intOf]; omega
      · rw [if_neg hq] at hst
        have HST := Lib.hid hst
        have h0 := HR.out
        rw [← hst, ← lowI_eq] at h0
        have b2 := bel_mk wr (.cells #[.int .i64 n] 3)
        have HR2 := Lib.hid (own_below h0 b2)
        have HCU := Lib.hid (show (wr.alloc (.cells #[.int .i64 n] 3)).cell? ⟨wr.heap.size, 0, none⟩ = some (.int .i64 n) from (Own.new wr 3 #[.int .i64 n]).cell 0)
        have HB2 := Lib.hid (hbr.trans (b2.mono hbz))
        have HLZ := Lib.hid (show (lowI l n).length ≤ 1099511627776 by omega)
        clear b2 hst h0 hlk
        go_wp2_with (at_builtin; refine append_i _ rfl _ _ rfl w.heap.size _ (lowI l n) rfl HR2.out wr.heap.size 1 n rfl HCU.out HLZ.out HB2.out.size ?_; intro v3 w3 hR3 hb3)
        have B3 := Lib.hid (HB2.out.trans (hb3.mono (Nat.le_refl _)))
        have hR4 : w3.ownsRow w.heap.size 3 1 v3 (insK l n k).length (intsV (insK l n k)) := by rw [← HST.out, insK_first]; exact hR3
        have HR4 := Lib.hid hR4
        have hk0 : k ≤ l.length := hkl
        clear hR3 hR4 hb3 hbr HR2 HCU HB2 HLZ HR hbz e1
        go_loopw [5, 6] (fun vb i wr => ∃ m : Nat, k ≤ m ∧ m ≤ l.length ∧ i = .int .i64 m ∧ Hid (wr.ownsRow w.heap.size 3 1 vb (insK l n m).length (intsV (insK l n m))) ∧ Below w.heap.size w wr) (fun _ i _ => l.length - (intOf i).toNat)
        case atStart => exact ⟨k, Nat.le_refl _, hk0, rfl, HR4, B3.out⟩
        case round =>
          clear HR4 B3
          obtain ⟨m, hkm, hm, rfl, HR, hbr⟩ := hrel
          have hbz := hbr.size
          by_cases hlt2 : m < l.length
          · have hmi : (m : Int) < l.length := by omega
            have hx := List.getElem?_eq_getElem hlt2
            obtain ⟨ad2, hA, _, hab2, a0⟩ := HC.out m _ hx
            injection hA.symm with hA; subst hA
            have hst := insK_step hx (n := n) (by have := HST.out; omega)
            generalize l[m] = q2 at *
            have e1 := (hbr.cell (p := ad2.add m) (by rw [add_block]; exact hab2)).trans a0
            have hlk := insK_len l n m (by have := HST.out; omega) hm
            clear a0 hx
            by_cases hq2 : q2 = n
            · rw [if_pos hq2] at hst
              have hqe : (q2 == n) = true := by rw [beq_iff_eq]; exact hq2
              have hR3 := HR.out
              rw [← hst] at hR3
              have HR3 := Lib.hid hR3
              clear hst hq2 hR3 HR
              go_wp2
              go_roundw
              case rel => exact ⟨m + 1, by omega, by omega, by go_num, HR3, hbr⟩
              case measure => simp [intOf]; omega
            · rw [if_neg hq2] at hst
              have hqe : (q2 == n) = false := by rw [beq_eq_false_iff_ne]; exact hq2
              have b2 := bel_mk wr (.cells #[.int .i64 q2] 3)
              have HR2 := Lib.hid (own_below HR.out b2)
              have HCU := Lib.hid (show (wr.alloc (.cells #[.int .i64 q2] 3)).cell? ⟨wr.heap.size, 0, none⟩ = some (.int .i64 q2) from (Own.new wr 3 #[.int .i64 q2]).cell 0)
              have HB2 := Lib.hid (hbr.trans (b2.mono hbz))
              have HLZ := Lib.hid (show (insK l n m).length ≤ 1099511627776 by omega)
              have HTK := Lib.hid hst
              clear b2 hst hlk hq2
              go_wp2_with (at_builtin; refine append_i _ rfl _ _ rfl w.heap.size _ (insK l n m) rfl HR2.out wr.heap.size 1 q2 rfl HCU.out HLZ.out HB2.out.size ?_; intro v3 w3 hR3 hb3)
              rw [← HTK.out] at hR3
              have B3 := HB2.out.trans (hb3.mono (Nat.le_refl _))
              go_roundw
              case rel => exact ⟨m + 1, by omega, by omega, by go_num, Lib.hid hR3, B3⟩
              case measure => simp [intOf]; omega
          · have hmi : ¬ (m : Int) < l.length := by omega
            have hR := HR.out
            rw [insK_full l n m (by omega)] at hR
            have HF := Lib.hid hR
            clear hR HR
            go_wp2
            go_ret
            exact ⟨_, rfl, HF.out, hbr⟩
    · have hki : ¬ (k : Int) < l.length := by omega
      have hst : (lowI l n).length = k := by have := HLE.out; omega
      have HST := Lib.hid hst
      have h0 := HR.out
      rw [← hst, ← lowI_eq] at h0
      have b2 := bel_mk wr (.cells #[.int .i64 n] 3)
      have HR2 := Lib.hid (own_below h0 b2)
      have HCU := Lib.hid (show (wr.alloc (.cells #[.int .i64 n] 3)).cell? ⟨wr.heap.size, 0, none⟩ = some (.int .i64 n) from (Own.new wr 3 #[.int .i64 n]).cell 0)
      have HB2 := Lib.hid (hbr.trans (b2.mono hbz))
      have HLZ := Lib.hid (show (lowI l n).length ≤ 1099511627776 by omega)
      clear b2 hst h0
      go_wp2_with (at_builtin; refine append_i _ rfl _ _ rfl w.heap.size _ (lowI l n) rfl HR2.out wr.heap.size 1 n rfl HCU.out HLZ.out HB2.out.size ?_; intro v3 w3 hR3 hb3)
      have B3 := Lib.hid (HB2.out.trans (hb3.mono (Nat.le_refl _)))
      have hR4 : w3.ownsRow w.heap.size 3 1 v3 (insK l n k).length (intsV (insK l n k)) := by rw [← HST.out, insK_first]; exact hR3
      have HR4 := Lib.hid hR4
      have hk0 : k ≤ l.length := hkl
      clear hR3 hR4 hb3 hbr HR2 HCU HB2 HLZ HR hbz hlt hki
      go_loopw [5, 6] (fun vb i wr => ∃ m : Nat, k ≤ m ∧ m ≤ l.length ∧ i = .int .i64 m ∧ Hid (wr.ownsRow w.heap.size 3 1 vb (insK l n m).length (intsV (insK l n m))) ∧ Below w.heap.size w wr) (fun _ i _ => l.length - (intOf i).toNat)
      case atStart => exact ⟨k, Nat.le_refl _, hk0, rfl, HR4, B3.out⟩
      case round =>
        clear HR4 B3
        obtain ⟨m, hkm, hm, rfl, HR, hbr⟩ := hrel
        have hbz := hbr.size
        by_cases hlt2 : m < l.length
        · have hmi : (m : Int) < l.length := by omega
          have hx := List.getElem?_eq_getElem hlt2
          obtain ⟨ad2, hA, _, hab2, a0⟩ := HC.out m _ hx
          subst hA
          have hst := insK_step hx (n := n) (by have := HST.out; omega)
          generalize l[m] = q2 at *
          have e1 := (hbr.cell (p := ad2.add m) (by rw [add_block]; exact hab2)).trans a0
          have hlk := insK_len l n m (by have := HST.out; omega) hm
          clear a0 hx
          by_cases hq2 : q2 = n
          · rw [if_pos hq2] at hst
            have hqe : (q2 == n) = true := by rw [beq_iff_eq]; exact hq2
            have hR3 := HR.out
            rw [← hst] at hR3
            have HR3 := Lib.hid hR3
            clear hst hq2 hR3 HR
            go_wp2
            go_roundw
            case rel => exact ⟨m + 1, by omega, by omega, by go_num, HR3, hbr⟩
            case measure => simp [intOf]; omega
          · rw [if_neg hq2] at hst
            have hqe : (q2 == n) = false := by rw [beq_eq_false_iff_ne]; exact hq2
            have b2 := bel_mk wr (.cells #[.int .i64 q2] 3)
            have HR2 := Lib.hid (own_below HR.out b2)
            have HCU := Lib.hid (show (wr.alloc (.cells #[.int .i64 q2] 3)).cell? ⟨wr.heap.size, 0, none⟩ = some (.int .i64 q2) from (Own.new wr 3 #[.int .i64 q2]).cell 0)
            have HB2 := Lib.hid (hbr.trans (b2.mono hbz))
            have HLZ := Lib.hid (show (insK l n m).length ≤ 1099511627776 by omega)
            have HTK := Lib.hid hst
            clear b2 hst hlk hq2
            go_wp2_with (at_builtin; refine append_i _ rfl _ _ rfl w.heap.size _ (insK l n m) rfl HR2.out wr.heap.size 1 q2 rfl HCU.out HLZ.out HB2.out.size ?_; intro v3 w3 hR3 hb3)
            rw [← HTK.out] at hR3
            have B3 := HB2.out.trans (hb3.mono (Nat.le_refl _))
            go_roundw
            case rel => exact ⟨m + 1, by omega, by omega, by go_num, Lib.hid hR3, B3⟩
            case measure => simp [intOf]; omega
        · have hmi : ¬ (m : Int) < l.length := by omega
          have hR := HR.out
          rw [insK_full l n m (by omega)] at hR
          have HF := Lib.hid hR
          clear hR HR
          go_wp2
          go_ret
          exact ⟨_, rfl, HF.out, hbr⟩
end Go.Proofs.Ytpiadcfejbnonaa
