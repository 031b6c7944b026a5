import Derived.Test.YtbpjgipldddcfaaGN
import Derived.WalkKit
import Derived.WalkSpells
import Derived.WalkLawsBesides
import Derived.Deep.QuietTactic
import Derived.BigQuiet
import Derived.Handy
import Derived.Lib.Hide
/-
  Appending a piece; sorting pieces by an instant, as the program does. Conditions: at most a million pieces.
-/
namespace Go.Proofs.Ytbpjgipldddcfaa
set_option maxRecDepth 100000
set_option linter.unusedVariables false
set_option linter.unusedSimpArgs false
open Go.RowKit Go.Sort Go.Lib

theorem infoPc : (Try.prog.info? 44).map (fun i => (i.zero, i.size, i.bytes)) = some (some (.agg #[.int .i64 0, .int .i64 0, .int .i64 0]), 3, 24) := by kernel_rfl
theorem append_pc {ops : Array Oper} {rest : List Oper} {o : Oper} {a : Act} {Q : Exit → Act → World → Prop} (W : World) (hgd : o.guard = none) (s x : Operand)
    (ho : o.op = .call { callee := .builtin .append, args := #[s, x], argTypes := #[41, 41] }) (base : Nat) (v : Value) (l : List Pc) (hs : a.eval s = v)
    (hown : W.ownsRow base 44 3 v l.length (flatB l)) (ad : Addr) (p : Pc) (hx : a.eval x = .slice (some ad) 1 1)
    (hnew : ∀ j u, (encB p)[j]? = some u → W.cell? (ad.add j) = some u) (hl : l.length ≤ 1000000) (hbase : base ≤ W.heap.size) (H : Nat) (hH : W.heap.size = H)
    (h : ∀ g cap w', w'.ownsRow base 44 3 (.slice (some ⟨g, 0, none⟩) (l.length + 1) cap) (l ++ [p]).length (flatB (l ++ [p])) → Below base W w' → W.grownBy w' v.ownBlock → (v.ownBlock = some g ∨ g = H) → g < w'.heap.size → wpList Try.prog ops Q rest (a.put o.dst (.slice (some ⟨g, 0, none⟩) (l.length + 1) cap)) w') :
    wpList Try.prog ops Q (o :: rest) a W := by
  obtain ⟨i0, hi, hz0, hz1, hz2⟩ := info_parts infoPc
  refine wpList_append_lies _ hgd s x 41 ho base 44 i0 (.agg #[.int .i64 0, .int .i64 0, .int .i64 0]) 3 24 Try.underlying41 hi hz0 hz1 hz2 rfl (by decide) v l.length (flatB l) hs hown ad 1 1 (encB p) hx rfl
    hnew (fun u hu => by simp [encB] at hu; rcases hu with rfl | rfl | rfl <;> rfl) (by decide) (by unfold maxLen; omega) (by omega) hbase H hH ?_
  intro g cap w' h1 h2 h3 h4
  have e : flatB (l ++ [p]) = flatB l ++ encB p := by rw [flatB_append]; simp [flatB]
  refine h g cap w' (by rw [e, List.length_append]; exact h1) ((Below.refl _ _).grown h2 hbase fun k hk => (hown.lt k hk).1) h2 h3 h4
theorem own_nilC (W : World) (base : Nat) : W.ownsRow base 44 3 (.slice none 0 0) ([] : List Pc).length (flatB []) := World.ownsRow_nil W base _ 3
theorem RdB.of_ownC {w : World} {base : Nat} {v : Value} {l : List Pc} (h : w.ownsRow base 44 3 v l.length (flatB l)) (hl : l.length ≤ 9223372036854775807) : RdB w base w.heap.size v l := by
  rcases own_get h with ⟨rfl, h0⟩ | ⟨g, c, rfl, hb, hg, _, hc⟩
  · obtain rfl := List.eq_nil_of_length_eq_zero h0
    exact ⟨none, 0, rfl, by simp, by simp⟩
  · refine ⟨_, c, rfl, hl, fun k p hk => ⟨_, rfl, hb, hg, ?_⟩⟩
    obtain ⟨h1, h2, h3⟩ := flatB_get l k p hk
    rw [plain_add, plain_add, plain_add]
    exact ⟨hc _ _ h1, hc _ _ h2, hc _ _ h3⟩

/-- A world behind W that has drawn and laid blocks, and nothing else. -/
structure AftG (W : World) where
  w : World
  h : ∃ q os, w = grow (W.drewN q) os
theorem aftG_refl (W : World) : ∃ q os, W = grow (W.drewN q) os := ⟨0, #[], by rw [grow_empty]; rfl⟩
instance {W : World} : Nonempty (AftG W) := ⟨⟨W, aftG_refl W⟩⟩
instance {W : World} : Inhabited (AftG W) := ⟨⟨W, aftG_refl W⟩⟩
theorem aftG_trans {W w1 w2 : World} (h1 : ∃ q os, w1 = grow (W.drewN q) os) (h2 : ∃ q os, w2 = grow (w1.drewN q) os) : ∃ q os, w2 = grow (W.drewN q) os := by
  obtain ⟨q, os, rfl⟩ := h1
  obtain ⟨q2, os2, rfl⟩ := h2
  exact ⟨q + q2, os ++ os2, by show grow (grow ((W.drewN q).drewN q2) os) os2 = _; rw [grow_grow, World.drewN_drewN]⟩
theorem aftG_below {W w : World} (h : ∃ q os, w = grow (W.drewN q) os) : Below W.heap.size W w := by
  obtain ⟨q, os, rfl⟩ := h
  exact ⟨rfl, rfl, rfl, by simp [grow], fun i hi => by
    show ((W.drewN q).heap ++ os)[i]? = _
    rw [Array.getElem?_append_left (by show i < W.heap.size; omega)]
    rfl⟩
theorem aftG_cell {W : World} {a : Addr} {v : Value} (hb : a.block < W.heap.size) (h : W.cell? a = some v) (p : AftG W) : p.w.cell? a = some v := ((aftG_below p.h).cell hb).trans h
theorem calls_aftG {P : Program} {f : FuncId} {args : Array Value} {W : World} {p : AftG W} {v : Value} (h : Calls P f args p.w fun e w' => e = .returned v ∧ ∃ q os, w' = grow (p.w.drewN q) os) :
    Calls P f args p.w fun e w'' => e = .returned v ∧ ∃ q : AftG W, w'' = q.w :=
  h.mono fun _ _ ⟨he, hb⟩ => ⟨he, ⟨_, aftG_trans p.h hb⟩, rfl⟩
theorem wp_region_aftG {P : Program} {id : Nat} {Q : Exit → Act → World → Prop} {a : Act} {w : World} {l : List Oper} (hm : P.follows .mixedOrders = true) (hB : Region.lexB .any l.toArray = true)
    (h : wpQuiet P l.toArray (fun w' => ∃ p : AftG w, w' = p.w) (fun a' => ∀ w', (∃ p : AftG w, w' = p.w) → Q .normal a' w') l a) : (Code.region id l.toArray true).wp P Q a w :=
  wp_region_quiet (C := fun w' => ∃ p : AftG w, w' = p.w) hm hB ⟨⟨w.drew, ⟨1, #[], by rw [grow_empty]; rfl⟩⟩, rfl⟩ (by simpa using h)
def AskG (g : Nat) (κ : Pc → Int × Int) : Prop := ∀ (x y z : Int) (W : World), Calls Try.prog g #[.agg #[.int .i64 x, .int .i64 y, .int .i64 z]] W fun e w' => e = .returned (.int .i64 (κ (x, y, z)).1) ∧ ∃ q os, w' = grow (W.drewN q) os
theorem askG_beg : AskG 47 kBeg := by
  intro x y z W
  show Calls Try.prog 47 #[.agg #[.int .i64 x, .int .i64 y, .int .i64 z]] W _
  go_enter Try.func47, Try.ntmps47
  go_wp2
  go_ret
  exact ⟨rfl, 0, _, by rw [alloc_eq_grow]; rfl⟩
theorem askG_end : AskG 48 kEnd := by
  intro x y z W
  show Calls Try.prog 48 #[.agg #[.int .i64 x, .int .i64 y, .int .i64 z]] W _
  go_enter Try.func48, Try.ntmps48
  go_wp2
  go_ret
  exact ⟨rfl, 0, _, by rw [alloc_eq_grow]; rfl⟩
def cfK (κ : Pc → Int × Int) (x y : Pc) : Int := Lib.compareInt (κ x).1 (κ y).1
theorem ltK (κ : Pc → Int × Int) (x y : Pc) : ltOf (cfK κ) x y = decide ((κ x).1 < (κ y).1) := by
  unfold ltOf cfK Lib.compareInt
  by_cases h1 : (κ x).1 < (κ y).1
  · simp [h1]
  · by_cases h2 : (κ y).1 < (κ x).1 <;> simp [h1, h2]
theorem swoK (κ : Pc → Int × Int) : SWO (ltOf (cfK κ)) where
  irrefl x := by rw [ltK]; simp
  trans x y z h1 h2 := by rw [ltK] at *; simp at *; omega
  ntrans x y z h1 h2 := by rw [ltK] at *; simp at *; omega
set_option maxRecDepth 100000 in
set_option maxHeartbeats 1000000 in
theorem closureK (g : Nat) (κ : Pc → Int × Int) (hg : AskG g κ) (eg : ∀ args w, (callFunc g args).run Try.prog w = .ok (.enter g args) w) (x y : Pc) (bx : Nat) (W : World) (hbx : bx < W.heap.size) (hcell : W.cell? ⟨bx, 0, none⟩ = some (.func (.func g) #[] #[])) :
    Calls Try.prog 77 (#[.agg (encB x).toArray, .agg (encB y).toArray] ++ #[.pointer (some ⟨bx, 0, none⟩)]) W fun e w' => e = .returned (.int .i64 (cfK κ x y)) ∧ ∃ q os', w' = grow (W.drewN q) os' := by
  obtain ⟨x1, x2, x3⟩ := x
  obtain ⟨y1, y2, y3⟩ := y
  show Calls Try.prog 77 #[.agg #[.int .i64 x1, .int .i64 x2, .int .i64 x3], .agg #[.int .i64 y1, .int .i64 y2, .int .i64 y3], .pointer (some ⟨bx, 0, none⟩)] W _
  unfold cfK
  have hx := hg x1 x2 x3
  have hy := hg y1 y2 y3
  generalize (κ (x1, x2, x3)).1 = kx at *
  generalize (κ (y1, y2, y3)).1 = ky at *
  have hcon := fun W' => Try.cmp_Compare_int kx ky W'
  generalize Lib.compareInt kx ky = r at hcon ⊢
  have hcm : ∀ W' : World, Calls Try.prog 63 #[.int .i64 kx, .int .i64 ky] W' fun e w' => e = .returned (.int .i64 r) ∧ ∃ q os, w' = grow (W'.drewN q) os := fun W' => (hcon W').mono (fun _ _ ⟨h1, h2⟩ => ⟨h1, by subst h2; exact aftG_refl _⟩)
  have o1 := Own.new W 44 #[.int .i64 x1, .int .i64 x2, .int .i64 x3]
  have s1 : (W.alloc (.cells #[.int .i64 x1, .int .i64 x2, .int .i64 x3] 44)).heap.size = W.heap.size + 1 := World.size_alloc _ _
  have o2 := Own.new (W.alloc (.cells #[.int .i64 x1, .int .i64 x2, .int .i64 x3] 44)) 44 #[.int .i64 y1, .int .i64 y2, .int .i64 y3]
  rw [s1] at o2
  have o1b := o1.alloc (.cells #[.int .i64 y1, .int .i64 y2, .int .i64 y3] 44)
  have hcb : ((W.alloc (.cells #[.int .i64 x1, .int .i64 x2, .int .i64 x3] 44)).alloc (.cells #[.int .i64 y1, .int .i64 y2, .int .i64 y3] 44)).cell? ⟨bx, 0, none⟩ = some (.func (.func g) #[] #[]) := (((by (repeat' (first | (with_reducible exact Below.refl _ _) | (with_reducible assumption) | (with_reducible refine Below.alloc ?_ ?_ _) | (with_reducible refine Below.drew ?_) | (with_reducible refine Below.setCell ?_ ?_ _) | (with_reducible refine Below.trans ?_ (Below.mono (by assumption) ?_)) | go_size)) : Below W.heap.size W ((W.alloc (.cells #[.int .i64 x1, .int .i64 x2, .int .i64 x3] 44)).alloc (.cells #[.int .i64 y1, .int .i64 y2, .int .i64 y3] 44)))).cell (p := ⟨bx, 0, none⟩) hbx).trans hcell
  have hgr : ∃ q os, (W.alloc (.cells #[.int .i64 x1, .int .i64 x2, .int .i64 x3] 44)).alloc (.cells #[.int .i64 y1, .int .i64 y2, .int .i64 y3] 44) = grow (W.drewN q) os := ⟨0, _, by rw [alloc_eq_grow, alloc_eq_grow, grow_grow]; rfl⟩
  have hlt2 := o2.lt
  have hsz2 : ((W.alloc (.cells #[.int .i64 x1, .int .i64 x2, .int .i64 x3] 44)).alloc (.cells #[.int .i64 y1, .int .i64 y2, .int .i64 y3] 44)).heap.size = W.heap.size + 1 + 1 := by rw [World.size_alloc, s1]
  clear hcon o1 s1 hcell
  go_enter Try.func77, Try.ntmps77
  go_wp2
  generalize (W.alloc (.cells #[.int .i64 x1, .int .i64 x2, .int .i64 x3] 44)).alloc (.cells #[.int .i64 y1, .int .i64 y2, .int .i64 y3] 44) = W2 at *
  have kb := fun (p : AftG W2) => aftG_cell (a := ⟨bx, 0, none⟩) (by show bx < _; omega) hcb p
  have k1 := fun (p : AftG W2) => aftG_cell (a := ⟨W.heap.size, 0, none⟩) (by show W.heap.size < _; omega) (o1b.cell 0) p
  have k2 := fun (p : AftG W2) => aftG_cell (a := ⟨W.heap.size, 1, none⟩) (by show W.heap.size < _; omega) (o1b.cell 1) p
  have k3 := fun (p : AftG W2) => aftG_cell (a := ⟨W.heap.size, 2, none⟩) (by show W.heap.size < _; omega) (o1b.cell 2) p
  have k4 := fun (p : AftG W2) => aftG_cell (a := ⟨W.heap.size + 1, 0, none⟩) (by show W.heap.size + 1 < _; omega) (o2.cell 0) p
  have k5 := fun (p : AftG W2) => aftG_cell (a := ⟨W.heap.size + 1, 1, none⟩) (by show W.heap.size + 1 < _; omega) (o2.cell 1) p
  have k6 := fun (p : AftG W2) => aftG_cell (a := ⟨W.heap.size + 1, 2, none⟩) (by show W.heap.size + 1 < _; omega) (o2.cell 2) p
  clear o1b o2 hcb
  refine wp_region_aftG (by kernel_rfl) (by kernel_rfl) ?_
  (repeat (go_big_quiet_step (first | (go_at_call 63; exact calls_aftG (hcm _)) | (go_at_fn g; first | exact calls_aftG (hx _) | exact calls_aftG (hy _)))))
  refine wpQuiet_nil ?_
  intro wq hw0
  obtain ⟨⟨wq0, hbq⟩, hw1⟩ := hw0
  subst hw1
  (try dsimp only)
  go_wp2
  go_ret
  exact ⟨rfl, aftG_trans hgr hbq⟩
theorem grown_sortWorld {α : Type} [Inhabited α] (enc : α → List Value) (k : Nat) (w : World) (blk off n : Nat) (d : Array α) (os : Array Obj) : w.grownBy (sortWorldK enc k w blk off n d os) (some blk) := by
  refine ⟨rfl, rfl, rfl, size_sortWorldK_c enc k w blk off n d os, fun j hj hne => ?_⟩
  have hne2 : blk ≠ j := fun e => hne (by rw [e])
  unfold sortWorldK putRowK putRow mapBlock grow Sort.ahead
  show (w.heap.modify blk _ ++ os)[j]? = _
  rw [Array.getElem?_append_left (by rw [Array.size_modify]; omega), Array.getElem?_modify, if_neg hne2]
theorem holds_of_ownC {w : World} {base g c : Nat} {l : List Pc} (h : w.ownsRow base 44 3 (.slice (some ⟨g, 0, none⟩) l.length c) l.length (flatB l)) : HoldsK encB 3 w g 0 l.toArray := by
  intro j hj
  have hjl : j < l.length * 3 := by simpa using hj
  have h1 := World.ownsRow.cellAt h j hjl
  have h2 := World.ownsRow.frozenAt h j
  rw [Nat.zero_add]
  refine ⟨?_, h2⟩
  rw [h1, get_flatK _ _ _ _ (by simpa using hjl)]
  have hk : j / 3 < l.length := by omega
  have hp := List.getElem?_eq_getElem hk
  obtain ⟨g0, g1, g2⟩ := flatB_get l (j / 3) _ hp
  have e0 : l.toArray[j / 3]! = l[j / 3] := by rw [getElem!_pos _ _ (by simpa using hk)]; simp
  rw [e0]
  have h3 : j % 3 = 0 ∨ j % 3 = 1 ∨ j % 3 = 2 := by omega
  rcases h3 with h0 | h0 | h0
  · have e : j / 3 * 3 = j := by omega
    rw [e] at g0; rw [g0, h0]; rfl
  · have e : j / 3 * 3 + 1 = j := by omega
    rw [e] at g1; rw [g1, h0]; rfl
  · have e : j / 3 * 3 + 2 = j := by omega
    rw [e] at g2; rw [g2, h0]; rfl
/-- What sorting pieces leaves behind. -/
def SortedC (w : World) (base : Nat) (v : Value) (κ : Pc → Int × Int) (l : List Pc) (e : Ending) (w' : World) : Prop :=
  e = .returned (.tuple #[]) ∧ ∃ D : List Pc, D.Perm l ∧ D.Pairwise (fun x y => (κ x).1 ≤ (κ y).1) ∧ RdB w' base w'.heap.size v D ∧ w.grownBy w' v.ownBlock ∧ Below base w w'
theorem sort_pc (g : Nat) (κ : Pc → Int × Int) (hg : AskG g κ) (eg : ∀ args w, (callFunc g args).run Try.prog w = .ok (.enter g args) w) (v : Value) (l : List Pc) (bx : Nat) (w : World) (base : Nat) (hown : w.ownsRow base 44 3 v l.length (flatB l)) (hlen : l.length ≤ 1000000)
    (hbase : base ≤ w.heap.size) (hbx : bx < w.heap.size) (hne : v.ownBlock ≠ some bx) (hcell : w.cell? ⟨bx, 0, none⟩ = some (.func (.func g) #[] #[])) :
    Calls Try.prog 26 #[v, .func (.func 77) #[] #[.pointer (some ⟨bx, 0, none⟩)]] w (SortedC w base v κ l) := by
  rcases own_get hown with ⟨rfl, h0⟩ | ⟨gb, c, rfl, hb, hgb, hnc, _⟩
  · obtain rfl := List.eq_nil_of_length_eq_zero h0
    have h := AnyF.slices_SortFunc_none { Try.sortPc with } none 0 (.func (.func 77) #[] #[.pointer (some ⟨bx, 0, none⟩)]) w
    refine Calls.mono h ?_
    rintro e w' ⟨rfl, rfl⟩
    exact ⟨rfl, [], List.Perm.refl _, List.Pairwise.nil, ⟨none, 0, rfl, by simp, by simp⟩, ⟨rfl, rfl, rfl, Nat.le_refl _, fun _ _ _ => rfl⟩, Below.refl _ _⟩
  · have hH := holds_of_ownC hown
    have hgx : bx ≠ gb := fun e => hne (by rw [e]; rfl)
    have eg1 : ∀ args w, (callFunc 77 args).run Try.prog w = .ok (.enter 77 args) w := enters_of Try.func77 (by kernel_rfl) rfl
    have hcmp : CmpLays Try.prog 77 #[.pointer (some ⟨bx, 0, none⟩)] encB 3 (cfK κ) gb 0 l.toArray.size w := by
      intro m os dk _ x y
      have hgw := grown_sortWorld encB 3 w gb 0 m dk os
      refine closureK g κ hg eg x y bx _ (Nat.lt_of_lt_of_le hbx hgw.size) ?_
      exact (World.grownBy.cell_far hgw ⟨bx, 0, none⟩ hbx (by intro e; injection e with e; exact hgx e)).trans hcell
    have h := AnyQ.slices_SortFunc Try.sortPc 3 Try.isAgg44 Try.sizeOf44 encB (fun _ => rfl) (fun x v hv => by simp [encB] at hv; rcases hv with rfl | rfl | rfl <;> rfl) (cfK κ) (swoK κ) 77 #[.pointer (some ⟨bx, 0, none⟩)] gb 0 c l.toArray w eg1 hcmp hH hgb (by simp; omega)
    refine Calls.mono h ?_
    rintro e w' ⟨rfl, d', n, os, hp, hs, rfl⟩
    have hsz : d'.size = l.length := by simpa using hp.1
    refine ⟨rfl, d'.toList, ?_, ?_, ?_, grown_sortWorld encB 3 w gb 0 n d' os, (below_sortWorld encB 3 w gb 0 n d' os hgb).mono hb⟩
    · have h2 := hp.2.2
      have e1 : d'.extract 0 l.toArray.size = d' := by rw [show l.toArray.size = d'.size by simpa using hsz.symm]; exact Array.extract_size
      have e2 : l.toArray.extract 0 l.toArray.size = l.toArray := Array.extract_size
      rw [e1, e2] at h2
      simpa using h2
    · rw [List.pairwise_iff_getElem]
      intro i j hi hj hij
      have h3 := hs i j (Nat.zero_le _) hij (by simp at hj ⊢; omega)
      rw [ltK, getElem!_pos _ _ (by simpa using hj), getElem!_pos _ _ (by simpa using hi)] at h3
      simp at h3 ⊢
      omega
    · have h4 := rd_of_holds (c := c) (holdsK_sortWorldK_c encB 3 w gb 0 l.toArray d' n os hH hgb (by simpa using hsz)) hb (Nat.lt_of_lt_of_le hgb (size_sortWorldK_c encB 3 w gb 0 n d' os)) (by omega)
      rw [hsz] at h4
      exact h4
set_option maxRecDepth 100000 in
set_option maxHeartbeats 1000000 in
theorem sortBy_any (g : Nat) (κ : Pc → Int × Int) (hg : AskG g κ) (eg : ∀ args w, (callFunc g args).run Try.prog w = .ok (.enter g args) w) (v : Value) (l : List Pc) (w : World) (base : Nat) (hown : w.ownsRow base 44 3 v l.length (flatB l)) (hlen : l.length ≤ 1000000) (hbase : base ≤ w.heap.size) :
    Calls Try.prog 49 #[v, .func (.func g) #[] #[]] w (SortedC w base v κ l) := by
  have o1 := Own.new w 65 #[.func (.func g) #[] #[]]
  have s1 : (w.alloc (.cells #[.func (.func g) #[] #[]] 65)).heap.size = w.heap.size + 1 := World.size_alloc _ _
  have hlt : ∀ j, v.ownBlock = some j → j < w.heap.size := fun j hj => (hown.lt j hj).2
  have HS := Lib.hid (sort_pc g κ hg eg v l w.heap.size (w.alloc (.cells #[.func (.func g) #[] #[]] 65)) base (World.ownsRow.alloc hown _) hlen (by omega) (by omega) (fun e => by have := hlt _ e; omega) (o1.cell 0))
  have hga : w.grownBy (w.alloc (.cells #[.func (.func g) #[] #[]] 65)) v.ownBlock := World.grownBy_alloc w _ _
  have hba : Below base w (w.alloc (.cells #[.func (.func g) #[] #[]] 65)) := (Below.refl _ _).alloc hbase _
  obtain ⟨A, n, c, rfl⟩ := own_slice hown
  go_enter Try.func49, Try.ntmps49
  go_wp2_with fail
  refine HS.out.mono ?_
  intro e w2 hR
  unfold SortedC at hR
  obtain ⟨rfl, D, hp, hs, hr, hgr, hb⟩ := hR
  have hfin : SortedC w base (.slice A n c) κ l (.returned (.tuple #[])) w2 := ⟨rfl, D, hp, hs, hr, hga.trans hgr, hba.trans hb⟩
  clear hp hs hr hgr hb
  go_wp2
  go_returns
  exact hfin
end Go.Proofs.Ytbpjgipldddcfaa
