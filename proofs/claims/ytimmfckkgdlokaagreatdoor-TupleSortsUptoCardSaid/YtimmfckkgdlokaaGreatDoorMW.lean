import Derived.Deep.RegionHeld3
import Derived.WalkKit
import Derived.Test.YtimmfckkgdlokaaGreatDoorMT
import Derived.Test.YtimmfckkgdlokaaGreatDoorMV
import Derived.WalkSpells
import Derived.WalkLawsBesides
import Derived.Deep.QuietTactic
import Derived.BigQuiet
import Derived.Handy
import Derived.Lib.Hide
/-
  Regions that draw their order, walked operation by operation by an invariant: what each operation leaves is said by a fact that lasts; no order is looked at. Conditions: none.
-/
namespace Go.Proofs.YtimmfckkgdlokaaGreatDoor
set_option maxRecDepth 100000
open Go.RowKit

/-- A fact on a value that lasts while nothing old is written. -/
structure Fact where
  p : Value → World → Prop
  mono : ∀ (v : Value) (W W' : World), p v W → Below W.heap.size W W' → p v W'
def anyF : Fact := ⟨fun _ _ => True, fun _ _ _ _ _ => trivial⟩
def isF (u : Value) : Fact := ⟨fun v _ => v = u, fun _ _ _ h _ => h⟩
def upd (x : Nat → Value) (i : Nat) (v : Value) : Nat → Value := fun j => if j = i then v else x j
/-- Each operation waits for earlier ones alone. -/
def backB (ops : Array Oper) : Bool := (List.range ops.size).all fun j => match ops[j]? with | some o => o.after.all fun e => decide (e.on < j) | none => true
def waits (o : Oper) (j : Nat) : Bool := o.after.any fun e => e.on == j && Region.binds .any e
section
variable {P : Program} {ops : Array Oper} {Q : Exit → Act → World → Prop} {md : Region.Mode}
theorem ready_nil {l : Array Bool} (hb : backB ops = true) (hr : Region.ready md ops l = []) (hs : l.size = ops.size) : ∀ j, j < ops.size → l.getD j false = true := by
  intro j
  induction j using Nat.strongRecOn with
  | _ j ih =>
    intro hj
    cases h : l.getD j false
    · exfalso
      have hm : j ∈ Region.ready md ops l := by
        refine mem_ready.2 ⟨?_, ops[j], Array.getElem?_eq_getElem hj, fun e he _ => ?_⟩
        · simp [hs, hj] at h ⊢; exact h
        · have h1 := List.all_eq_true.1 hb j (List.mem_range.2 hj)
          rw [Array.getElem?_eq_getElem hj] at h1
          have h2 := Array.all_eq_true_iff_forall_mem.1 h1 e he
          have h3 : e.on < j := by simpa using h2
          exact ih e.on h3 (by omega)
      rw [hr] at hm; cases hm
    · rfl
theorem wpAny_inv {I : Array Bool → Act → World → Prop} (hsz : ∀ l a w, I l a w → l.size = ops.size) (hend : ∀ l a w, I l a w → Region.ready md ops l = [] → Q .normal a w)
    (hstep : ∀ l a w, I l a w → ∀ i ∈ Region.ready md ops l, wpOp P ops Q i (I (l.setIfInBounds i true)) a w) :
    ∀ (fuel : Nat) (l : Array Bool) (a : Act) (w : World), ops.size ≤ l.toList.count true + fuel → I l a w → wpAny P md ops Q fuel l a w
  | 0, l, a, w, hc, hI => by
    have hr : Region.ready md ops l = [] := by
      refine List.eq_nil_iff_forall_not_mem.2 fun j hj => ?_
      obtain ⟨h1, o, ho, _⟩ := mem_ready.1 hj
      have hlt : j < ops.size := (Array.getElem?_eq_some_iff.1 ho).1
      have hs := hsz l a w hI
      have hl : l.toList.length = ops.size := by simpa using hs
      have hle := List.count_le_length (a := true) (l := l.toList)
      have hall := List.count_eq_length.1 (show l.toList.count true = l.toList.length by omega)
      have hj2 : j < l.size := by omega
      have hm := hall l[j] (by simp)
      simp [hj2] at h1
      rw [h1] at hm; cases hm
    exact ⟨hr, hend l a w hI hr⟩
  | fuel + 1, l, a, w, hc, hI => ⟨fun h => hend l a w hI h, fun i hi => wpOp_mono (fun a' w' h' => wpAny_inv hsz hend hstep fuel _ a' w' (by
      obtain ⟨h1, o, ho, _⟩ := mem_ready.1 hi
      have hlt : i < ops.size := (Array.getElem?_eq_some_iff.1 ho).1
      have hs := hsz l a w hI
      have hi2 : i < l.size := by omega
      have h2 : l[i] = false := by simpa [hi2] using h1
      rw [Array.toList_setIfInBounds, List.count_set (by simpa using hi2)]
      have h3 : (l.toList[i]'(by simpa using hi2)) = false := by simpa using h2
      rw [h3, if_neg (by decide), if_pos (by decide)]
      omega) h') (hstep l a w hI i hi)⟩
/-- A region that draws its order: each operation is run once, out of the facts on what it waits for. -/
theorem wp_region_inv {id : Nat} {a : Act} {w : World} (fr : (Nat → Value) → Act) (fs : List Fact) (x0 : Nat → Value)
    (hm : P.follows .mixedOrders = true) (hb : backB ops = true) (ha : a = fr x0)
    (hput : ∀ (x : Nat → Value) (i : Nat) (o : Oper) (v : Value), ops[i]? = some o → (fr x).put o.dst v = fr (upd x i v))
    (hstep : ∀ (i : Nat) (o : Oper), ops[i]? = some o → ∀ (x : Nat → Value) (W : World), Below w.heap.size w W → (∀ j, waits o j = true → (fs.getD j anyF).p (x j) W) →
      ∀ K : Act → World → Prop, Shut (∀ v W', Below W.heap.size W W' → (fs.getD i anyF).p v W' → K ((fr x).put o.dst v) W') → if Region.wanted o (yielded ops (fr x).tmps) = true then Oper.wp P o (fr x) W K Q else K ((fr x).put o.dst undef) W)
    (hend : ∀ (x : Nat → Value) (W : World), Below w.heap.size w W → (∀ i, i < ops.size → (fs.getD i anyF).p (x i) W) → Q .normal (fr x) W) : (Code.region id ops true).wp P Q a w := by
  refine wp_region_any hm ?_
  refine wpAny_inv (I := fun l a' w' => l.size = ops.size ∧ ∃ x, a' = fr x ∧ Below w.heap.size w w' ∧ ∀ i, l.getD i false = true → (fs.getD i anyF).p (x i) w') (fun l a' w' h => h.1) ?_ ?_ ops.size _ a w.drew (by omega) ?_
  · rintro l a' w' ⟨hs, x, rfl, hB, hx⟩ hr
    exact hend x w' hB fun i hi => hx i (ready_nil hb hr hs i hi)
  · rintro l a' w' ⟨hs, x, rfl, hB, hx⟩ i hi
    obtain ⟨h1, o, ho, hw⟩ := mem_ready.1 hi
    refine wpOp_step ho (fun K' hK => ?_)
    refine hstep i o ho x w' hB (fun j hj => ?_) K' ?_
    · obtain ⟨k, hk, h2⟩ := Array.any_eq_true.1 hj
      have he := Array.getElem_mem hk
      generalize o.after[k] = e at *
      simp only [Bool.and_eq_true, beq_iff_eq] at h2
      obtain ⟨rfl, hbd⟩ := h2
      exact hx _ (hw e he hbd)
    · intro v W' hB2 hf
      refine hK _ _ ⟨by simpa using hs, upd x i v, hput x i o v ho, hB.trans (hB2.mono hB.size), fun j hj => ?_⟩
      unfold upd
      by_cases hji : j = i
      · subst hji; rw [if_pos rfl]; exact hf
      · rw [if_neg hji]
        rw [getD_set_ne false (Ne.symm hji)] at hj
        exact (fs.getD j anyF).mono _ _ _ (hx j hj) hB2
  · refine ⟨by simp, x0, ha, Below.drew (Below.refl _ _), fun i hi => ?_⟩
    exfalso
    have h : (Array.replicate ops.size false).getD i false = false := by
      rw [Array.getD_eq_getD_getElem?, Array.getElem?_replicate]
      split <;> rfl
    rw [h] at hi; cases hi
/-- What one operation does, by its run. -/
theorem wp_of_value {o : Oper} {a : Act} {w w' : World} {K : Act → World → Prop} {v : Value} (h : (execOp a.eval o).run P w = .ok (.value v) w') (hk : K (a.put o.dst v) w') : Oper.wp P o a w K Q := by
  unfold Oper.wp; rw [h]; exact hk
theorem wp_of_enter {o : Oper} {a : Act} {w w' : World} {K : Act → World → Prop} {f : FuncId} {args : Array Value} (h : (execOp a.eval o).run P w = .ok (.enter f args) w') (hc : Calls P f args w' fun e w'' => ∃ u, e = .returned u ∧ K (a.put o.dst u) w'') : Oper.wp P o a w K Q := by
  unfold Oper.wp; rw [h]
  refine Calls.mono hc ?_
  rintro e w'' ⟨u, rfl, hk⟩
  exact hk
end
end Go.Proofs.YtimmfckkgdlokaaGreatDoor
/-
  Facts on rows, lists of rows, columns and numbers that last; literals of them. Conditions: none.
-/
namespace Go.Proofs.YtimmfckkgdlokaaGreatDoor
set_option maxRecDepth 100000
open Go.RowKit

def rowT (ps : List Vl) : Fact := ⟨fun v W => RdN W 0 W.heap.size v ps, fun _ _ _ h hb => h.step hb (Nat.le_refl _)⟩
def rowsF (rs : List (List Vl)) : Fact := ⟨fun v W => RdR W 0 W.heap.size v rs, fun _ _ _ h hb => h.step hb (Nat.le_refl _)⟩
def ordF (o : List (Int × Bool)) : Fact := ⟨fun v W => RdO W 0 W.heap.size v o, fun _ _ _ h hb => h.step hb (Nat.le_refl _)⟩
def intsF (zs : List Int) : Fact := ⟨fun v W => RdI W 0 W.heap.size v zs, fun _ _ _ h hb => h.step hb (Nat.le_refl _)⟩
theorem own_rowC (w : World) (ps : List Vl) (cs : Array Value) (h : cs = (flatV ps).toArray) (hl : ps.length ≤ 9223372036854775807) : RdN (w.alloc (.cells cs 28)) 0 (w.alloc (.cells cs 28)).heap.size (.slice (some ⟨w.heap.size, 0, none⟩) ps.length ps.length) ps := by
  subst h
  have o := Own.new w 28 (rowC ps ps.length)
  have e : rowC ps ps.length = (flatV ps).toArray := by unfold rowC; rw [Nat.sub_self]; simp
  have h := rdV_row o hl
  rw [e] at h
  exact ⟨h, fun n c e => by cases e⟩
theorem cell_add_k (g k : Nat) : (⟨g, 0, none⟩ : Addr).add k = ⟨g, k, none⟩ := by unfold Addr.add; split <;> simp_all
theorem lit_rows (w : World) (us : List Value) (rs : List (List Vl)) (hl : us.length = rs.length) (h63 : rs.length ≤ 9223372036854775807) (hu : ∀ (k : Nat) (u : Value) (r : List Vl), us[k]? = some u → rs[k]? = some r → RdN w 0 w.heap.size u r) :
    RdR (w.alloc (.cells us.toArray 32)) 0 (w.alloc (.cells us.toArray 32)).heap.size (.slice (some ⟨w.heap.size, 0, none⟩) rs.length rs.length) rs := by
  have o := Own.new w 32 us.toArray
  refine ⟨_, _, rfl, h63, fun k r hk => ?_⟩
  have hk2 : k < us.length := by rw [hl]; exact (List.getElem?_eq_some_iff.1 hk).1
  refine ⟨⟨w.heap.size, 0, none⟩, us[k], rfl, Nat.zero_le _, o.lt, ?_, (hu k _ r (List.getElem?_eq_getElem hk2) hk).step (bel_mark w _) (Nat.le_refl _)⟩
  rw [cell_add_k]
  exact (o.cell k).trans (by simp [hk2])
theorem lit_ord1 (w : World) (i : Int) (d : Bool) : RdO (w.alloc (.cells #[.int .i64 i, .bool d] 34)) 0 (w.alloc (.cells #[.int .i64 i, .bool d] 34)).heap.size (.slice (some ⟨w.heap.size, 0, none⟩) 1 1) [(i, d)] := by
  have o := Own.new w 34 #[.int .i64 i, .bool d]
  refine ⟨_, _, rfl, by simp, fun k q hk => ?_⟩
  have hk0 : k = 0 := by have := (List.getElem?_eq_some_iff.1 hk).1; simp at this; exact this
  subst hk0
  injection hk with hk
  subst hk
  refine ⟨⟨w.heap.size, 0, none⟩, rfl, Nat.zero_le _, o.lt, ?_, ?_⟩
  · rw [cell_add_k]; exact o.cell 0
  · rw [cell_add_k]; exact o.cell 1
theorem lit_ints (w : World) (zs : List Int) (h63 : zs.length ≤ 9223372036854775807) (cs : Array Value) (h : cs = (zs.map fun z => Value.int .i64 z).toArray) : RdI (w.alloc (.cells cs 3)) 0 (w.alloc (.cells cs 3)).heap.size (.slice (some ⟨w.heap.size, 0, none⟩) zs.length zs.length) zs := by
  subst h
  have o := Own.new w 3 (zs.map fun z => Value.int .i64 z).toArray
  refine ⟨_, _, rfl, h63, fun k z hk => ⟨⟨w.heap.size, 0, none⟩, rfl, Nat.zero_le _, o.lt, ?_⟩⟩
  rw [cell_add_k]
  exact (o.cell k).trans (by simp [hk])
theorem ex_int (n : Int) (h : Va.vldV 1 n ⟨#[]⟩ = true) (w : World) : Calls Tryz.prog 15 #[.int .i64 n] w fun e w' => e = .returned (.agg #[.int .i64 1, .int .i64 n, .string ⟨#[]⟩]) ∧ Below w.heap.size w w' := by
  have h2 := Va.pInt_any n w
  unfold Va.nrm Va.vV at h2
  rw [h] at h2
  exact h2
theorem ex_text (s : ByteArray) (h : Va.vldV 2 0 s = true) (w : World) : Calls Tryz.prog 13 #[.string s] w fun e w' => e = .returned (.agg #[.int .i64 2, .int .i64 0, .string s]) ∧ Below w.heap.size w w' := by
  have h2 := Va.pText_any s w
  unfold Va.nrm Va.vV at h2
  rw [h] at h2
  exact h2
theorem int1 (w : World) : Calls Tryz.prog 15 #[.int .i64 1] w fun e w' => e = .returned (.agg #[.int .i64 1, .int .i64 1, .string ⟨#[]⟩]) ∧ Below w.heap.size w w' := ex_int 1 (by kernel_rfl) w
theorem int2 (w : World) : Calls Tryz.prog 15 #[.int .i64 2] w fun e w' => e = .returned (.agg #[.int .i64 1, .int .i64 2, .string ⟨#[]⟩]) ∧ Below w.heap.size w w' := ex_int 2 (by kernel_rfl) w
theorem texta (w : World) : Calls Tryz.prog 13 #[.string ⟨#[97]⟩] w fun e w' => e = .returned (.agg #[.int .i64 2, .int .i64 0, .string ⟨#[97]⟩]) ∧ Below w.heap.size w w' := ex_text ⟨#[97]⟩ (by kernel_rfl) w
theorem textb (w : World) : Calls Tryz.prog 13 #[.string ⟨#[98]⟩] w fun e w' => e = .returned (.agg #[.int .i64 2, .int .i64 0, .string ⟨#[98]⟩]) ∧ Below w.heap.size w w' := ex_text ⟨#[98]⟩ (by kernel_rfl) w
def vA : Vl := (2, 0, ⟨#[97]⟩)
def vB : Vl := (2, 0, ⟨#[98]⟩)
def vI (n : Int) : Vl := (1, n, ⟨#[]⟩)
theorem ex_sort : sortO [(0, true)] [[vI 1, vB], [vI 2, vA], [vI 1, vA]] = [[vI 2, vA], [vI 1, vA], [vI 1, vB]] := by
  symm
  refine sortO_of _ _ _ (List.perm_append_comm (l₁ := [[vI 2, vA], [vI 1, vA]]) (l₂ := [[vI 1, vB]])) ?_
  repeat (first | exact List.Pairwise.nil | exact List.pairwise_singleton _ _ | (refine List.Pairwise.cons ?_ ?_; (intro a ha; simp only [List.mem_cons, List.not_mem_nil, or_false] at ha; (first | (rcases ha with rfl | rfl <;> kernel_rfl) | (subst ha; kernel_rfl) | cases ha))))
theorem ex_pick : [(1 : Int), 5].map (atP [vI 1, vB]) = [vB, zV] := by kernel_rfl
theorem ex_txt : textL [vI 1, vA, zV] = [40, 49, 44, 32, 39, 97, 39, 44, 32, 78, 85, 76, 76, 41] := by kernel_rfl
theorem ex_c1 : (cmpR [vI 2, vA] [vI 2, vA] == 0) = true := by kernel_rfl
theorem ex_c2 : (cmpR [vI 1, vB] [vI 1, vB] == 0) = true := by kernel_rfl
theorem ex_c3 : (cmpR [vI 2, vA] [vI 1, vA] == 0) = false := by kernel_rfl
end Go.Proofs.YtimmfckkgdlokaaGreatDoor
/-
  The awake of the statements: the chapter's examples. Conditions: the tables lie as the rows say. (Written by mkTuW.py.)
-/
namespace Go.Proofs.YtimmfckkgdlokaaGreatDoor
set_option maxRecDepth 100000
open Go.RowKit

theorem rows3 {W : World} {u v t : Value} {a b c : List Vl} (h1 : RdN W 0 W.heap.size u a) (h2 : RdN W 0 W.heap.size v b) (h3 : RdN W 0 W.heap.size t c) :
    ∀ (k : Nat) (x : Value) (r : List Vl), [u, v, t][k]? = some x → [a, b, c][k]? = some r → RdN W 0 W.heap.size x r := by
  intro k x r hx hr
  match k, hx, hr with
  | 0, hx, hr => injection hx with hx; injection hr with hr; subst hx hr; exact h1
  | 1, hx, hr => injection hx with hx; injection hr with hr; subst hx hr; exact h2
  | 2, hx, hr => injection hx with hx; injection hr with hr; subst hx hr; exact h3
  | k + 3, hx, _ => simp at hx
theorem addB0 (ad : Addr) : ad.add 0 = ad := by unfold Addr.add; simp
set_option maxRecDepth 100000 in
set_option maxHeartbeats 6400000 in
theorem awake_any (w : World) (hE : Va.Env w) : Calls Tryz.prog 5 #[] w fun e w' => e = .returned (.bool true) ∧ Below w.heap.size w w' := by
  have HE := Lib.hid hE
  have ha := texta w
  go_enter Tryz.func5, Tryz.ntmps5
  go_wp2_with fail
  refine ha.mono ?_
  rintro e w1 ⟨rfl, hb1⟩
  clear ha
  have hb := textb w1
  go_wp2_with fail
  refine hb.mono ?_
  rintro e w2 ⟨rfl, hb2⟩
  clear hb
  go_wp2_with fail
  have B2 := hb1.trans (hb2.mono hb1.size)
  have m1 := bel_mark w2 (.cells #[.int .i64 2, .int .i64 0, .string ⟨#[97]⟩] 28)
  have m2 := bel_mark (w2.alloc (.cells #[.int .i64 2, .int .i64 0, .string ⟨#[97]⟩] 28)) (.cells #[.int .i64 2, .int .i64 0, .string ⟨#[98]⟩] 28)
  have o1 := (Own.new w2 28 #[.int .i64 2, .int .i64 0, .string ⟨#[97]⟩]).below m2 (by simp)
  have o2 : Own ((w2.alloc (.cells #[.int .i64 2, .int .i64 0, .string ⟨#[97]⟩] 28)).alloc (.cells #[.int .i64 2, .int .i64 0, .string ⟨#[98]⟩] 28)) (w2.heap.size + 1) 28 #[.int .i64 2, .int .i64 0, .string ⟨#[98]⟩] := own2 _
  have B4 := (B2.trans (m1.mono B2.size)).trans (m2.mono ((B2.trans (m1.mono B2.size)).size))
  generalize (w2.alloc (.cells #[.int .i64 2, .int .i64 0, .string ⟨#[97]⟩] 28)).alloc (.cells #[.int .i64 2, .int .i64 0, .string ⟨#[98]⟩] 28) = V at *
  generalize w2.heap.size + 1 = g2 at *
  generalize w2.heap.size = g1 at *
  have HA : ∀ W, Below V.heap.size V W → W.cell? ⟨g1, 0, none⟩ = some (.int .i64 2) ∧ W.cell? ⟨g1, 1, none⟩ = some (.int .i64 0) ∧ W.cell? ⟨g1, 2, none⟩ = some (.string ⟨#[97]⟩) := fun W h =>
    ⟨(h.cell (p := ⟨g1, 0, none⟩) o1.lt).trans (o1.cell 0), (h.cell (p := ⟨g1, 1, none⟩) o1.lt).trans (o1.cell 1), (h.cell (p := ⟨g1, 2, none⟩) o1.lt).trans (o1.cell 2)⟩
  have HB : ∀ W, Below V.heap.size V W → W.cell? ⟨g2, 0, none⟩ = some (.int .i64 2) ∧ W.cell? ⟨g2, 1, none⟩ = some (.int .i64 0) ∧ W.cell? ⟨g2, 2, none⟩ = some (.string ⟨#[98]⟩) := fun W h =>
    ⟨(h.cell (p := ⟨g2, 0, none⟩) o2.lt).trans (o2.cell 0), (h.cell (p := ⟨g2, 1, none⟩) o2.lt).trans (o2.cell 1), (h.cell (p := ⟨g2, 2, none⟩) o2.lt).trans (o2.cell 2)⟩
  clear m1 m2 o1 o2 B2 hb1 hb2
  replace HA := Lib.hid HA
  replace HB := Lib.hid HB
  replace B4 := Lib.hid B4
  refine wp_region_inv (w := V) (fun x => { tmps := #[.bool false, .pointer (some ⟨g1, 0, none⟩), .pointer (some ⟨g2, 0, none⟩), x 13, undef, .agg #[.int .i64 2, .int .i64 0, .string ⟨#[97]⟩], .agg #[.int .i64 2, .int .i64 0, .string ⟨#[98]⟩], x 0, x 1, x 2, x 3, x 4, x 5, x 6, x 7, x 8, x 9, x 10, x 11, x 12, undef, undef, undef, undef, undef, undef, undef, undef, undef, undef, undef, undef, undef, undef, undef, undef, undef, undef, undef, undef, undef, undef, undef, undef, undef, undef, undef, undef, undef, undef, undef, undef, undef, undef, undef, undef, undef, undef, undef, undef, undef, undef, undef, undef, undef, undef, undef, undef, undef, undef, undef, undef, undef, undef, undef, undef, undef, undef, undef, undef, undef, undef, undef], defers := [] }) [isF (.agg #[.int .i64 1, .int .i64 1, .string ⟨#[]⟩]), isF (.agg #[.int .i64 2, .int .i64 0, .string ⟨#[98]⟩]), rowT [vI 1, vB], isF (.agg #[.int .i64 1, .int .i64 2, .string ⟨#[]⟩]), isF (.agg #[.int .i64 2, .int .i64 0, .string ⟨#[97]⟩]), rowT [vI 2, vA], isF (.agg #[.int .i64 1, .int .i64 1, .string ⟨#[]⟩]), isF (.agg #[.int .i64 2, .int .i64 0, .string ⟨#[97]⟩]), rowT [vI 1, vA], rowsF [[vI 1, vB], [vI 2, vA], [vI 1, vA]], isF (.agg #[.int .i64 0, .bool true]), ordF [(0, true)], rowsF [[vI 2, vA], [vI 1, vA], [vI 1, vB]], rowsF [[vI 2, vA], [vI 1, vA], [vI 1, vB]]] (fun j => undef) (by kernel_rfl) (by kernel_rfl) (by rfl) ?_ ?_ ?_
  · intro x i o v ho
    have hi : i < 14 := (Array.getElem?_eq_some_iff.1 ho).1
    have hi2 : i = 0 ∨ i = 1 ∨ i = 2 ∨ i = 3 ∨ i = 4 ∨ i = 5 ∨ i = 6 ∨ i = 7 ∨ i = 8 ∨ i = 9 ∨ i = 10 ∨ i = 11 ∨ i = 12 ∨ i = 13 := by omega
    rcases hi2 with rfl | rfl | rfl | rfl | rfl | rfl | rfl | rfl | rfl | rfl | rfl | rfl | rfl | rfl
    all_goals (obtain rfl := Option.some.inj ho; rfl)
  · intro i o ho x W hb hd K hK
    have hi : i < 14 := (Array.getElem?_eq_some_iff.1 ho).1
    have hi2 : i = 0 ∨ i = 1 ∨ i = 2 ∨ i = 3 ∨ i = 4 ∨ i = 5 ∨ i = 6 ∨ i = 7 ∨ i = 8 ∨ i = 9 ∨ i = 10 ∨ i = 11 ∨ i = 12 ∨ i = 13 := by omega
    clear hi
    rcases hi2 with rfl | rfl | rfl | rfl | rfl | rfl | rfl | rfl | rfl | rfl | rfl | rfl | rfl | rfl
    · obtain rfl := Option.some.inj ho
      clear hd
      rw [if_pos (by rfl)]
      try dsimp only at hK ⊢
      go_simp
      (go_at_call 15; refine (int1 _).mono ?_; rintro e W1 ⟨rfl, hb1⟩; exact hK.out _ W1 hb1 rfl)
    · obtain rfl := Option.some.inj ho
      obtain ⟨k0, k1, k2⟩ := HB.out W hb
      clear hd
      rw [if_pos (by rfl)]
      try dsimp only at hK ⊢
      go_simp
      exact hK.out _ W (Below.refl _ _) rfl
    · obtain rfl := Option.some.inj ho
      have h0 : x 0 = .agg #[.int .i64 1, .int .i64 1, .string ⟨#[]⟩] := hd 0 (by kernel_rfl)
      simp only [h0] at hK ⊢
      have h1 : x 1 = .agg #[.int .i64 2, .int .i64 0, .string ⟨#[98]⟩] := hd 1 (by kernel_rfl)
      simp only [h1] at hK ⊢
      clear hd
      rw [if_pos (by rfl)]
      try dsimp only at hK ⊢
      go_simp
      exact hK.out _ _ (bel_mark W _) (own_rowC W [vI 1, vB] _ rfl (by decide))
    · obtain rfl := Option.some.inj ho
      clear hd
      rw [if_pos (by rfl)]
      try dsimp only at hK ⊢
      go_simp
      (go_at_call 15; refine (int2 _).mono ?_; rintro e W1 ⟨rfl, hb1⟩; exact hK.out _ W1 hb1 rfl)
    · obtain rfl := Option.some.inj ho
      obtain ⟨k0, k1, k2⟩ := HA.out W hb
      clear hd
      rw [if_pos (by rfl)]
      try dsimp only at hK ⊢
      go_simp
      exact hK.out _ W (Below.refl _ _) rfl
    · obtain rfl := Option.some.inj ho
      have h3 : x 3 = .agg #[.int .i64 1, .int .i64 2, .string ⟨#[]⟩] := hd 3 (by kernel_rfl)
      simp only [h3] at hK ⊢
      have h4 : x 4 = .agg #[.int .i64 2, .int .i64 0, .string ⟨#[97]⟩] := hd 4 (by kernel_rfl)
      simp only [h4] at hK ⊢
      clear hd
      rw [if_pos (by rfl)]
      try dsimp only at hK ⊢
      go_simp
      exact hK.out _ _ (bel_mark W _) (own_rowC W [vI 2, vA] _ rfl (by decide))
    · obtain rfl := Option.some.inj ho
      clear hd
      rw [if_pos (by rfl)]
      try dsimp only at hK ⊢
      go_simp
      (go_at_call 15; refine (int1 _).mono ?_; rintro e W1 ⟨rfl, hb1⟩; exact hK.out _ W1 hb1 rfl)
    · obtain rfl := Option.some.inj ho
      obtain ⟨k0, k1, k2⟩ := HA.out W hb
      clear hd
      rw [if_pos (by rfl)]
      try dsimp only at hK ⊢
      go_simp
      exact hK.out _ W (Below.refl _ _) rfl
    · obtain rfl := Option.some.inj ho
      have h6 : x 6 = .agg #[.int .i64 1, .int .i64 1, .string ⟨#[]⟩] := hd 6 (by kernel_rfl)
      simp only [h6] at hK ⊢
      have h7 : x 7 = .agg #[.int .i64 2, .int .i64 0, .string ⟨#[97]⟩] := hd 7 (by kernel_rfl)
      simp only [h7] at hK ⊢
      clear hd
      rw [if_pos (by rfl)]
      try dsimp only at hK ⊢
      go_simp
      exact hK.out _ _ (bel_mark W _) (own_rowC W [vI 1, vA] _ rfl (by decide))
    · obtain rfl := Option.some.inj ho
      have h2 : RdN W 0 W.heap.size (x 2) [vI 1, vB] := hd 2 (by kernel_rfl)
      obtain ⟨A2, c2, e2, q2⟩ := id h2.1
      clear q2
      simp only [e2] at hK ⊢
      rw [e2] at h2
      replace h2 := Lib.hid h2
      have h5 : RdN W 0 W.heap.size (x 5) [vI 2, vA] := hd 5 (by kernel_rfl)
      obtain ⟨A5, c5, e5, q5⟩ := id h5.1
      clear q5
      simp only [e5] at hK ⊢
      rw [e5] at h5
      replace h5 := Lib.hid h5
      have h8 : RdN W 0 W.heap.size (x 8) [vI 1, vA] := hd 8 (by kernel_rfl)
      obtain ⟨A8, c8, e8, q8⟩ := id h8.1
      clear q8
      simp only [e8] at hK ⊢
      rw [e8] at h8
      replace h8 := Lib.hid h8
      clear hd
      rw [if_pos (by rfl)]
      try dsimp only at hK ⊢
      go_simp
      exact hK.out _ _ (bel_mark W _) (lit_rows W [.slice A2 2 c2, .slice A5 2 c5, .slice A8 2 c8] _ rfl (by decide) (rows3 h2.out h5.out h8.out))
    · obtain rfl := Option.some.inj ho
      clear hd
      rw [if_pos (by rfl)]
      try dsimp only at hK ⊢
      go_simp
      exact hK.out _ W (Below.refl _ _) rfl
    · obtain rfl := Option.some.inj ho
      have h10 : x 10 = .agg #[.int .i64 0, .bool true] := hd 10 (by kernel_rfl)
      simp only [h10] at hK ⊢
      clear hd
      rw [if_pos (by rfl)]
      try dsimp only at hK ⊢
      go_simp
      exact hK.out _ _ (bel_mark W _) (lit_ord1 W 0 true)
    · obtain rfl := Option.some.inj ho
      have h9 : RdR W 0 W.heap.size (x 9) [[vI 1, vB], [vI 2, vA], [vI 1, vA]] := hd 9 (by kernel_rfl)
      obtain ⟨A9, c9, e9, q9⟩ := id h9
      clear q9
      simp only [e9] at hK ⊢
      rw [e9] at h9
      replace h9 := Lib.hid h9
      have h11 : RdO W 0 W.heap.size (x 11) [(0, true)] := hd 11 (by kernel_rfl)
      obtain ⟨A11, c11, e11, q11⟩ := id h11
      clear q11
      simp only [e11] at hK ⊢
      rw [e11] at h11
      replace h11 := Lib.hid h11
      clear hd
      rw [if_pos (by rfl)]
      try dsimp only at hK ⊢
      go_simp
      (go_at_call 14; refine (pOrder_any _ _ _ _ W 0 0 h9.out h11.out (by decide) (by decide)).mono ?_; rintro e W1 ⟨u, rfl, hr, hn, hb1⟩; exact hK.out _ W1 hb1 (by rw [← ex_sort]; exact hr.low (Nat.zero_le _)))
    · obtain rfl := Option.some.inj ho
      have h12 : RdR W 0 W.heap.size (x 12) [[vI 2, vA], [vI 1, vA], [vI 1, vB]] := hd 12 (by kernel_rfl)
      obtain ⟨A12, c12, e12, q12⟩ := id h12
      clear q12
      simp only [e12] at hK ⊢
      rw [e12] at h12
      replace h12 := Lib.hid h12
      clear hd
      rw [if_pos (by rfl)]
      try dsimp only at hK ⊢
      go_simp
      exact hK.out _ W (Below.refl _ _) h12.out
  · intro x W hb hf
    have hl : RdR W 0 W.heap.size (x 13) [[vI 2, vA], [vI 1, vA], [vI 1, vB]] := hf 13 (by decide)
    clear hf
    try dsimp only
    generalize x 0 = y0
    generalize x 1 = y1
    generalize x 2 = y2
    generalize x 3 = y3
    generalize x 4 = y4
    generalize x 5 = y5
    generalize x 6 = y6
    generalize x 7 = y7
    generalize x 8 = y8
    generalize x 9 = y9
    generalize x 10 = y10
    generalize x 11 = y11
    generalize x 12 = y12
    generalize x 13 = u3 at *
    clear x
    have BW := Lib.hid (B4.out.trans (hb.mono B4.out.size))
    have HA2 := Lib.hid (fun W' (h : Below W.heap.size W W') => HA.out W' (hb.trans (h.mono hb.size)))
    have HB2 := Lib.hid (fun W' (h : Below W.heap.size W W') => HB.out W' (hb.trans (h.mono hb.size)))
    clear HA HB hb B4
    have HA := HA2
    have HB := HB2
    clear HA2 HB2
    obtain ⟨A3, c3, rfl, q1, hc3⟩ := hl
    obtain ⟨ad3, u0, rfl, q2, hab3, k0, r0⟩ := hc3 0 _ rfl
    obtain ⟨ad4, u1, e4, q3, q4, k1, r1⟩ := hc3 1 _ rfl
    obtain rfl := Option.some.inj e4
    obtain ⟨ad4, u2, e5, q5, q6, k2, r2⟩ := hc3 2 _ rfl
    obtain rfl := Option.some.inj e5
    clear e4 e5 hc3 q1 q2 q3 q4 q5 q6
    have kk0 : W.cell? ad3 = some u0 := by rw [← addB0 ad3]; exact k0
    rw [addB1] at k1
    rw [addB2] at k2
    have HC3 : ∀ W', Below W.heap.size W W' → W'.cell? ad3 = some u0 ∧ W'.cell? ⟨ad3.block, ad3.off + 1, none⟩ = some u1 ∧ W'.cell? ⟨ad3.block, ad3.off + 2, none⟩ = some u2 := fun W' h =>
      ⟨(h.cell (p := ad3) hab3).trans kk0, (h.cell (p := ⟨ad3.block, ad3.off + 1, none⟩) hab3).trans k1, (h.cell (p := ⟨ad3.block, ad3.off + 2, none⟩) hab3).trans k2⟩
    have HR : ∀ W', Below W.heap.size W W' → RdN W' 0 W'.heap.size u0 [vI 2, vA] ∧ RdN W' 0 W'.heap.size u1 [vI 1, vA] ∧ RdN W' 0 W'.heap.size u2 [vI 1, vB] := fun W' h => ⟨r0.step h (Nat.le_refl _), r1.step h (Nat.le_refl _), r2.step h (Nat.le_refl _)⟩
    obtain ⟨⟨A0, c0, rfl, q1⟩, q2⟩ := r0
    clear q1 q2
    obtain ⟨⟨A1, c1, rfl, q1⟩, q2⟩ := r1
    clear q1 q2
    obtain ⟨⟨A2, c2, rfl, q1⟩, q2⟩ := r2
    clear q1 q2
    replace HC3 := Lib.hid HC3
    replace HR := Lib.hid HR
    clear k0 k1 k2 kk0
    go_wp2_with fail
    refine wp_region_inv (w := W) (fun x => { tmps := #[.bool false, .pointer (some ⟨g1, 0, none⟩), .pointer (some ⟨g2, 0, none⟩), .slice (some ad3) 3 c3, x 5, .agg #[.int .i64 2, .int .i64 0, .string ⟨#[97]⟩], .agg #[.int .i64 2, .int .i64 0, .string ⟨#[98]⟩], y0, y1, y2, y3, y4, y5, y6, y7, y8, y9, y10, y11, y12, x 0, x 1, x 2, x 3, x 4, undef, undef, undef, undef, undef, undef, undef, undef, undef, undef, undef, undef, undef, undef, undef, undef, undef, undef, undef, undef, undef, undef, undef, undef, undef, undef, undef, undef, undef, undef, undef, undef, undef, undef, undef, undef, undef, undef, undef, undef, undef, undef, undef, undef, undef, undef, undef, undef, undef, undef, undef, undef, undef, undef, undef, undef, undef, undef], defers := [] }) [isF (.agg #[.int .i64 1, .int .i64 1, .string ⟨#[]⟩]), isF (.agg #[.int .i64 2, .int .i64 0, .string ⟨#[98]⟩]), rowT [vI 1, vB], intsF [1, 5], rowT [vB, zV], rowT [vB, zV]] (fun j => undef) (by kernel_rfl) (by kernel_rfl) (by rfl) ?_ ?_ ?_
    · intro x i o v ho
      have hi : i < 6 := (Array.getElem?_eq_some_iff.1 ho).1
      have hi2 : i = 0 ∨ i = 1 ∨ i = 2 ∨ i = 3 ∨ i = 4 ∨ i = 5 := by omega
      rcases hi2 with rfl | rfl | rfl | rfl | rfl | rfl
      all_goals (obtain rfl := Option.some.inj ho; rfl)
    · intro i o ho x W hb hd K hK
      have hi : i < 6 := (Array.getElem?_eq_some_iff.1 ho).1
      have hi2 : i = 0 ∨ i = 1 ∨ i = 2 ∨ i = 3 ∨ i = 4 ∨ i = 5 := by omega
      clear hi
      rcases hi2 with rfl | rfl | rfl | rfl | rfl | rfl
      · obtain rfl := Option.some.inj ho
        clear hd
        rw [if_pos (by rfl)]
        try dsimp only at hK ⊢
        go_simp
        (go_at_call 15; refine (int1 _).mono ?_; rintro e W1 ⟨rfl, hb1⟩; exact hK.out _ W1 hb1 rfl)
      · obtain rfl := Option.some.inj ho
        obtain ⟨k0, k1, k2⟩ := HB.out W hb
        clear hd
        rw [if_pos (by rfl)]
        try dsimp only at hK ⊢
        go_simp
        exact hK.out _ W (Below.refl _ _) rfl
      · obtain rfl := Option.some.inj ho
        have h0 : x 0 = .agg #[.int .i64 1, .int .i64 1, .string ⟨#[]⟩] := hd 0 (by kernel_rfl)
        simp only [h0] at hK ⊢
        have h1 : x 1 = .agg #[.int .i64 2, .int .i64 0, .string ⟨#[98]⟩] := hd 1 (by kernel_rfl)
        simp only [h1] at hK ⊢
        clear hd
        rw [if_pos (by rfl)]
        try dsimp only at hK ⊢
        go_simp
        exact hK.out _ _ (bel_mark W _) (own_rowC W [vI 1, vB] _ rfl (by decide))
      · obtain rfl := Option.some.inj ho
        clear hd
        rw [if_pos (by rfl)]
        try dsimp only at hK ⊢
        go_simp
        exact hK.out _ _ (bel_mark W _) (lit_ints W [1, 5] (by decide) _ rfl)
      · obtain rfl := Option.some.inj ho
        have h2 : RdN W 0 W.heap.size (x 2) [vI 1, vB] := hd 2 (by kernel_rfl)
        obtain ⟨A2, c2, e2, q2⟩ := id h2.1
        clear q2
        simp only [e2] at hK ⊢
        rw [e2] at h2
        replace h2 := Lib.hid h2
        have h3 : RdI W 0 W.heap.size (x 3) [1, 5] := hd 3 (by kernel_rfl)
        obtain ⟨B3, d3, e3, q3⟩ := id h3
        clear q3
        simp only [e3] at hK ⊢
        rw [e3] at h3
        replace h3 := Lib.hid h3
        clear hd
        rw [if_pos (by rfl)]
        try dsimp only at hK ⊢
        go_simp
        (go_at_call 16; refine (pPick_any _ _ _ _ W 0 0 h2.out.1 h3.out (by decide)).mono ?_; rintro e W1 ⟨u, rfl, hr, hb1⟩; exact hK.out _ W1 hb1 (by rw [← ex_pick]; exact hr.low (Nat.zero_le _)))
      · obtain rfl := Option.some.inj ho
        have h4 : RdN W 0 W.heap.size (x 4) [vB, zV] := hd 4 (by kernel_rfl)
        obtain ⟨A4, c4, e4, q4⟩ := id h4.1
        clear q4
        simp only [e4] at hK ⊢
        rw [e4] at h4
        replace h4 := Lib.hid h4
        clear hd
        rw [if_pos (by rfl)]
        try dsimp only at hK ⊢
        go_simp
        exact hK.out _ W (Below.refl _ _) h4.out
    · intro x V hb hf
      have hl : RdN V 0 V.heap.size (x 5) [vB, zV] := hf 5 (by decide)
      clear hf
      try dsimp only
      generalize x 0 = z0
      generalize x 1 = z1
      generalize x 2 = z2
      generalize x 3 = z3
      generalize x 4 = z4
      generalize x 5 = u4 at *
      clear x
      have BV := Lib.hid (BW.out.trans (hb.mono BW.out.size))
      have HA2 := Lib.hid (fun W' (h : Below V.heap.size V W') => HA.out W' (hb.trans (h.mono hb.size)))
      have HB2 := Lib.hid (fun W' (h : Below V.heap.size V W') => HB.out W' (hb.trans (h.mono hb.size)))
      have HC2 := Lib.hid (fun W' (h : Below V.heap.size V W') => HC3.out W' (hb.trans (h.mono hb.size)))
      have HR2 := Lib.hid (fun W' (h : Below V.heap.size V W') => HR.out W' (hb.trans (h.mono hb.size)))
      clear HA HB HC3 HR hb BW hab3
      have BW := BV
      have HA := HA2
      have HB := HB2
      have HC3 := HC2
      have HR := HR2
      clear HA2 HB2 HC2 HR2 BV
      obtain ⟨⟨A4, c4, rfl, q1, hc4⟩, q2⟩ := hl
      obtain ⟨ad4, rfl, q3, hab4, k0, k1, k2⟩ := hc4 0 _ rfl
      obtain ⟨ad5, e4, q4, q5, k3, k4, k5⟩ := hc4 1 _ rfl
      obtain rfl := Option.some.inj e4
      clear e4 hc4 q1 q2 q3 q4 q5
      rw [show 0 * 3 = 0 from rfl, addB0] at k0 k1 k2
      rw [show (ad4.add (1 * 3)).block = ad4.block from add_block _ _, show (ad4.add (1 * 3)).off = ad4.off + 3 from rfl] at k4 k5
      have HC4 : ∀ W', Below V.heap.size V W' → W'.cell? ad4 = some (.int .i64 2) ∧ W'.cell? ⟨ad4.block, ad4.off + 1, none⟩ = some (.int .i64 0) ∧ W'.cell? ⟨ad4.block, ad4.off + 2, none⟩ = some (.string ⟨#[98]⟩) ∧
          W'.cell? ⟨ad4.block, ad4.off + 3, none⟩ = some (.int .i64 0) ∧ W'.cell? ⟨ad4.block, ad4.off + 3 + 1, none⟩ = some (.int .i64 0) ∧ W'.cell? ⟨ad4.block, ad4.off + 3 + 2, none⟩ = some (.string ⟨#[]⟩) := fun W' h =>
        ⟨(h.cell (p := ad4) hab4).trans k0, (h.cell (p := ⟨ad4.block, ad4.off + 1, none⟩) hab4).trans k1, (h.cell (p := ⟨ad4.block, ad4.off + 2, none⟩) hab4).trans k2,
          (h.cell (p := ⟨ad4.block, ad4.off + 3, none⟩) hab4).trans k3, (h.cell (p := ⟨ad4.block, ad4.off + 3 + 1, none⟩) hab4).trans k4, (h.cell (p := ⟨ad4.block, ad4.off + 3 + 2, none⟩) hab4).trans k5⟩
      replace HC4 := Lib.hid HC4
      clear k0 k1 k2 k3 k4 k5
      go_wp2_with fail
      refine wp_region_inv (w := V) (fun x => { tmps := #[x 58, .pointer (some ⟨g1, 0, none⟩), .pointer (some ⟨g2, 0, none⟩), .slice (some ad3) 3 c3, .slice (some ad4) 2 c4, .agg #[.int .i64 2, .int .i64 0, .string ⟨#[97]⟩], .agg #[.int .i64 2, .int .i64 0, .string ⟨#[98]⟩], y0, y1, y2, y3, y4, y5, y6, y7, y8, y9, y10, y11, y12, z0, z1, z2, z3, z4, x 0, x 1, x 2, x 3, x 4, x 5, x 6, x 7, x 8, x 9, x 10, x 11, x 12, x 13, x 14, x 15, x 16, x 17, x 18, x 19, x 20, x 21, x 22, x 23, x 24, x 25, x 26, x 27, x 28, x 29, x 30, x 31, x 32, x 33, x 34, x 35, x 36, x 37, x 38, x 39, x 40, x 41, x 42, x 43, x 44, x 45, x 46, x 47, x 48, x 49, x 50, x 51, x 52, x 53, x 54, x 55, x 56, x 57], defers := [] }) [isF (.agg #[.int .i64 1, .int .i64 1, .string ⟨#[]⟩]), isF (.agg #[.int .i64 2, .int .i64 0, .string ⟨#[97]⟩]), isF (.agg #[.int .i64 0, .int .i64 0, .string ⟨#[]⟩]), rowT [vI 1, vA, zV], isF (.string ⟨#[40, 49, 44, 32, 39, 97, 39, 44, 32, 78, 85, 76, 76, 41]⟩), isF (.bool true), isF (.bool true), isF (.slice (some ad3) 3 c3), isF (.int .i64 3), isF (.bool true), isF (.bool true), isF (.bool true), isF (.slice (some ad3) 3 c3), isF (.pointer (some ad3)), isF (.slice A0 2 c0), isF (.agg #[.int .i64 1, .int .i64 2, .string ⟨#[]⟩]), isF (.agg #[.int .i64 2, .int .i64 0, .string ⟨#[97]⟩]), rowT [vI 2, vA], isF (.bool true), isF (.bool true), isF (.bool true), isF (.slice (some ad3) 3 c3), isF (.pointer (some (ad3.add 2))), isF (.slice A2 2 c2), isF (.agg #[.int .i64 1, .int .i64 1, .string ⟨#[]⟩]), isF (.agg #[.int .i64 2, .int .i64 0, .string ⟨#[98]⟩]), rowT [vI 1, vB], isF (.bool true), isF (.bool true), isF (.bool true), isF (.slice (some ad4) 2 c4), isF (.int .i64 2), isF (.bool true), isF (.bool true), isF (.bool true), isF (.slice (some ad4) 2 c4), isF (.pointer (some ad4)), isF (.agg #[.int .i64 2, .int .i64 0, .string ⟨#[98]⟩]), isF (.agg #[.int .i64 2, .int .i64 0, .string ⟨#[98]⟩]), isF (.bool true), isF (.bool true), isF (.bool true), isF (.slice (some ad4) 2 c4), isF (.pointer (some (ad4.add 3))), isF (.agg #[.int .i64 0, .int .i64 0, .string ⟨#[]⟩]), isF (.agg #[.int .i64 0, .int .i64 0, .string ⟨#[]⟩]), isF (.bool true), isF (.bool true), isF (.bool true), isF (.slice (some ad3) 3 c3), isF (.pointer (some ad3)), isF (.slice A0 2 c0), isF (.slice (some ad3) 3 c3), isF (.pointer (some (ad3.add 1))), isF (.slice A1 2 c1), isF (.bool false), isF (.bool true), isF (.bool true), isF (.bool true)] (fun j => if j = 58 then .bool false else undef) (by kernel_rfl) (by kernel_rfl) (by rfl) ?_ ?_ ?_
      · intro x i o v ho
        have hi : i < 59 := (Array.getElem?_eq_some_iff.1 ho).1
        have hi2 : i = 0 ∨ i = 1 ∨ i = 2 ∨ i = 3 ∨ i = 4 ∨ i = 5 ∨ i = 6 ∨ i = 7 ∨ i = 8 ∨ i = 9 ∨ i = 10 ∨ i = 11 ∨ i = 12 ∨ i = 13 ∨ i = 14 ∨ i = 15 ∨ i = 16 ∨ i = 17 ∨ i = 18 ∨ i = 19 ∨ i = 20 ∨ i = 21 ∨ i = 22 ∨ i = 23 ∨ i = 24 ∨ i = 25 ∨ i = 26 ∨ i = 27 ∨ i = 28 ∨ i = 29 ∨ i = 30 ∨ i = 31 ∨ i = 32 ∨ i = 33 ∨ i = 34 ∨ i = 35 ∨ i = 36 ∨ i = 37 ∨ i = 38 ∨ i = 39 ∨ i = 40 ∨ i = 41 ∨ i = 42 ∨ i = 43 ∨ i = 44 ∨ i = 45 ∨ i = 46 ∨ i = 47 ∨ i = 48 ∨ i = 49 ∨ i = 50 ∨ i = 51 ∨ i = 52 ∨ i = 53 ∨ i = 54 ∨ i = 55 ∨ i = 56 ∨ i = 57 ∨ i = 58 := by omega
        rcases hi2 with rfl | rfl | rfl | rfl | rfl | rfl | rfl | rfl | rfl | rfl | rfl | rfl | rfl | rfl | rfl | rfl | rfl | rfl | rfl | rfl | rfl | rfl | rfl | rfl | rfl | rfl | rfl | rfl | rfl | rfl | rfl | rfl | rfl | rfl | rfl | rfl | rfl | rfl | rfl | rfl | rfl | rfl | rfl | rfl | rfl | rfl | rfl | rfl | rfl | rfl | rfl | rfl | rfl | rfl | rfl | rfl | rfl | rfl | rfl
        all_goals (obtain rfl := Option.some.inj ho; rfl)
      · intro i o ho x W hb hd K hK
        have hi : i < 59 := (Array.getElem?_eq_some_iff.1 ho).1
        have hi2 : i = 0 ∨ i = 1 ∨ i = 2 ∨ i = 3 ∨ i = 4 ∨ i = 5 ∨ i = 6 ∨ i = 7 ∨ i = 8 ∨ i = 9 ∨ i = 10 ∨ i = 11 ∨ i = 12 ∨ i = 13 ∨ i = 14 ∨ i = 15 ∨ i = 16 ∨ i = 17 ∨ i = 18 ∨ i = 19 ∨ i = 20 ∨ i = 21 ∨ i = 22 ∨ i = 23 ∨ i = 24 ∨ i = 25 ∨ i = 26 ∨ i = 27 ∨ i = 28 ∨ i = 29 ∨ i = 30 ∨ i = 31 ∨ i = 32 ∨ i = 33 ∨ i = 34 ∨ i = 35 ∨ i = 36 ∨ i = 37 ∨ i = 38 ∨ i = 39 ∨ i = 40 ∨ i = 41 ∨ i = 42 ∨ i = 43 ∨ i = 44 ∨ i = 45 ∨ i = 46 ∨ i = 47 ∨ i = 48 ∨ i = 49 ∨ i = 50 ∨ i = 51 ∨ i = 52 ∨ i = 53 ∨ i = 54 ∨ i = 55 ∨ i = 56 ∨ i = 57 ∨ i = 58 := by omega
        clear hi
        rcases hi2 with rfl | rfl | rfl | rfl | rfl | rfl | rfl | rfl | rfl | rfl | rfl | rfl | rfl | rfl | rfl | rfl | rfl | rfl | rfl | rfl | rfl | rfl | rfl | rfl | rfl | rfl | rfl | rfl | rfl | rfl | rfl | rfl | rfl | rfl | rfl | rfl | rfl | rfl | rfl | rfl | rfl | rfl | rfl | rfl | rfl | rfl | rfl | rfl | rfl | rfl | rfl | rfl | rfl | rfl | rfl | rfl | rfl | rfl | rfl
        · obtain rfl := Option.some.inj ho
          clear hd
          rw [if_pos (by rfl)]
          try dsimp only at hK ⊢
          go_simp
          (go_at_call 15; refine (int1 _).mono ?_; rintro e W1 ⟨rfl, hb1⟩; exact hK.out _ W1 hb1 rfl)
        · obtain rfl := Option.some.inj ho
          obtain ⟨k0, k1, k2⟩ := HA.out W hb
          clear hd
          rw [if_pos (by rfl)]
          try dsimp only at hK ⊢
          go_simp
          exact hK.out _ W (Below.refl _ _) rfl
        · obtain rfl := Option.some.inj ho
          clear hd
          rw [if_pos (by rfl)]
          try dsimp only at hK ⊢
          go_simp
          (go_at_call 18; refine (gNull_any _).mono ?_; rintro e W1 ⟨rfl, hb1, _⟩; exact hK.out _ W1 hb1 rfl)
        · obtain rfl := Option.some.inj ho
          have h0 : x 0 = .agg #[.int .i64 1, .int .i64 1, .string ⟨#[]⟩] := hd 0 (by kernel_rfl)
          simp only [h0] at hK ⊢
          have h1 : x 1 = .agg #[.int .i64 2, .int .i64 0, .string ⟨#[97]⟩] := hd 1 (by kernel_rfl)
          simp only [h1] at hK ⊢
          have h2 : x 2 = .agg #[.int .i64 0, .int .i64 0, .string ⟨#[]⟩] := hd 2 (by kernel_rfl)
          simp only [h2] at hK ⊢
          clear hd
          rw [if_pos (by rfl)]
          try dsimp only at hK ⊢
          go_simp
          exact hK.out _ _ (bel_mark W _) (own_rowC W [vI 1, vA, zV] _ rfl (by decide))
        · obtain rfl := Option.some.inj ho
          have h3 : RdN W 0 W.heap.size (x 3) [vI 1, vA, zV] := hd 3 (by kernel_rfl)
          obtain ⟨A3, c3, e3, q3⟩ := id h3.1
          clear q3
          simp only [e3] at hK ⊢
          rw [e3] at h3
          replace h3 := Lib.hid h3
          clear hd
          rw [if_pos (by rfl)]
          try dsimp only at hK ⊢
          go_simp
          (go_at_call 17; refine (pTextR_any _ _ W 0 h3.out.1 (HE.out.step (BW.out.trans (hb.mono BW.out.size))) (by decide)).mono ?_; rintro e W1 ⟨rfl, hb1⟩; exact hK.out _ W1 hb1 (by rw [ex_txt]; rfl))
        · obtain rfl := Option.some.inj ho
          have h4 : x 4 = .string ⟨#[40, 49, 44, 32, 39, 97, 39, 44, 32, 78, 85, 76, 76, 41]⟩ := hd 4 (by kernel_rfl)
          simp only [h4] at hK ⊢
          clear hd
          rw [if_pos (by rfl)]
          try dsimp only at hK ⊢
          go_simp
          exact hK.out _ W (Below.refl _ _) rfl
        · obtain rfl := Option.some.inj ho
          have h5 : x 5 = .bool true := hd 5 (by kernel_rfl)
          simp only [h5] at hK ⊢
          clear hd
          rw [if_pos (by rfl)]
          try dsimp only at hK ⊢
          go_simp
          exact hK.out _ W (Below.refl _ _) rfl
        · obtain rfl := Option.some.inj ho
          have h6 : x 6 = .bool true := hd 6 (by kernel_rfl)
          simp only [h6] at hK ⊢
          clear hd
          rw [if_pos (by rfl)]
          try dsimp only at hK ⊢
          go_simp
          exact hK.out _ W (Below.refl _ _) rfl
        · obtain rfl := Option.some.inj ho
          have h6 : x 6 = .bool true := hd 6 (by kernel_rfl)
          simp only [h6] at hK ⊢
          have h7 : x 7 = .slice (some ad3) 3 c3 := hd 7 (by kernel_rfl)
          simp only [h7] at hK ⊢
          clear hd
          rw [if_pos (by rfl)]
          try dsimp only at hK ⊢
          go_simp
          exact hK.out _ W (Below.refl _ _) rfl
        · obtain rfl := Option.some.inj ho
          have h6 : x 6 = .bool true := hd 6 (by kernel_rfl)
          simp only [h6] at hK ⊢
          have h8 : x 8 = .int .i64 3 := hd 8 (by kernel_rfl)
          simp only [h8] at hK ⊢
          clear hd
          rw [if_pos (by rfl)]
          try dsimp only at hK ⊢
          go_simp
          exact hK.out _ W (Below.refl _ _) rfl
        · obtain rfl := Option.some.inj ho
          have h6 : x 6 = .bool true := hd 6 (by kernel_rfl)
          simp only [h6] at hK ⊢
          have h9 : x 9 = .bool true := hd 9 (by kernel_rfl)
          simp only [h9] at hK ⊢
          clear hd
          rw [if_pos (by rfl)]
          try dsimp only at hK ⊢
          go_simp
          exact hK.out _ W (Below.refl _ _) rfl
        · obtain rfl := Option.some.inj ho
          have h10 : x 10 = .bool true := hd 10 (by kernel_rfl)
          simp only [h10] at hK ⊢
          clear hd
          rw [if_pos (by rfl)]
          try dsimp only at hK ⊢
          go_simp
          exact hK.out _ W (Below.refl _ _) rfl
        · obtain rfl := Option.some.inj ho
          have h11 : x 11 = .bool true := hd 11 (by kernel_rfl)
          simp only [h11] at hK ⊢
          clear hd
          rw [if_pos (by rfl)]
          try dsimp only at hK ⊢
          go_simp
          exact hK.out _ W (Below.refl _ _) rfl
        · obtain rfl := Option.some.inj ho
          have h11 : x 11 = .bool true := hd 11 (by kernel_rfl)
          simp only [h11] at hK ⊢
          have h12 : x 12 = .slice (some ad3) 3 c3 := hd 12 (by kernel_rfl)
          simp only [h12] at hK ⊢
          clear hd
          rw [if_pos (by rfl)]
          try dsimp only at hK ⊢
          go_simp
          exact hK.out _ W (Below.refl _ _) rfl
        · obtain rfl := Option.some.inj ho
          have h11 : x 11 = .bool true := hd 11 (by kernel_rfl)
          simp only [h11] at hK ⊢
          have h13 : x 13 = .pointer (some ad3) := hd 13 (by kernel_rfl)
          simp only [h13] at hK ⊢
          obtain ⟨k0, k1, k2⟩ := HC3.out W hb
          clear hd
          rw [if_pos (by rfl)]
          try dsimp only at hK ⊢
          go_simp
          exact hK.out _ W (Below.refl _ _) rfl
        · obtain rfl := Option.some.inj ho
          have h11 : x 11 = .bool true := hd 11 (by kernel_rfl)
          simp only [h11] at hK ⊢
          clear hd
          rw [if_pos (by rfl)]
          try dsimp only at hK ⊢
          go_simp
          (go_at_call 15; refine (int2 _).mono ?_; rintro e W1 ⟨rfl, hb1⟩; exact hK.out _ W1 hb1 rfl)
        · obtain rfl := Option.some.inj ho
          have h11 : x 11 = .bool true := hd 11 (by kernel_rfl)
          simp only [h11] at hK ⊢
          obtain ⟨k0, k1, k2⟩ := HA.out W hb
          clear hd
          rw [if_pos (by rfl)]
          try dsimp only at hK ⊢
          go_simp
          exact hK.out _ W (Below.refl _ _) rfl
        · obtain rfl := Option.some.inj ho
          have h11 : x 11 = .bool true := hd 11 (by kernel_rfl)
          simp only [h11] at hK ⊢
          have h15 : x 15 = .agg #[.int .i64 1, .int .i64 2, .string ⟨#[]⟩] := hd 15 (by kernel_rfl)
          simp only [h15] at hK ⊢
          have h16 : x 16 = .agg #[.int .i64 2, .int .i64 0, .string ⟨#[97]⟩] := hd 16 (by kernel_rfl)
          simp only [h16] at hK ⊢
          clear hd
          rw [if_pos (by rfl)]
          try dsimp only at hK ⊢
          go_simp
          exact hK.out _ _ (bel_mark W _) (own_rowC W [vI 2, vA] _ rfl (by decide))
        · obtain rfl := Option.some.inj ho
          have h11 : x 11 = .bool true := hd 11 (by kernel_rfl)
          simp only [h11] at hK ⊢
          have h14 : x 14 = .slice A0 2 c0 := hd 14 (by kernel_rfl)
          simp only [h14] at hK ⊢
          have h17 : RdN W 0 W.heap.size (x 17) [vI 2, vA] := hd 17 (by kernel_rfl)
          obtain ⟨A17, c17, e17, q17⟩ := id h17.1
          clear q17
          simp only [e17] at hK ⊢
          rw [e17] at h17
          replace h17 := Lib.hid h17
          have HRU := Lib.hid (HR.out W hb)
          clear hd
          rw [if_pos (by rfl)]
          try dsimp only at hK ⊢
          go_simp
          (go_at_call 19; refine (pEqual_any _ _ [vI 2, vA] [vI 2, vA] W 0 0 HRU.out.1.1 h17.out.1).mono ?_; rintro e W1 ⟨rfl, hb1⟩; exact hK.out _ W1 hb1 (by rw [ex_c1]; rfl))
        · obtain rfl := Option.some.inj ho
          have h11 : x 11 = .bool true := hd 11 (by kernel_rfl)
          simp only [h11] at hK ⊢
          have h18 : x 18 = .bool true := hd 18 (by kernel_rfl)
          simp only [h18] at hK ⊢
          clear hd
          rw [if_pos (by rfl)]
          try dsimp only at hK ⊢
          go_simp
          exact hK.out _ W (Below.refl _ _) rfl
        · obtain rfl := Option.some.inj ho
          have h19 : x 19 = .bool true := hd 19 (by kernel_rfl)
          simp only [h19] at hK ⊢
          clear hd
          rw [if_pos (by rfl)]
          try dsimp only at hK ⊢
          go_simp
          exact hK.out _ W (Below.refl _ _) rfl
        · obtain rfl := Option.some.inj ho
          have h20 : x 20 = .bool true := hd 20 (by kernel_rfl)
          simp only [h20] at hK ⊢
          clear hd
          rw [if_pos (by rfl)]
          try dsimp only at hK ⊢
          go_simp
          exact hK.out _ W (Below.refl _ _) rfl
        · obtain rfl := Option.some.inj ho
          have h20 : x 20 = .bool true := hd 20 (by kernel_rfl)
          simp only [h20] at hK ⊢
          have h21 : x 21 = .slice (some ad3) 3 c3 := hd 21 (by kernel_rfl)
          simp only [h21] at hK ⊢
          clear hd
          rw [if_pos (by rfl)]
          try dsimp only at hK ⊢
          go_simp
          exact hK.out _ W (Below.refl _ _) rfl
        · obtain rfl := Option.some.inj ho
          have h20 : x 20 = .bool true := hd 20 (by kernel_rfl)
          simp only [h20] at hK ⊢
          have h22 : x 22 = .pointer (some (ad3.add 2)) := hd 22 (by kernel_rfl)
          simp only [h22] at hK ⊢
          obtain ⟨k0, k1, k2⟩ := HC3.out W hb
          clear hd
          rw [if_pos (by rfl)]
          try dsimp only at hK ⊢
          go_simp
          exact hK.out _ W (Below.refl _ _) rfl
        · obtain rfl := Option.some.inj ho
          have h20 : x 20 = .bool true := hd 20 (by kernel_rfl)
          simp only [h20] at hK ⊢
          clear hd
          rw [if_pos (by rfl)]
          try dsimp only at hK ⊢
          go_simp
          (go_at_call 15; refine (int1 _).mono ?_; rintro e W1 ⟨rfl, hb1⟩; exact hK.out _ W1 hb1 rfl)
        · obtain rfl := Option.some.inj ho
          have h20 : x 20 = .bool true := hd 20 (by kernel_rfl)
          simp only [h20] at hK ⊢
          obtain ⟨k0, k1, k2⟩ := HB.out W hb
          clear hd
          rw [if_pos (by rfl)]
          try dsimp only at hK ⊢
          go_simp
          exact hK.out _ W (Below.refl _ _) rfl
        · obtain rfl := Option.some.inj ho
          have h20 : x 20 = .bool true := hd 20 (by kernel_rfl)
          simp only [h20] at hK ⊢
          have h24 : x 24 = .agg #[.int .i64 1, .int .i64 1, .string ⟨#[]⟩] := hd 24 (by kernel_rfl)
          simp only [h24] at hK ⊢
          have h25 : x 25 = .agg #[.int .i64 2, .int .i64 0, .string ⟨#[98]⟩] := hd 25 (by kernel_rfl)
          simp only [h25] at hK ⊢
          clear hd
          rw [if_pos (by rfl)]
          try dsimp only at hK ⊢
          go_simp
          exact hK.out _ _ (bel_mark W _) (own_rowC W [vI 1, vB] _ rfl (by decide))
        · obtain rfl := Option.some.inj ho
          have h20 : x 20 = .bool true := hd 20 (by kernel_rfl)
          simp only [h20] at hK ⊢
          have h23 : x 23 = .slice A2 2 c2 := hd 23 (by kernel_rfl)
          simp only [h23] at hK ⊢
          have h26 : RdN W 0 W.heap.size (x 26) [vI 1, vB] := hd 26 (by kernel_rfl)
          obtain ⟨A26, c26, e26, q26⟩ := id h26.1
          clear q26
          simp only [e26] at hK ⊢
          rw [e26] at h26
          replace h26 := Lib.hid h26
          have HRU := Lib.hid (HR.out W hb)
          clear hd
          rw [if_pos (by rfl)]
          try dsimp only at hK ⊢
          go_simp
          (go_at_call 19; refine (pEqual_any _ _ [vI 1, vB] [vI 1, vB] W 0 0 HRU.out.2.2.1 h26.out.1).mono ?_; rintro e W1 ⟨rfl, hb1⟩; exact hK.out _ W1 hb1 (by rw [ex_c2]; rfl))
        · obtain rfl := Option.some.inj ho
          have h20 : x 20 = .bool true := hd 20 (by kernel_rfl)
          simp only [h20] at hK ⊢
          have h27 : x 27 = .bool true := hd 27 (by kernel_rfl)
          simp only [h27] at hK ⊢
          clear hd
          rw [if_pos (by rfl)]
          try dsimp only at hK ⊢
          go_simp
          exact hK.out _ W (Below.refl _ _) rfl
        · obtain rfl := Option.some.inj ho
          have h28 : x 28 = .bool true := hd 28 (by kernel_rfl)
          simp only [h28] at hK ⊢
          clear hd
          rw [if_pos (by rfl)]
          try dsimp only at hK ⊢
          go_simp
          exact hK.out _ W (Below.refl _ _) rfl
        · obtain rfl := Option.some.inj ho
          have h29 : x 29 = .bool true := hd 29 (by kernel_rfl)
          simp only [h29] at hK ⊢
          clear hd
          rw [if_pos (by rfl)]
          try dsimp only at hK ⊢
          go_simp
          exact hK.out _ W (Below.refl _ _) rfl
        · obtain rfl := Option.some.inj ho
          have h29 : x 29 = .bool true := hd 29 (by kernel_rfl)
          simp only [h29] at hK ⊢
          have h30 : x 30 = .slice (some ad4) 2 c4 := hd 30 (by kernel_rfl)
          simp only [h30] at hK ⊢
          clear hd
          rw [if_pos (by rfl)]
          try dsimp only at hK ⊢
          go_simp
          exact hK.out _ W (Below.refl _ _) rfl
        · obtain rfl := Option.some.inj ho
          have h29 : x 29 = .bool true := hd 29 (by kernel_rfl)
          simp only [h29] at hK ⊢
          have h31 : x 31 = .int .i64 2 := hd 31 (by kernel_rfl)
          simp only [h31] at hK ⊢
          clear hd
          rw [if_pos (by rfl)]
          try dsimp only at hK ⊢
          go_simp
          exact hK.out _ W (Below.refl _ _) rfl
        · obtain rfl := Option.some.inj ho
          have h29 : x 29 = .bool true := hd 29 (by kernel_rfl)
          simp only [h29] at hK ⊢
          have h32 : x 32 = .bool true := hd 32 (by kernel_rfl)
          simp only [h32] at hK ⊢
          clear hd
          rw [if_pos (by rfl)]
          try dsimp only at hK ⊢
          go_simp
          exact hK.out _ W (Below.refl _ _) rfl
        · obtain rfl := Option.some.inj ho
          have h33 : x 33 = .bool true := hd 33 (by kernel_rfl)
          simp only [h33] at hK ⊢
          clear hd
          rw [if_pos (by rfl)]
          try dsimp only at hK ⊢
          go_simp
          exact hK.out _ W (Below.refl _ _) rfl
        · obtain rfl := Option.some.inj ho
          have h34 : x 34 = .bool true := hd 34 (by kernel_rfl)
          simp only [h34] at hK ⊢
          clear hd
          rw [if_pos (by rfl)]
          try dsimp only at hK ⊢
          go_simp
          exact hK.out _ W (Below.refl _ _) rfl
        · obtain rfl := Option.some.inj ho
          have h34 : x 34 = .bool true := hd 34 (by kernel_rfl)
          simp only [h34] at hK ⊢
          have h35 : x 35 = .slice (some ad4) 2 c4 := hd 35 (by kernel_rfl)
          simp only [h35] at hK ⊢
          clear hd
          rw [if_pos (by rfl)]
          try dsimp only at hK ⊢
          go_simp
          exact hK.out _ W (Below.refl _ _) rfl
        · obtain rfl := Option.some.inj ho
          have h34 : x 34 = .bool true := hd 34 (by kernel_rfl)
          simp only [h34] at hK ⊢
          have h36 : x 36 = .pointer (some ad4) := hd 36 (by kernel_rfl)
          simp only [h36] at hK ⊢
          obtain ⟨k0, k1, k2, k3, k4, k5⟩ := HC4.out W hb
          clear hd
          rw [if_pos (by rfl)]
          try dsimp only at hK ⊢
          go_simp
          exact hK.out _ W (Below.refl _ _) rfl
        · obtain rfl := Option.some.inj ho
          have h34 : x 34 = .bool true := hd 34 (by kernel_rfl)
          simp only [h34] at hK ⊢
          obtain ⟨k0, k1, k2⟩ := HB.out W hb
          clear hd
          rw [if_pos (by rfl)]
          try dsimp only at hK ⊢
          go_simp
          exact hK.out _ W (Below.refl _ _) rfl
        · obtain rfl := Option.some.inj ho
          have h34 : x 34 = .bool true := hd 34 (by kernel_rfl)
          simp only [h34] at hK ⊢
          have h37 : x 37 = .agg #[.int .i64 2, .int .i64 0, .string ⟨#[98]⟩] := hd 37 (by kernel_rfl)
          simp only [h37] at hK ⊢
          have h38 : x 38 = .agg #[.int .i64 2, .int .i64 0, .string ⟨#[98]⟩] := hd 38 (by kernel_rfl)
          simp only [h38] at hK ⊢
          have q := fun W => Va.eql_self 2 0 ⟨#[98]⟩ W
          clear hd
          rw [if_pos (by rfl)]
          try dsimp only at hK ⊢
          go_simp
          exact hK.out _ W (Below.refl _ _) rfl
        · obtain rfl := Option.some.inj ho
          have h34 : x 34 = .bool true := hd 34 (by kernel_rfl)
          simp only [h34] at hK ⊢
          have h39 : x 39 = .bool true := hd 39 (by kernel_rfl)
          simp only [h39] at hK ⊢
          clear hd
          rw [if_pos (by rfl)]
          try dsimp only at hK ⊢
          go_simp
          exact hK.out _ W (Below.refl _ _) rfl
        · obtain rfl := Option.some.inj ho
          have h40 : x 40 = .bool true := hd 40 (by kernel_rfl)
          simp only [h40] at hK ⊢
          clear hd
          rw [if_pos (by rfl)]
          try dsimp only at hK ⊢
          go_simp
          exact hK.out _ W (Below.refl _ _) rfl
        · obtain rfl := Option.some.inj ho
          have h41 : x 41 = .bool true := hd 41 (by kernel_rfl)
          simp only [h41] at hK ⊢
          clear hd
          rw [if_pos (by rfl)]
          try dsimp only at hK ⊢
          go_simp
          exact hK.out _ W (Below.refl _ _) rfl
        · obtain rfl := Option.some.inj ho
          have h41 : x 41 = .bool true := hd 41 (by kernel_rfl)
          simp only [h41] at hK ⊢
          have h42 : x 42 = .slice (some ad4) 2 c4 := hd 42 (by kernel_rfl)
          simp only [h42] at hK ⊢
          clear hd
          rw [if_pos (by rfl)]
          try dsimp only at hK ⊢
          go_simp
          exact hK.out _ W (Below.refl _ _) rfl
        · obtain rfl := Option.some.inj ho
          have h41 : x 41 = .bool true := hd 41 (by kernel_rfl)
          simp only [h41] at hK ⊢
          have h43 : x 43 = .pointer (some (ad4.add 3)) := hd 43 (by kernel_rfl)
          simp only [h43] at hK ⊢
          obtain ⟨k0, k1, k2, k3, k4, k5⟩ := HC4.out W hb
          clear hd
          rw [if_pos (by rfl)]
          try dsimp only at hK ⊢
          go_simp
          exact hK.out _ W (Below.refl _ _) rfl
        · obtain rfl := Option.some.inj ho
          have h41 : x 41 = .bool true := hd 41 (by kernel_rfl)
          simp only [h41] at hK ⊢
          clear hd
          rw [if_pos (by rfl)]
          try dsimp only at hK ⊢
          go_simp
          (go_at_call 18; refine (gNull_any _).mono ?_; rintro e W1 ⟨rfl, hb1, _⟩; exact hK.out _ W1 hb1 rfl)
        · obtain rfl := Option.some.inj ho
          have h41 : x 41 = .bool true := hd 41 (by kernel_rfl)
          simp only [h41] at hK ⊢
          have h44 : x 44 = .agg #[.int .i64 0, .int .i64 0, .string ⟨#[]⟩] := hd 44 (by kernel_rfl)
          simp only [h44] at hK ⊢
          have h45 : x 45 = .agg #[.int .i64 0, .int .i64 0, .string ⟨#[]⟩] := hd 45 (by kernel_rfl)
          simp only [h45] at hK ⊢
          have q := fun W => Va.eql_self 0 0 ⟨#[]⟩ W
          clear hd
          rw [if_pos (by rfl)]
          try dsimp only at hK ⊢
          go_simp
          exact hK.out _ W (Below.refl _ _) rfl
        · obtain rfl := Option.some.inj ho
          have h41 : x 41 = .bool true := hd 41 (by kernel_rfl)
          simp only [h41] at hK ⊢
          have h46 : x 46 = .bool true := hd 46 (by kernel_rfl)
          simp only [h46] at hK ⊢
          clear hd
          rw [if_pos (by rfl)]
          try dsimp only at hK ⊢
          go_simp
          exact hK.out _ W (Below.refl _ _) rfl
        · obtain rfl := Option.some.inj ho
          have h47 : x 47 = .bool true := hd 47 (by kernel_rfl)
          simp only [h47] at hK ⊢
          clear hd
          rw [if_pos (by rfl)]
          try dsimp only at hK ⊢
          go_simp
          exact hK.out _ W (Below.refl _ _) rfl
        · obtain rfl := Option.some.inj ho
          have h48 : x 48 = .bool true := hd 48 (by kernel_rfl)
          simp only [h48] at hK ⊢
          clear hd
          rw [if_pos (by rfl)]
          try dsimp only at hK ⊢
          go_simp
          exact hK.out _ W (Below.refl _ _) rfl
        · obtain rfl := Option.some.inj ho
          have h48 : x 48 = .bool true := hd 48 (by kernel_rfl)
          simp only [h48] at hK ⊢
          have h49 : x 49 = .slice (some ad3) 3 c3 := hd 49 (by kernel_rfl)
          simp only [h49] at hK ⊢
          clear hd
          rw [if_pos (by rfl)]
          try dsimp only at hK ⊢
          go_simp
          exact hK.out _ W (Below.refl _ _) rfl
        · obtain rfl := Option.some.inj ho
          have h48 : x 48 = .bool true := hd 48 (by kernel_rfl)
          simp only [h48] at hK ⊢
          have h50 : x 50 = .pointer (some ad3) := hd 50 (by kernel_rfl)
          simp only [h50] at hK ⊢
          obtain ⟨k0, k1, k2⟩ := HC3.out W hb
          clear hd
          rw [if_pos (by rfl)]
          try dsimp only at hK ⊢
          go_simp
          exact hK.out _ W (Below.refl _ _) rfl
        · obtain rfl := Option.some.inj ho
          have h48 : x 48 = .bool true := hd 48 (by kernel_rfl)
          simp only [h48] at hK ⊢
          clear hd
          rw [if_pos (by rfl)]
          try dsimp only at hK ⊢
          go_simp
          exact hK.out _ W (Below.refl _ _) rfl
        · obtain rfl := Option.some.inj ho
          have h48 : x 48 = .bool true := hd 48 (by kernel_rfl)
          simp only [h48] at hK ⊢
          have h52 : x 52 = .slice (some ad3) 3 c3 := hd 52 (by kernel_rfl)
          simp only [h52] at hK ⊢
          clear hd
          rw [if_pos (by rfl)]
          try dsimp only at hK ⊢
          go_simp
          exact hK.out _ W (Below.refl _ _) rfl
        · obtain rfl := Option.some.inj ho
          have h48 : x 48 = .bool true := hd 48 (by kernel_rfl)
          simp only [h48] at hK ⊢
          have h53 : x 53 = .pointer (some (ad3.add 1)) := hd 53 (by kernel_rfl)
          simp only [h53] at hK ⊢
          obtain ⟨k0, k1, k2⟩ := HC3.out W hb
          clear hd
          rw [if_pos (by rfl)]
          try dsimp only at hK ⊢
          go_simp
          exact hK.out _ W (Below.refl _ _) rfl
        · obtain rfl := Option.some.inj ho
          have h48 : x 48 = .bool true := hd 48 (by kernel_rfl)
          simp only [h48] at hK ⊢
          have h51 : x 51 = .slice A0 2 c0 := hd 51 (by kernel_rfl)
          simp only [h51] at hK ⊢
          have h54 : x 54 = .slice A1 2 c1 := hd 54 (by kernel_rfl)
          simp only [h54] at hK ⊢
          have HRU := Lib.hid (HR.out W hb)
          clear hd
          rw [if_pos (by rfl)]
          try dsimp only at hK ⊢
          go_simp
          (go_at_call 19; refine (pEqual_any _ _ [vI 2, vA] [vI 1, vA] W 0 0 HRU.out.1.1 HRU.out.2.1.1).mono ?_; rintro e W1 ⟨rfl, hb1⟩; exact hK.out _ W1 hb1 (by rw [ex_c3]; rfl))
        · obtain rfl := Option.some.inj ho
          have h48 : x 48 = .bool true := hd 48 (by kernel_rfl)
          simp only [h48] at hK ⊢
          have h55 : x 55 = .bool false := hd 55 (by kernel_rfl)
          simp only [h55] at hK ⊢
          clear hd
          rw [if_pos (by rfl)]
          try dsimp only at hK ⊢
          go_simp
          exact hK.out _ W (Below.refl _ _) rfl
        · obtain rfl := Option.some.inj ho
          have h48 : x 48 = .bool true := hd 48 (by kernel_rfl)
          simp only [h48] at hK ⊢
          have h56 : x 56 = .bool true := hd 56 (by kernel_rfl)
          simp only [h56] at hK ⊢
          clear hd
          rw [if_pos (by rfl)]
          try dsimp only at hK ⊢
          go_simp
          exact hK.out _ W (Below.refl _ _) rfl
        · obtain rfl := Option.some.inj ho
          have h57 : x 57 = .bool true := hd 57 (by kernel_rfl)
          simp only [h57] at hK ⊢
          clear hd
          rw [if_pos (by rfl)]
          try dsimp only at hK ⊢
          go_simp
          exact hK.out _ W (Below.refl _ _) rfl
      · intro x U hb hf
        have h58 : x 58 = .bool true := hf 58 (by decide)
        have BU := Lib.hid (BW.out.trans (hb.mono BW.out.size))
        clear hf hb
        try dsimp only
        rw [h58]
        clear h58
        generalize x 0 = t0
        generalize x 1 = t1
        generalize x 2 = t2
        generalize x 3 = t3
        generalize x 4 = t4
        generalize x 5 = t5
        generalize x 6 = t6
        generalize x 7 = t7
        generalize x 8 = t8
        generalize x 9 = t9
        generalize x 10 = t10
        generalize x 11 = t11
        generalize x 12 = t12
        generalize x 13 = t13
        generalize x 14 = t14
        generalize x 15 = t15
        generalize x 16 = t16
        generalize x 17 = t17
        generalize x 18 = t18
        generalize x 19 = t19
        generalize x 20 = t20
        generalize x 21 = t21
        generalize x 22 = t22
        generalize x 23 = t23
        generalize x 24 = t24
        generalize x 25 = t25
        generalize x 26 = t26
        generalize x 27 = t27
        generalize x 28 = t28
        generalize x 29 = t29
        generalize x 30 = t30
        generalize x 31 = t31
        generalize x 32 = t32
        generalize x 33 = t33
        generalize x 34 = t34
        generalize x 35 = t35
        generalize x 36 = t36
        generalize x 37 = t37
        generalize x 38 = t38
        generalize x 39 = t39
        generalize x 40 = t40
        generalize x 41 = t41
        generalize x 42 = t42
        generalize x 43 = t43
        generalize x 44 = t44
        generalize x 45 = t45
        generalize x 46 = t46
        generalize x 47 = t47
        generalize x 48 = t48
        generalize x 49 = t49
        generalize x 50 = t50
        generalize x 51 = t51
        generalize x 52 = t52
        generalize x 53 = t53
        generalize x 54 = t54
        generalize x 55 = t55
        generalize x 56 = t56
        generalize x 57 = t57
        clear x
        go_wp2
        go_ret
        exact ⟨rfl, BU.out⟩
end Go.Proofs.YtimmfckkgdlokaaGreatDoor
