/-
  Contract of network.constraints: the constraint of each pair. Conditions: at most eight periods, the sets' numbers are below 2^13.
-/
import Derived.Test.YtmmecpmeemhglaaDoorRef
import Derived.Test.YtmmecpmeemhglaaDoorEmp
import Derived.Maps.AppendAt
import Derived.WalkKit
import Derived.WalkSpells
import Derived.WalkLawsBesides
import Derived.Deep.QuietTactic
import Derived.BigQuiet
import Derived.Handy
import Derived.Lib.Hide
namespace Go.Proofs.YtmmecpmeemhglaaDoor
open Go.RowKit

def flatE (es : List (Con × Value)) : List Value := es.flatMap fun p => [.int .i64 p.1.a, .int .i64 p.1.b, p.2]
theorem flatE_snoc (es : List (Con × Value)) (p : Con × Value) : flatE (es ++ [p]) = flatE es ++ [.int .i64 p.1.a, .int .i64 p.1.b, p.2] := by unfold flatE; simp
theorem flatE_len (es : List (Con × Value)) : (flatE es).length = es.length * 3 := by
  induction es with
  | nil => rfl
  | cons p es ih => unfold flatE at *; simp [ih]; omega
theorem flatE_at : ∀ (es : List (Con × Value)) (k : Nat) (p : Con × Value), es[k]? = some p → (flatE es)[k * 3]? = some (.int .i64 p.1.a) ∧ (flatE es)[k * 3 + 1]? = some (.int .i64 p.1.b) ∧ (flatE es)[k * 3 + 2]? = some p.2
  | [], k, p, h => by simp at h
  | q :: es, 0, p, h => by simp at h; subst h; exact ⟨rfl, rfl, rfl⟩
  | q :: es, k + 1, p, h => by
    have := flatE_at es k p (by simpa using h)
    have e : flatE (q :: es) = [.int .i64 q.1.a, .int .i64 q.1.b, q.2] ++ flatE es := rfl
    rw [e]
    refine ⟨?_, ?_, ?_⟩
    · rw [show (k + 1) * 3 = k * 3 + 3 by omega]; simpa using this.1
    · rw [show (k + 1) * 3 + 1 = (k * 3 + 1) + 3 by omega]; simpa using this.2.1
    · rw [show (k + 1) * 3 + 2 = (k * 3 + 2) + 3 by omega]; simpa using this.2.2

/-- The slice v holds the numbers l, below the heap's end and not below L, and not in the block X. -/
def AwayI (w : World) (L : Nat) (X : Option Nat) (v : Value) (l : List Int) : Prop :=
  ∃ A c, v = .slice A l.length c ∧ l.length ≤ 9223372036854775807 ∧ ∀ (k : Nat) (n : Int), l[k]? = some n → ∃ ad : Addr, A = some ad ∧ L ≤ ad.block ∧ ad.block < w.heap.size ∧ some ad.block ≠ X ∧ w.cell? (ad.add k) = some (.int .i64 n)
theorem AwayI.rd {w : World} {L : Nat} {X : Option Nat} {v : Value} {l : List Int} (h : AwayI w L X v l) : RdI w L w.heap.size v l := by
  obtain ⟨A, c, hv, hl, hc⟩ := h
  exact ⟨A, c, hv, hl, fun k n hk => let ⟨ad, h1, h2, h3, _, h5⟩ := hc k n hk; ⟨ad, h1, h2, h3, h5⟩⟩
theorem AwayI.of {w : World} {L L' : Nat} {X : Option Nat} {v : Value} {l : List Int} (h : RdI w L' w.heap.size v l) (hL : L ≤ L') (hX : ∀ g, X = some g → g < L') : AwayI w L X v l := by
  obtain ⟨A, c, hv, hl, hc⟩ := h
  refine ⟨A, c, hv, hl, fun k n hk => ?_⟩
  obtain ⟨ad, h1, h2, h3, h5⟩ := hc k n hk
  exact ⟨ad, h1, by omega, h3, fun e => by have := hX _ e.symm; omega, h5⟩
theorem AwayI.below {w w' : World} {L : Nat} {X : Option Nat} {v : Value} {l : List Int} (h : AwayI w L X v l) (hb : Below w.heap.size w w') : AwayI w' L X v l := by
  obtain ⟨A, c, hv, hl, hc⟩ := h
  refine ⟨A, c, hv, hl, fun k n hk => ?_⟩
  obtain ⟨ad, h1, h2, h3, h4, h5⟩ := hc k n hk
  exact ⟨ad, h1, h2, Nat.lt_of_lt_of_le h3 hb.size, h4, (hb.cell (p := ad.add k) (by rw [add_block]; exact h3)).trans h5⟩
theorem cell_of_heap {w w' : World} {p : Addr} (h : w'.heap[p.block]? = w.heap[p.block]?) : w'.cell? p = w.cell? p := by
  unfold World.cell?
  rw [h]
theorem AwayI.grown {w w' : World} {L : Nat} {X X' : Option Nat} {v : Value} {l : List Int} (h : AwayI w L X v l) (hg : w.grownBy w' X) (hX : X' = X ∨ X' = some w.heap.size) : AwayI w' L X' v l := by
  obtain ⟨A, c, hv, hl, hc⟩ := h
  refine ⟨A, c, hv, hl, fun k n hk => ?_⟩
  obtain ⟨ad, h1, h2, h3, h4, h5⟩ := hc k n hk
  refine ⟨ad, h1, h2, Nat.lt_of_lt_of_le h3 hg.size, ?_, ?_⟩
  · rcases hX with rfl | rfl
    · exact h4
    · intro e; injection e; omega
  · refine (cell_of_heap ?_).trans h5
    rw [add_block]
    exact hg.block _ h3 h4

/-- A row of constraints that grows: the call's own, its lists besides. -/
def GrC (w : World) (base : Nat) (v : Value) (l : List Con) : Prop :=
  ∃ es : List (Con × Value), es.map (·.1) = l ∧ w.ownsRow base 50 3 v es.length (flatE es) ∧ base ≤ w.heap.size ∧ ∀ p ∈ es, AwayI w base v.ownBlock p.2 p.1.r
theorem GrC.rd {w : World} {base : Nat} {v : Value} {l : List Con} (h : GrC w base v l) (hl : l.length ≤ 9223372036854775807) : RdC w base w.heap.size v l := by
  obtain ⟨es, rfl, hown, hb, hp⟩ := h
  rcases hown.2 with ⟨rfl, h0⟩ | ⟨g, cap, cur, rfl, hbg, hh, hn, hc, hs, ht⟩
  · obtain rfl := List.eq_nil_of_length_eq_zero h0
    exact ⟨none, 0, rfl, hl, fun k n hk => by simp at hk⟩
  · have hg : g < w.heap.size := by
      rcases Nat.lt_or_ge g w.heap.size with h1 | h1
      · exact h1
      · rw [Array.getElem?_eq_none h1] at hh; cases hh
    refine ⟨some ⟨g, 0, none⟩, cap, by rw [List.length_map], hl, fun k e hk => ?_⟩
    rw [List.getElem?_map] at hk
    cases hek : es[k]? with
    | none => rw [hek] at hk; cases hk
    | some p =>
      rw [hek] at hk
      obtain rfl : p.1 = e := by simpa using hk
      have hkl : k < es.length := (List.getElem?_eq_some_iff.1 hek).1
      obtain ⟨f0, f1, f2⟩ := flatE_at es k p hek
      have cellAt : ∀ i u, i < es.length * 3 → (flatE es)[i]? = some u → w.cell? ⟨g, i, none⟩ = some u := by
        intro i u hi hu
        have e : w.cell? ⟨g, i, none⟩ = cur[i]? := cell_of_row w g i cur _ _ hh
        rw [e, ← hu, ← ht, ← Array.getElem?_toList, List.getElem?_take, if_pos hi]
      have ea : (Addr.add ⟨g, 0, none⟩ (k * 3)) = ⟨g, k * 3, none⟩ := by
        unfold Addr.add
        split
        · rename_i h; rw [h]
        · simp
      refine ⟨⟨g, 0, none⟩, p.2, rfl, hbg, hg, ?_, ?_, ?_, (hp p (List.mem_of_getElem? hek)).rd⟩
      · rw [ea]; exact cellAt _ _ (by omega) f0
      · rw [ea]; exact cellAt (k * 3 + 1) _ (by omega) f1
      · rw [ea]; exact cellAt (k * 3 + 2) _ (by omega) f2
theorem GrC.below {w w' : World} {base : Nat} {v : Value} {l : List Con} (h : GrC w base v l) (hb : Below w.heap.size w w') : GrC w' base v l := by
  obtain ⟨es, rfl, hown, hbs, hp⟩ := h
  exact ⟨es, rfl, own_below hown hb, Nat.le_trans hbs hb.size, fun p h => (hp p h).below hb⟩
theorem GrC.own_lt {w : World} {base : Nat} {v : Value} {l : List Con} (h : GrC w base v l) : ∀ g, v.ownBlock = some g → g < w.heap.size := by
  intro g hg
  obtain ⟨es, _, hown, _⟩ := h
  exact (hown.lt g hg).2
theorem infoCon : (Tryd.prog.info? 50).map (fun i => (i.zero, i.size, i.bytes)) = some (some (.agg #[.int .i64 0, .int .i64 0, .slice none 0 0]), 3, 40) := by kernel_rfl
theorem append_con {ops : Array Oper} {rest : List Oper} {o : Oper} {a : Act} {Q : Exit → Act → World → Prop} (W : World) (hgd : o.guard = none) (s x : Operand)
    (ho : o.op = .call { callee := .builtin .append, args := #[s, x], argTypes := #[40, 40] }) (base : Nat) (v : Value) (l : List Con) (hs : a.eval s = v)
    (hown : GrC W base v l) (ad : Addr) (c : Con) (rv : Value) (hrv : AwayI W base v.ownBlock rv c.r) (hx : a.eval x = .slice (some ad) 1 1)
    (hnew : ∀ j u, [Value.int .i64 c.a, Value.int .i64 c.b, rv][j]? = some u → W.cell? (ad.add j) = some u) (hl : l.length ≤ 1000)
    (h : ∀ v' w', GrC w' base v' (l ++ [c]) → Below base W w' → wpList Tryd.prog ops Q rest (a.put o.dst v') w') :
    wpList Tryd.prog ops Q (o :: rest) a W := by
  obtain ⟨i0, hi, hz0, hz1, hz2⟩ := info_parts infoCon
  obtain ⟨es, rfl, hown, hbase, hp⟩ := hown
  rw [List.length_map] at hl
  have h1 : rv.oneCell' = true := by obtain ⟨A, c, rfl, _⟩ := hrv; rfl
  refine wpList_append_own_at _ hgd s x 40 ho base 50 i0 (.agg #[.int .i64 0, .int .i64 0, .slice none 0 0]) 3 40 Tryd.underlying40 hi hz0 hz1 hz2 rfl (by decide) v es.length (flatE es) hs hown ad 1 1 [.int .i64 c.a, .int .i64 c.b, rv] hx rfl
    hnew (fun u hu => by simp at hu; rcases hu with rfl | rfl | rfl; rfl; rfl; exact h1) (by unfold maxLen; omega) (by omega) hbase ?_
  intro v' w' k1 k2 _ k3
  refine h v' w' ⟨es ++ [(c, rv)], by simp, by rw [flatE_snoc, List.length_append]; exact k1, Nat.le_trans hbase k2.size, fun p hpm => ?_⟩ ((Below.refl _ _).grown k2 hbase fun k hk => (hown.lt k hk).1)
  rcases List.mem_append.1 hpm with hq | hq
  · exact (hp p hq).grown k2 k3
  · simp at hq
    subst hq
    exact hrv.grown k2 k3
theorem cells_new (W : World) (x y z : Value) (t : TypeId) : ∀ j u, [x, y, z][j]? = some u → (W.alloc (.cells #[x, y, z] t)).cell? ((⟨W.heap.size, 0, none⟩ : Addr).add j) = some u := by
  intro j u hu
  match j, hu with
  | 0, hu => simp at hu; subst hu; simp [Addr.add]
  | 1, hu => simp at hu; subst hu; simp [Addr.add]
  | 2, hu => simp at hu; subst hu; simp [Addr.add]
  | j + 3, hu => simp at hu
theorem GrC.nil (W : World) (base : Nat) (hb : base ≤ W.heap.size) : GrC W base (.slice none 0 0) [] := ⟨[], rfl, World.ownsRow_nil W base _ 3, hb, fun _ h => by cases h⟩

/-- The constraints of the pairs of i (up to j), of all pairs of the first m periods. -/
def conRow (M : Net) (i j : Nat) : List Con := (List.range (j - (i + 1))).map fun x => ⟨(i : Int), ((i + 1 + x : Nat) : Int), mb (M i (i + 1 + x)) 13⟩
def conAll (n : Nat) (M : Net) (m : Nat) : List Con := (List.range m).flatMap fun i => conRow M i n
def conL (n : Nat) (M : Net) : List Con := conAll n M n
theorem conRow_succ (M : Net) (i j : Nat) (h : i + 1 ≤ j) : conRow M i (j + 1) = conRow M i j ++ [⟨(i : Int), (j : Int), mb (M i j) 13⟩] := by
  unfold conRow
  rw [show j + 1 - (i + 1) = (j - (i + 1)) + 1 by omega, List.range_succ, List.map_append]
  simp only [List.map_cons, List.map_nil]
  rw [show i + 1 + (j - (i + 1)) = j by omega]
theorem conAll_succ (n : Nat) (M : Net) (m : Nat) : conAll n M (m + 1) = conAll n M m ++ conRow M m n := by
  unfold conAll; rw [List.range_succ, List.flatMap_append]; simp
theorem conRow_start (M : Net) (i : Nat) : conRow M i (i + 1) = [] := by unfold conRow; simp
theorem conRow_len (M : Net) (i j : Nat) : (conRow M i j).length = j - (i + 1) := by unfold conRow; simp
theorem conAll_len (n : Nat) (M : Net) (m : Nat) : (conAll n M m).length ≤ m * n := by
  induction m with
  | zero => simp [conAll]
  | succ m ih => rw [conAll_succ, List.length_append, conRow_len, Nat.add_mul]; omega

set_option maxRecDepth 100000 in
set_option maxHeartbeats 1600000 in
theorem cons_any (n : Nat) (M : Net) (w : World) (hn : n ≤ 8) (hM : Lo M) :
    Calls Tryd.prog 41 #[.agg (netA n M)] w fun e w' => ∃ v, e = .returned v ∧ RdC w' w.heap.size w'.heap.size v (conL n M) ∧ Below w.heap.size w w' := by
  have hN0 := netA_n n M
  have HN : Own (w.alloc (.cells (netA n M) 66)) w.heap.size 66 (netA n M) := Own.new _ _ _
  have HG : GrC (w.alloc (.cells (netA n M) 66)) (w.heap.size + 1) (.slice none 0 0) (conAll n M 0) := GrC.nil _ _ (by simp)
  have HB : Below w.heap.size w (w.alloc (.cells (netA n M) 66)) := (by (repeat' (first | (with_reducible exact Below.refl _ _) | (with_reducible assumption) | (with_reducible refine Below.alloc ?_ ?_ _) | (with_reducible refine Below.drew ?_) | (with_reducible refine Below.setCell ?_ ?_ _) | (with_reducible refine Below.trans ?_ (Below.mono (by assumption) ?_)) | go_size)))
  have HL : ∀ m, m ≤ n → (conAll n M m).length ≤ 64 := fun m hm => Nat.le_trans (conAll_len n M m) (Nat.le_trans (Nat.mul_le_mul hm hn) (by omega))
  go_enter Tryd.func41, Tryd.ntmps41
  go_wp2
  generalize w.alloc (.cells (netA n M) 66) = W at *
  go_loopw [3, 8] (fun v c wr => ∃ i : Nat, i ≤ n ∧ c = .int .i64 i ∧ Own wr w.heap.size 66 (netA n M) ∧ GrC wr (w.heap.size + 1) v (conAll n M i) ∧ Below w.heap.size w wr) (fun _ c _ => n - (intOf c).toNat)
  case atStart => exact ⟨0, by omega, rfl, HN, HG, HB⟩
  case round =>
    obtain ⟨i, hi, rfl, o0, og, hbr⟩ := hrel
    by_cases hlt : i < n
    · have hCS := Lib.hid (conAll_succ n M i)
      have hLi := HL i hi
      have hdi : decide ((i : Int) < n) = true := by simp; omega
      have OG := Lib.hid (show GrC wr (w.heap.size + 1) _ (conAll n M i ++ conRow M i (i + 1)) from by rw [conRow_start, List.append_nil]; exact og)
      clear og
      go_wp2
      go_loopw [3, 5] (fun v c wi => ∃ j : Nat, i + 1 ≤ j ∧ j ≤ n ∧ c = .int .i64 j ∧ Own wi w.heap.size 66 (netA n M) ∧ GrC wi (w.heap.size + 1) v (conAll n M i ++ conRow M i j) ∧ Below w.heap.size w wi) (fun _ c _ => n - (intOf c).toNat)
      case atStart => exact ⟨i + 1, by omega, by omega, by go_num, o0, OG.out, hbr⟩
      case round =>
        obtain ⟨j, hj1, hj, rfl, q0, qg, hbi⟩ := hrel
        have k0 : wr.cell? ⟨w.heap.size, 0, none⟩ = some (.int .i64 (n : Nat)) := (q0.cell 0).trans (netA_n n M)
        by_cases hjt : j < n
        · have a8 : i < 8 := by omega
          have b8 : j < 8 := by omega
          have a8' : (i : Int) < 8 := by omega
          have b8' : (j : Int) < 8 := by omega
          have k1 := (q0.cell (1 + i * 8 + j)).trans (netA_get n M i j a8 b8)
          have hRS := Lib.hid (conRow_succ M i j hj1)
          have hLr := conRow_len M i j
          have hLL : (conAll n M i ++ conRow M i j).length ≤ 1000 := by rw [List.length_append]; omega
          have QG := Lib.hid qg
          clear qg
          have L0 := q0.lt
          have hbz := hbi.size
          go_wp2_with (first | (go_at_call 35; refine (list_any _ _ (hM i j)).mono ?_; rintro e w1 ⟨rv, rfl, hrv, hb1⟩; have hz1 := hb1.size; have hrv' := hrv; obtain ⟨A2, c2, rfl, hl2, _⟩ := hrv) | (at_builtin; refine append_con _ rfl _ _ rfl (w.heap.size + 1) _ _ rfl ((QG.out.below hb1).below ((Below.refl _ _).alloc (Nat.le_refl _) _)) ⟨w1.heap.size, 0, none⟩ ⟨(i : Int), (j : Int), mb (M i j) 13⟩ _ ((AwayI.of hrv' (by omega) QG.out.own_lt).below ((Below.refl _ _).alloc (Nat.le_refl _) _)) rfl ?_ hLL ?_; (focus (exact cells_new w1 _ _ _ _)); intro v2 w2 hg2 hb2))
          have bW1 : Below wr.heap.size wr (w1.alloc (.cells #[.int .i64 (i : Nat), .int .i64 (j : Nat), .slice A2 (mb (M i j) 13).length c2] 50)) := hb1.alloc hz1 _
          have bb : Below w.heap.size w w2 := (hbi.trans (bW1.mono hbz)).trans (hb2.mono (by omega))
          have oo := (q0.below bW1 L0).below hb2 (by omega)
          go_roundw
          case rel => exact ⟨j + 1, by omega, by omega, by go_num, oo, by rw [hRS.out, ← List.append_assoc]; exact hg2, bb⟩
          case measure => simp [intOf]; omega
        · have hjn : j = n := by omega
          subst hjn
          go_wp2
          go_roundw
          case rel => exact ⟨i + 1, by omega, by go_num, q0, by rw [hCS.out]; exact qg, hbi⟩
          case measure => simp [intOf]; omega
    · have hin : i = n := by omega
      subst hin
      have hl := HL i (Nat.le_refl _)
      have OG := Lib.hid og
      clear og
      go_wp2
      go_ret
      exact ⟨_, rfl, (OG.out.rd (by omega)).more (Nat.le_refl _) (by omega), hbr⟩
end Go.Proofs.YtmmecpmeemhglaaDoor
