/-
  Contract of permitted: the network of the relations that all constraints permit. Conditions: at most eight periods, valid constraints.
-/
import Derived.Test.YtmmecpmeemhglaaDoorVal
import Derived.Test.YtmmecpmeemhglaaDoorInv
import Derived.Laws.CopyOwn
import Derived.StillTailTactics
import Derived.Deep.WholeRow
import Derived.Deep.RegionHeld3
import Derived.WalkKit
import Derived.WalkSpells
import Derived.WalkLawsBesides
import Derived.Deep.QuietTactic
import Derived.BigQuiet
import Derived.Handy
import Derived.Lib.Hide
namespace Go.Proofs.YtmmecpmeemhglaaDoor
open Go.RowKit

abbrev Net := Nat → Nat → Nat
def upd (M : Net) (i j z : Nat) : Net := fun a b => if a = i ∧ b = j then z else M a b
def netL (M : Net) : List Nat := (List.range 64).map fun x => M (x / 8) (x % 8)
/-- The cells of a network of n periods. -/
def netA (n : Nat) (M : Net) : Array Value := (Value.int .i64 (n : Int) :: (netL M).map fun z : Nat => Value.int .u16 (z : Int)).toArray
theorem netL_len (M : Net) : (netL M).length = 64 := by unfold netL; simp
theorem netA_size (n : Nat) (M : Net) : (netA n M).size = 65 := by unfold netA; simp [netL_len]
theorem netA_n (n : Nat) (M : Net) : (netA n M)[0]? = some (.int .i64 (n : Int)) := rfl
theorem netA_get (n : Nat) (M : Net) (i j : Nat) (hi : i < 8) (hj : j < 8) : (netA n M)[1 + i * 8 + j]? = some (.int .u16 (M i j : Nat)) := by
  unfold netA
  rw [List.getElem?_toArray, show 1 + i * 8 + j = (i * 8 + j) + 1 by omega, List.getElem?_cons_succ]
  unfold netL
  rw [List.getElem?_map, List.getElem?_map, List.getElem?_range (by omega)]
  simp only [Option.map_some]
  rw [show (i * 8 + j) / 8 = i by omega, show (i * 8 + j) % 8 = j by omega]
theorem netL_set (M : Net) (i j z : Nat) (hi : i < 8) (hj : j < 8) : (netL M).set (i * 8 + j) z = netL (upd M i j z) := by
  unfold netL upd
  apply List.ext_getElem?
  intro x
  rw [List.getElem?_set]
  simp only [List.length_map, List.length_range, List.getElem?_map]
  by_cases hx : x < 64
  · rw [List.getElem?_range hx]
    by_cases he : i * 8 + j = x
    · rw [if_pos he]
      subst he
      rw [if_pos hx]
      simp only [Option.map_some]
      rw [if_pos (by omega)]
    · rw [if_neg he]
      simp only [Option.map_some]
      rw [if_neg (by omega)]
  · rw [if_neg (by omega), List.getElem?_eq_none (by simp; omega)]
    simp
theorem netA_set (n : Nat) (M : Net) (i j z : Nat) (hi : i < 8) (hj : j < 8) : (netA n M).setIfInBounds (1 + i * 8 + j) (.int .u16 (z : Int)) = netA n (upd M i j z) := by
  unfold netA
  rw [List.setIfInBounds_toArray, show 1 + i * 8 + j = (i * 8 + j) + 1 by omega, List.set_cons_succ, ← netL_set M i j z hi hj, List.map_set]
theorem netInfo : (Tryd.prog.info? 66).map (·.size) = some 65 := by kernel_rfl
theorem netOne (n : Nat) (M : Net) : (netA n M).all (·.oneCell') = true := by
  rw [Array.all_eq_true_iff_forall_mem]
  intro x hx
  unfold netA at hx
  simp only [List.mem_toArray, List.mem_cons, List.mem_map] at hx
  rcases hx with rfl | ⟨z, _, rfl⟩ <;> rfl
theorem net_zero : netA 0 (fun _ _ => 0) = Tryd.zeroCells66 := by kernel_rfl

def net0 : Net := fun _ _ => 0
theorem net_start (n : Nat) : (Tryd.zeroCells66).setIfInBounds 0 (.int .i64 (n : Int)) = netA n net0 := by kernel_rfl
theorem netZ (n : Nat) (M : Net) : (Tryd.zeroCells66).size = (netA n M).size := by rw [netA_size]; kernel_rfl
theorem netI (n : Nat) (M : Net) : (Tryd.prog.info? 66).map (·.size) = some (netA n M).size := by rw [netA_size]; kernel_rfl
/-- The first phase: i rows done; j entries of row i laid. -/
def pP (n i : Nat) : Net := fun a b => if a < i ∧ b < n then (if a = b then 64 else 8191) else 0
def pQ (n i j : Nat) : Net := fun a b => if a = i ∧ b < j then 8191 else pP n i a b
theorem pQ_zero (n i : Nat) : pQ n i 0 = pP n i := by funext a b; unfold pQ; rw [if_neg (by omega)]
theorem pQ_step (n i j : Nat) : upd (pQ n i j) i j 8191 = pQ n i (j + 1) := by
  funext a b; unfold upd pQ
  by_cases h : a = i ∧ b = j
  · rw [if_pos h, if_pos (by omega)]
  · rw [if_neg h]
    by_cases h2 : a = i ∧ b < j
    · rw [if_pos h2, if_pos (by omega)]
    · rw [if_neg h2, if_neg (by omega)]
theorem pP_step (n i : Nat) (hi : i < n) : upd (pQ n i n) i i 64 = pP n (i + 1) := by
  funext a b; unfold upd pQ pP
  repeat' split
  all_goals omega
/-- What a constraint takes away. -/
def conS (M : Net) (c : Con) : Net :=
  let M1 := upd M c.a.toNat c.b.toNat (M c.a.toNat c.b.toNat &&& setN c.r)
  upd M1 c.b.toNat c.a.toNat (M1 c.b.toNat c.a.toNat &&& invN (setN c.r))
theorem pP_lt (n i a b : Nat) : pP n i a b < 8192 := by
  unfold pP
  repeat' split
  all_goals omega
theorem upd_lt {M : Net} {i j z : Nat} (hM : ∀ a b, M a b < 8192) (hz : z < 8192) (a b : Nat) : upd M i j z a b < 8192 := by unfold upd; split; exact hz; exact hM a b
theorem conS_lt {M : Net} (c : Con) (hM : ∀ a b, M a b < 8192) : ∀ a b, conS M c a b < 8192 := by
  unfold conS
  have h1 := fun a b => upd_lt (i := c.a.toNat) (j := c.b.toNat) hM (and_lt (setN c.r) (hM c.a.toNat c.b.toNat)) a b
  exact fun a b => upd_lt h1 (and_lt _ (h1 _ _)) a b
def permN (n : Nat) (l : List Con) : Net := l.foldl conS (pP n n)
theorem okC_out {n : Nat} {e : Con} (h : okC n e = true) : (0 ≤ e.a ∧ e.a < n) ∧ (0 ≤ e.b ∧ e.b < n) ∧ okR e.r := by
  unfold okC at h
  simp only [Bool.and_eq_true, decide_eq_true_eq] at h
  obtain ⟨⟨⟨⟨h1, h2⟩, h3⟩, h4⟩, h5⟩ := h
  refine ⟨⟨h1, h2⟩, ⟨h3, h4⟩, fun r hr => ?_⟩
  exact (isRel_iff r).1 (List.all_eq_true.1 h5 r hr)
theorem okL_at {n : Nat} {l : List Con} (h : okL n l = true) {k : Nat} {e : Con} (hk : l[k]? = some e) : okC n e = true := List.all_eq_true.1 h e (List.mem_of_getElem? hk)
theorem permS (n : Nat) (l : List Con) (k : Nat) (e : Con) (hk : l[k]? = some e) : (l.take (k + 1)).foldl conS (pP n n) = conS ((l.take k).foldl conS (pP n n)) e := by
  obtain ⟨hl, rfl⟩ := List.getElem?_eq_some_iff.1 hk
  rw [List.take_succ_eq_append_getElem hl, List.foldl_append]
  rfl
theorem takeD {P : Program} {md : Region.Mode} {ops : Array Oper} {Q : Exit → Act → World → Prop} {S : World → Prop} {i d : Nat} {oi : Oper} {v : Value} {fuel : Nat} {listed : Array Bool} {a : Act} {w : World} (hi : ops[i]? = some oi) (hd : oi.dst = some d)
    (hs : Region.noSelect ops = true) (hf : Region.free md ops listed i = true) (hr : (Region.ready md ops listed).contains i = true)
    (hQ : ∀ c a w, Q (.panic c) (a.put oi.dst v) w → Q (.panic c) a w) (hy : YieldsIf P ops S oi v a) (hS : S w)
    (h : wpAnyH P md ops Q S fuel (listed.setIfInBounds i true) (a.put (some d) v) w) : wpAnyH P md ops Q S (fuel + 1) listed a w :=
  wpAnyH_take hi hs hf hr hQ hy hS (by rw [hd]; exact h)
theorem keep3 {w : World} {g1 g2 : Nat} {x y z : Value} (h0 : w.cell? ⟨g1, 0, none⟩ = some x) (h1 : w.cell? ⟨g1, 1, none⟩ = some y) (h2 : w.cell? ⟨g2, 0, none⟩ = some z) (g i : Nat) (v : Value) (e1 : g ≠ g1) (e2 : g ≠ g2) :
    (w.setCell ⟨g, i, none⟩ v).cell? ⟨g1, 0, none⟩ = some x ∧ (w.setCell ⟨g, i, none⟩ v).cell? ⟨g1, 1, none⟩ = some y ∧ (w.setCell ⟨g, i, none⟩ v).cell? ⟨g2, 0, none⟩ = some z := by
  refine ⟨(World.cell?_setCell_other _ _ _ _ ?_).trans h0, (World.cell?_setCell_other _ _ _ _ ?_).trans h1, (World.cell?_setCell_other _ _ _ _ ?_).trans h2⟩
  all_goals
    intro e
    injection e
    omega

theorem set_six (g : Nat) (w : World) (hg : g < w.heap.size) (h : w.cell? ⟨g, 0, none⟩ = some (.int .i64 6)) :
    Calls Tryd.prog 54 #[.slice (some ⟨g, 0, none⟩) 1 1] w fun e w' => e = .returned (.agg #[.int .u16 (64 : Nat)]) ∧ Below w.heap.size w w' := by
  refine setOf_any _ [6] w 0 ⟨_, 1, rfl, by simp, fun k n hk => ⟨_, rfl, Nat.zero_le _, hg, ?_⟩⟩ (by intro r hr; simp at hr; subst hr; omega)
  cases k with
  | zero => simp at hk; subst hk; exact h
  | succ k => simp at hk

set_option linter.unusedSimpArgs false in
set_option maxRecDepth 100000 in
set_option maxHeartbeats 1600000 in
theorem perm_any (n : Nat) (v : Value) (l : List Con) (w : World) (L : Nat) (hv : RdC w L w.heap.size v l) (hn : n ≤ 8) (hok : okL n l = true) :
    Calls Tryd.prog 38 #[.int .i64 n, v] w fun e w' => e = .returned (.agg (netA n (permN n l))) ∧ Below w.heap.size w w' := by
  have hv0 := hv
  obtain ⟨A, c, rfl, hlen, _⟩ := hv
  go_enter Tryd.func38, Tryd.ntmps38
  go_wp2_with (rw [net_start]; refine wpList_store_row rfl 66 _ _ rfl (w.heap.size + 1) (netA n net0) rfl rfl 66 _ (by have := heap_alloc_new (w.alloc (.cells Tryd.zeroCells66 66)) (.cells Tryd.zeroCells66 66); rw [World.size_alloc] at this; exact this) (netI n net0) (netZ n net0) (netOne n net0) ?_)
  have Z0 : Own ((w.alloc (.cells Tryd.zeroCells66 66)).alloc (.cells (netA n net0) 66)) w.heap.size 66 Tryd.zeroCells66 := (Own.new w _ _).alloc _
  have Z1 : Own ((w.alloc (.cells Tryd.zeroCells66 66)).alloc (.cells (netA n net0) 66)) (w.heap.size + 1) 66 (netA n (pP n 0)) := (by have := Own.new (w.alloc (.cells Tryd.zeroCells66 66)) 66 (netA n net0); rw [World.size_alloc] at this; exact this)
  have ZB : Below w.heap.size w ((w.alloc (.cells Tryd.zeroCells66 66)).alloc (.cells (netA n net0) 66)) := (by (repeat' (first | (with_reducible exact Below.refl _ _) | (with_reducible assumption) | (with_reducible refine Below.alloc ?_ ?_ _) | (with_reducible refine Below.drew ?_) | (with_reducible refine Below.setCell ?_ ?_ _) | (with_reducible refine Below.trans ?_ (Below.mono (by assumption) ?_)) | go_size)))
  rw [show ((w.alloc (.cells Tryd.zeroCells66 66)).alloc (.cells Tryd.zeroCells66 66)).setRow (w.heap.size + 1) (netA n net0) = (w.alloc (.cells Tryd.zeroCells66 66)).alloc (.cells (netA n net0) 66) from by have := World.setRow_alloc_new (w.alloc (.cells Tryd.zeroCells66 66)) Tryd.zeroCells66 (netA n net0) 66; rw [World.size_alloc] at this; exact this]
  go_loopw [14] (fun i wr => ∃ k : Nat, k ≤ n ∧ i = .int .i64 k ∧ Own wr w.heap.size 66 Tryd.zeroCells66 ∧ Own wr (w.heap.size + 1) 66 (netA n (pP n k)) ∧ Below w.heap.size w wr) (fun i _ => n - (intOf i).toNat)
  case atStart => exact ⟨0, by omega, rfl, Z0, Z1, ZB⟩
  case round =>
    obtain ⟨i, hi, rfl, o0, o1, hbr⟩ := hrel
    by_cases hlt : i < n
    · go_wp2
      go_loopw [18] (fun v wi => ∃ j : Nat, j ≤ n ∧ v = .int .i64 j ∧ Own wi w.heap.size 66 Tryd.zeroCells66 ∧ Own wi (w.heap.size + 1) 66 (netA n (pQ n i j)) ∧ Below w.heap.size w wi) (fun v _ => n - (intOf v).toNat)
      case atStart => exact ⟨0, by omega, rfl, o0, by rw [pQ_zero]; exact o1, hbr⟩
      case round =>
        obtain ⟨j, hj, rfl, r0, r1, hbi⟩ := hrel
        by_cases hjt : j < n
        · have L1 := r1.lt
          have HS := Lib.hid (netA_set n (pQ n i j) i j 8191 (by omega) (by omega))
          go_wp2
          go_region_with (go_at_call 53; refine (all_any _).mono ?_; rintro e w2 ⟨rfl, hb2⟩; have t1 := Own.below (show Own wr.drew _ _ _ from r1) hb2 L1; have d1 := (t1.cell (1 + i * 8 + j)).trans (netA_get n (pQ n i j) i j (by omega) (by omega)); have d2 := t1.free (1 + i * 8 + j))
          all_goals
            go_wp2
            have q2 : wr.heap.size ≤ w2.heap.size := hb2.size
            have k0 := (show Own wr.drew _ _ _ from r0).below hb2 r0.lt
            have tt := t1.store (1 + i * 8 + j) (.int .u16 8191)
            have b3 := hbi.size
            have bb : Below w.heap.size w (w2.setCell ⟨w.heap.size + 1, 1 + i * 8 + j, none⟩ (.int .u16 8191)) := ((hbi.drew).trans (hb2.mono b3)).setCell (by simp) _
            go_roundw
            case rel => exact ⟨j + 1, by omega, by go_num, k0.far (by simp) _, by rw [← pQ_step, ← HS.out]; exact tt, bb⟩
            case measure => simp [intOf]; omega
        · have hjn : j = n := by omega
          subst hjn
          have L1 := r1.lt
          have HS := Lib.hid (netA_set j (pQ j i j) i i 64 (by omega) (by omega))
          go_wp2
          go_region_with (go_at_call 54; refine (set_six _ _ (by simp) (by simp)).mono ?_; rintro e w2 ⟨rfl, hb2⟩; have t1 := Own.below (show Own (World.alloc wr.drew _) _ _ _ from Own.alloc (show Own wr.drew _ _ _ from r1) _) hb2 (by simp; omega); have d1 := (t1.cell (1 + i * 8 + i)).trans (netA_get j (pQ j i j) i i (by omega) (by omega)); have d2 := t1.free (1 + i * 8 + i))
          all_goals
            go_wp2
            have q2 := hb2.size
            simp only [World.size_alloc, World.size_drew] at q2
            have k0 := (show Own (World.alloc wr.drew _) _ _ _ from Own.alloc (show Own wr.drew _ _ _ from r0) (Obj.cells #[Value.int .i64 6] 3)).below hb2 (by have := r0.lt; simp; omega)
            have tt := t1.store (1 + i * 8 + i) (.int .u16 64)
            have b3 := hbi.size
            have bb : Below w.heap.size w (w2.setCell ⟨w.heap.size + 1, 1 + i * 8 + i, none⟩ (.int .u16 64)) := (((hbi.drew).alloc (by simp; omega) _).trans (hb2.mono (by simp; omega))).setCell (by simp) _
            go_roundw
            case rel => exact ⟨i + 1, by omega, by go_num, k0.far (by simp) _, by rw [← pP_step _ _ hlt, ← HS.out]; exact tt, bb⟩
            case measure => simp [intOf]; omega
    · have hin : i = n := by omega
      subst hin
      go_wp2
      go_loopw [38] (fun v wi => ∃ k : Nat, k ≤ l.length ∧ v = .int .i64 k ∧ Own wi w.heap.size 66 Tryd.zeroCells66 ∧ Own wi (w.heap.size + 1) 66 (netA i ((l.take k).foldl conS (pP i i))) ∧ (∀ a b, (l.take k).foldl conS (pP i i) a b < 8192) ∧ Below w.heap.size w wi) (fun v _ => l.length - (intOf v).toNat)
      case atStart => exact ⟨0, by omega, rfl, o0, o1, pP_lt i i, hbr⟩
      case round =>
        obtain ⟨k, hk, rfl, r0, r1, hM, hbi⟩ := hrel
        by_cases hkt : k < l.length
        · have hke := List.getElem?_eq_getElem hkt
          have HP := Lib.hid (permS i l k _ hke)
          have hoc := okC_out (okL_at hok hke)
          generalize he : l[k] = e at hke HP hoc
          obtain ⟨a, b, r⟩ := e
          dsimp only at hoc
          obtain ⟨⟨ha0, ha⟩, ⟨hb0, hb⟩, hr⟩ := hoc
          obtain ⟨a, rfl⟩ := Int.eq_ofNat_of_zero_le ha0
          obtain ⟨b, rfl⟩ := Int.eq_ofNat_of_zero_le hb0
          have ha' : a < i := by omega
          have hb' : b < i := by omega
          obtain ⟨ad, rv, rfl, hal, hab, h0, h1, h2, h3⟩ := (hv0.below hbi).at hke
          dsimp only at h0 h1 h2 h3
          have h4 := h3
          obtain ⟨A2, c2, rfl, hlen2, _⟩ := h3
          generalize hMM : (l.take k).foldl conS (pP i i) = M at *
          have L1 := r1.lt
          have hS := setN_lt r hr
          have hz := hbi.size
          generalize hSS : setN r = S at *
          go_wp2_with (go_at_call 54; refine (setOf_any _ r _ L ((h4.below ((Below.refl _ _).alloc hz _)).more (by simp; omega) (Nat.le_refl _)) hr).mono ?_; rintro e w2 ⟨rfl, hb2⟩; rw [hSS])
          have q2 := hb2.size
          simp only [World.size_alloc] at q2
          have zW : Own (w2.alloc (.cells #[.int .u16 (S : Nat)] 53)) w.heap.size 66 Tryd.zeroCells66 := ((r0.alloc _).below hb2 (by have := r0.lt; simp; omega)).alloc _
          have nW : Own (w2.alloc (.cells #[.int .u16 (S : Nat)] 53)) (w.heap.size + 1) 66 (netA i M) := ((r1.alloc _).below hb2 (by simp; omega)).alloc _
          have cW : Own (w2.alloc (.cells #[.int .u16 (S : Nat)] 53)) wr.heap.size 50 #[.int .i64 a, .int .i64 b, .slice A2 r.length c2] := ((Own.new wr _ _).below hb2 (by simp)).alloc _
          have rW : Own (w2.alloc (.cells #[.int .u16 (S : Nat)] 53)) w2.heap.size 53 #[.int .u16 (S : Nat)] := Own.new _ _ _
          have bW : Below w.heap.size w (w2.alloc (.cells #[.int .u16 (S : Nat)] 53)) := (((hbi.alloc (by omega) _).trans (hb2.mono (by simp; omega))).alloc (by omega) _)
          have x1 : w.heap.size + 1 < wr.heap.size := L1
          have x2 : wr.heap.size < w2.heap.size := by omega
          generalize w2.alloc (.cells #[.int .u16 (S : Nat)] 53) = W at *
          generalize w2.heap.size = g2 at *
          generalize wr.heap.size = g1 at *
          clear hb2 h0 h1 h2 h4 q2 r0 r1 hbi hz hbr hv0
          have L2 := nW.lt
          have L3 := cW.lt
          have L4 := rW.lt
          have L5 := zW.lt
          have f0 : W.cell? ⟨g1, 0, none⟩ = some (.int .i64 (a : Nat)) := cW.cell 0
          have f1 : W.cell? ⟨g1, 1, none⟩ = some (.int .i64 (b : Nat)) := cW.cell 1
          have f2 : W.cell? ⟨g2, 0, none⟩ = some (.int .u16 (S : Nat)) := rW.cell 0
          have f3 := (nW.cell (1 + a * 8 + b)).trans (netA_get i M a b (by omega) (by omega))
          have f4 := nW.free (1 + a * 8 + b)
          have a8 : a < 8 := by omega
          have b8 : b < 8 := by omega
          have a8' : (a : Int) < 8 := by omega
          have b8' : (b : Int) < 8 := by omega
          have e1 : w.heap.size + 1 ≠ g1 := by omega
          have e2 : w.heap.size + 1 ≠ g2 := by omega
          refine wp_region_held_drew (S := fun w' => w'.cell? ⟨g1, 0, none⟩ = some (.int .i64 (a : Nat)) ∧ w'.cell? ⟨g1, 1, none⟩ = some (.int .i64 (b : Nat)) ∧ w'.cell? ⟨g2, 0, none⟩ = some (.int .u16 (S : Nat))) (by kernel_rfl) ⟨f0, f1, f2⟩ (fun hHeld => ?_)
          (refine takeD (i := 0) (d := 45) (oi := _) (v := ?_) rfl rfl (by kernel_rfl) (by kernel_rfl) (by kernel_rfl) (fun _ _ _ h => h) (Or.inl ⟨by rfl, ?_⟩) (by assumption) ?_; rotate_left; (focus ((intro w hSw; (try dsimp only at hSw); go_simp) <;> (with_reducible rfl))); (try simp only [Act.put, List.setIfInBounds_toArray, List.set_cons_zero, List.set_cons_succ]))
          (refine takeD (i := 1) (d := 46) (oi := _) (v := ?_) rfl rfl (by kernel_rfl) (by kernel_rfl) (by kernel_rfl) (fun _ _ _ h => h) (Or.inl ⟨by rfl, ?_⟩) (by assumption) ?_; rotate_left; (focus ((intro w hSw; (try dsimp only at hSw); go_simp) <;> (with_reducible rfl))); (try simp only [Act.put, List.setIfInBounds_toArray, List.set_cons_zero, List.set_cons_succ]))
          (refine takeD (i := 2) (d := 47) (oi := _) (v := ?_) rfl rfl (by kernel_rfl) (by kernel_rfl) (by kernel_rfl) (fun _ _ _ h => h) (Or.inl ⟨by rfl, ?_⟩) (by assumption) ?_; rotate_left; (focus ((intro w hSw; (try dsimp only at hSw); go_simp) <;> (with_reducible rfl))); (try simp only [Act.put, List.setIfInBounds_toArray, List.set_cons_zero, List.set_cons_succ]))
          (refine takeD (i := 3) (d := 48) (oi := _) (v := ?_) rfl rfl (by kernel_rfl) (by kernel_rfl) (by kernel_rfl) (fun _ _ _ h => h) (Or.inl ⟨by rfl, ?_⟩) (by assumption) ?_; rotate_left; (focus ((intro w hSw; (try dsimp only at hSw); go_simp) <;> (with_reducible rfl))); (try simp only [Act.put, List.setIfInBounds_toArray, List.set_cons_zero, List.set_cons_succ]))
          (refine takeD (i := 4) (d := 49) (oi := _) (v := ?_) rfl rfl (by kernel_rfl) (by kernel_rfl) (by kernel_rfl) (fun _ _ _ h => h) (Or.inl ⟨by rfl, ?_⟩) (by assumption) ?_; rotate_left; (focus ((intro w hSw; (try dsimp only at hSw); go_simp) <;> (with_reducible rfl))); (try simp only [Act.put, List.setIfInBounds_toArray, List.set_cons_zero, List.set_cons_succ]))
          (refine takeD (i := 5) (d := 50) (oi := _) (v := ?_) rfl rfl (by kernel_rfl) (by kernel_rfl) (by kernel_rfl) (fun _ _ _ h => h) (Or.inl ⟨by rfl, ?_⟩) (by assumption) ?_; rotate_left; (focus ((intro w hSw; (try dsimp only at hSw); go_simp) <;> (with_reducible rfl))); (try simp only [Act.put, List.setIfInBounds_toArray, List.set_cons_zero, List.set_cons_succ]))
          (refine takeD (i := 6) (d := 51) (oi := _) (v := ?_) rfl rfl (by kernel_rfl) (by kernel_rfl) (by kernel_rfl) (fun _ _ _ h => h) (Or.inl ⟨by rfl, ?_⟩) (by assumption) ?_; rotate_left; (focus ((intro w hSw; (try dsimp only at hSw); go_simp) <;> (with_reducible rfl))); (try simp only [Act.put, List.setIfInBounds_toArray, List.set_cons_zero, List.set_cons_succ]))
          (refine takeD (i := 7) (d := 52) (oi := _) (v := ?_) rfl rfl (by kernel_rfl) (by kernel_rfl) (by kernel_rfl) (fun _ _ _ h => h) (Or.inl ⟨by rfl, ?_⟩) (by assumption) ?_; rotate_left; (focus ((intro w hSw; (try dsimp only at hSw); go_simp) <;> (with_reducible rfl))); (try simp only [Act.put, List.setIfInBounds_toArray, List.set_cons_zero, List.set_cons_succ]))
          (refine takeD (i := 8) (d := 53) (oi := _) (v := ?_) rfl rfl (by kernel_rfl) (by kernel_rfl) (by kernel_rfl) (fun _ _ _ h => h) (Or.inl ⟨by rfl, ?_⟩) (by assumption) ?_; rotate_left; (focus ((intro w hSw; (try dsimp only at hSw); go_simp) <;> (with_reducible rfl))); (try simp only [Act.put, List.setIfInBounds_toArray, List.set_cons_zero, List.set_cons_succ]))
          (refine takeD (i := 9) (d := 54) (oi := _) (v := ?_) rfl rfl (by kernel_rfl) (by kernel_rfl) (by kernel_rfl) (fun _ _ _ h => h) (Or.inl ⟨by rfl, ?_⟩) (by assumption) ?_; rotate_left; (focus ((intro w hSw; (try dsimp only at hSw); go_simp) <;> (with_reducible rfl))); (try simp only [Act.put, List.setIfInBounds_toArray, List.set_cons_zero, List.set_cons_succ]))
          (refine takeD (i := 10) (d := 55) (oi := _) (v := ?_) rfl rfl (by kernel_rfl) (by kernel_rfl) (by kernel_rfl) (fun _ _ _ h => h) (Or.inl ⟨by rfl, ?_⟩) (by assumption) ?_; rotate_left; (focus ((intro w hSw; (try dsimp only at hSw); go_simp) <;> (with_reducible rfl))); (try simp only [Act.put, List.setIfInBounds_toArray, List.set_cons_zero, List.set_cons_succ]))
          (refine takeD (i := 12) (d := 57) (oi := _) (v := ?_) rfl rfl (by kernel_rfl) (by kernel_rfl) (by kernel_rfl) (fun _ _ _ h => h) (Or.inl ⟨by rfl, ?_⟩) (by assumption) ?_; rotate_left; (focus ((intro w hSw; (try dsimp only at hSw); go_simp) <;> (with_reducible rfl))); (try simp only [Act.put, List.setIfInBounds_toArray, List.set_cons_zero, List.set_cons_succ]))
          (refine takeD (i := 14) (d := 59) (oi := _) (v := ?_) rfl rfl (by kernel_rfl) (by kernel_rfl) (by kernel_rfl) (fun _ _ _ h => h) (Or.inl ⟨by rfl, ?_⟩) (by assumption) ?_; rotate_left; (focus ((intro w hSw; (try dsimp only at hSw); go_simp) <;> (with_reducible rfl))); (try simp only [Act.put, List.setIfInBounds_toArray, List.set_cons_zero, List.set_cons_succ]))
          (refine takeD (i := 15) (d := 60) (oi := _) (v := ?_) rfl rfl (by kernel_rfl) (by kernel_rfl) (by kernel_rfl) (fun _ _ _ h => h) (Or.inl ⟨by rfl, ?_⟩) (by assumption) ?_; rotate_left; (focus ((intro w hSw; (try dsimp only at hSw); go_simp) <;> (with_reducible rfl))); (try simp only [Act.put, List.setIfInBounds_toArray, List.set_cons_zero, List.set_cons_succ]))
          refine wpAnyH_ready (rs := [11]) (by kernel_rfl) (by simp) ?_
          refine AllReadyH.cons (o := _) rfl (fun K hK => ?_) AllReadyH.nil
          go_simp
          skip
          refine hK.out _ _ (by (try dsimp only); exact ⟨f0, f1, f2⟩) (fun hHeld => ?_)
          clear hK
          (try simp only [Act.put, List.setIfInBounds_toArray, List.set_cons_zero, List.set_cons_succ])
          refine wpAnyH_ready (rs := [13]) (by kernel_rfl) (by simp) ?_
          refine AllReadyH.cons (o := _) rfl (fun K hK => ?_) AllReadyH.nil
          go_simp
          (go_at_call 55; refine (inter_any _ _ _ (hM a b) hS).mono ?_; rintro e w3 ⟨rfl, hb3⟩; have z3 := Own.below (show Own W.drew _ _ _ from zW) hb3 L5; have n3 := Own.below (show Own W.drew _ _ _ from nW) hb3 L2; have c3 := Own.below (show Own W.drew _ _ _ from cW) hb3 L3; have s3 := Own.below (show Own W.drew _ _ _ from rW) hb3 L4; have d0 : w3.cell? ⟨g1, 0, none⟩ = some (.int .i64 (a : Nat)) := c3.cell 0; have d1 : w3.cell? ⟨g1, 1, none⟩ = some (.int .i64 (b : Nat)) := c3.cell 1; have d2 : w3.cell? ⟨g2, 0, none⟩ = some (.int .u16 (S : Nat)) := s3.cell 0; have d3 := (n3.cell (1 + a * 8 + b)).trans (netA_get i M a b (by omega) (by omega)); have d4 := n3.free (1 + a * 8 + b); go_wp2_with fail)
          refine hK.out _ _ (by (try dsimp only); exact ⟨d0, d1, d2⟩) (fun hHeld => ?_)
          clear hK
          (try simp only [Act.put, List.setIfInBounds_toArray, List.set_cons_zero, List.set_cons_succ])
          (refine takeD (i := 16) (d := 61) (oi := _) (v := ?_) rfl rfl (by kernel_rfl) (by kernel_rfl) (by kernel_rfl) (fun _ _ _ h => h) (Or.inl ⟨by rfl, ?_⟩) (by assumption) ?_; rotate_left; (focus ((intro w hSw; (try dsimp only at hSw); go_simp) <;> (with_reducible rfl))); (try simp only [Act.put, List.setIfInBounds_toArray, List.set_cons_zero, List.set_cons_succ]))
          refine wpAnyH_ready (rs := [17]) (by kernel_rfl) (by simp) ?_
          refine AllReadyH.cons (o := _) rfl (fun K hK => ?_) AllReadyH.nil
          go_simp
          skip
          refine hK.out _ _ (by (try dsimp only); exact keep3 d0 d1 d2 _ _ _ e1 e2) (fun hHeld => ?_)
          clear hK
          (try simp only [Act.put, List.setIfInBounds_toArray, List.set_cons_zero, List.set_cons_succ])
          refine wpAnyH_done (by kernel_rfl) ?_ _
          have HS1 := netA_set i M a b (M a b &&& S) a8 b8
          have hM1 : ∀ x y, upd M a b (M a b &&& S) x y < 8192 := fun x y => upd_lt hM (and_lt S (hM a b)) x y
          go_wp2_with fail
          have n4 := n3.store (1 + a * 8 + b) (.int .u16 ((M a b &&& S : Nat) : Int))
          rw [HS1] at n4
          have z4 := z3.far (p := ⟨w.heap.size + 1, 1 + a * 8 + b, none⟩) (by simp) (.int .u16 ((M a b &&& S : Nat) : Int))
          have c4 := c3.far (p := ⟨w.heap.size + 1, 1 + a * 8 + b, none⟩) (by simp; omega) (.int .u16 ((M a b &&& S : Nat) : Int))
          have s4 := s3.far (p := ⟨w.heap.size + 1, 1 + a * 8 + b, none⟩) (by simp; omega) (.int .u16 ((M a b &&& S : Nat) : Int))
          have b4 : Below w.heap.size w (w3.setCell ⟨w.heap.size + 1, 1 + a * 8 + b, none⟩ (.int .u16 ((M a b &&& S : Nat) : Int))) := ((bW.drew).trans (hb3.mono (by have := bW.size; simp; omega))).setCell (by simp) _
          generalize w3.setCell ⟨w.heap.size + 1, 1 + a * 8 + b, none⟩ (.int .u16 ((M a b &&& S : Nat) : Int)) = W2 at *
          generalize hM1e : upd M a b (M a b &&& S) = M1 at *
          clear z3 n3 c3 s3 d0 d1 d2 d3 d4 hb3 zW nW cW rW f0 f1 f2 f3 f4 bW L1 L2 L3 L4 L5
          have L2 := n4.lt
          have L3 := c4.lt
          have L4 := s4.lt
          have L5 := z4.lt
          have f0 : W2.cell? ⟨g1, 0, none⟩ = some (.int .i64 (a : Nat)) := c4.cell 0
          have f1 : W2.cell? ⟨g1, 1, none⟩ = some (.int .i64 (b : Nat)) := c4.cell 1
          have f2 : W2.cell? ⟨g2, 0, none⟩ = some (.int .u16 (S : Nat)) := s4.cell 0
          have f3 := (n4.cell (1 + b * 8 + a)).trans (netA_get i M1 b a b8 a8)
          have f4 := n4.free (1 + b * 8 + a)
          have hI := setN_lt _ (invL_ok S)
          refine wp_region_held_drew (S := fun w' => w'.cell? ⟨g1, 0, none⟩ = some (.int .i64 (a : Nat)) ∧ w'.cell? ⟨g1, 1, none⟩ = some (.int .i64 (b : Nat)) ∧ w'.cell? ⟨g2, 0, none⟩ = some (.int .u16 (S : Nat))) (by kernel_rfl) ⟨f0, f1, f2⟩ (fun hHeld => ?_)
          (refine takeD (i := 0) (d := 62) (oi := _) (v := ?_) rfl rfl (by kernel_rfl) (by kernel_rfl) (by kernel_rfl) (fun _ _ _ h => h) (Or.inl ⟨by rfl, ?_⟩) (by assumption) ?_; rotate_left; (focus ((intro w hSw; (try dsimp only at hSw); go_simp) <;> (with_reducible rfl))); (try simp only [Act.put, List.setIfInBounds_toArray, List.set_cons_zero, List.set_cons_succ]))
          (refine takeD (i := 1) (d := 63) (oi := _) (v := ?_) rfl rfl (by kernel_rfl) (by kernel_rfl) (by kernel_rfl) (fun _ _ _ h => h) (Or.inl ⟨by rfl, ?_⟩) (by assumption) ?_; rotate_left; (focus ((intro w hSw; (try dsimp only at hSw); go_simp) <;> (with_reducible rfl))); (try simp only [Act.put, List.setIfInBounds_toArray, List.set_cons_zero, List.set_cons_succ]))
          (refine takeD (i := 2) (d := 64) (oi := _) (v := ?_) rfl rfl (by kernel_rfl) (by kernel_rfl) (by kernel_rfl) (fun _ _ _ h => h) (Or.inl ⟨by rfl, ?_⟩) (by assumption) ?_; rotate_left; (focus ((intro w hSw; (try dsimp only at hSw); go_simp) <;> (with_reducible rfl))); (try simp only [Act.put, List.setIfInBounds_toArray, List.set_cons_zero, List.set_cons_succ]))
          (refine takeD (i := 3) (d := 65) (oi := _) (v := ?_) rfl rfl (by kernel_rfl) (by kernel_rfl) (by kernel_rfl) (fun _ _ _ h => h) (Or.inl ⟨by rfl, ?_⟩) (by assumption) ?_; rotate_left; (focus ((intro w hSw; (try dsimp only at hSw); go_simp) <;> (with_reducible rfl))); (try simp only [Act.put, List.setIfInBounds_toArray, List.set_cons_zero, List.set_cons_succ]))
          (refine takeD (i := 4) (d := 66) (oi := _) (v := ?_) rfl rfl (by kernel_rfl) (by kernel_rfl) (by kernel_rfl) (fun _ _ _ h => h) (Or.inl ⟨by rfl, ?_⟩) (by assumption) ?_; rotate_left; (focus ((intro w hSw; (try dsimp only at hSw); go_simp) <;> (with_reducible rfl))); (try simp only [Act.put, List.setIfInBounds_toArray, List.set_cons_zero, List.set_cons_succ]))
          (refine takeD (i := 5) (d := 67) (oi := _) (v := ?_) rfl rfl (by kernel_rfl) (by kernel_rfl) (by kernel_rfl) (fun _ _ _ h => h) (Or.inl ⟨by rfl, ?_⟩) (by assumption) ?_; rotate_left; (focus ((intro w hSw; (try dsimp only at hSw); go_simp) <;> (with_reducible rfl))); (try simp only [Act.put, List.setIfInBounds_toArray, List.set_cons_zero, List.set_cons_succ]))
          (refine takeD (i := 6) (d := 68) (oi := _) (v := ?_) rfl rfl (by kernel_rfl) (by kernel_rfl) (by kernel_rfl) (fun _ _ _ h => h) (Or.inl ⟨by rfl, ?_⟩) (by assumption) ?_; rotate_left; (focus ((intro w hSw; (try dsimp only at hSw); go_simp) <;> (with_reducible rfl))); (try simp only [Act.put, List.setIfInBounds_toArray, List.set_cons_zero, List.set_cons_succ]))
          (refine takeD (i := 7) (d := 69) (oi := _) (v := ?_) rfl rfl (by kernel_rfl) (by kernel_rfl) (by kernel_rfl) (fun _ _ _ h => h) (Or.inl ⟨by rfl, ?_⟩) (by assumption) ?_; rotate_left; (focus ((intro w hSw; (try dsimp only at hSw); go_simp) <;> (with_reducible rfl))); (try simp only [Act.put, List.setIfInBounds_toArray, List.set_cons_zero, List.set_cons_succ]))
          (refine takeD (i := 8) (d := 70) (oi := _) (v := ?_) rfl rfl (by kernel_rfl) (by kernel_rfl) (by kernel_rfl) (fun _ _ _ h => h) (Or.inl ⟨by rfl, ?_⟩) (by assumption) ?_; rotate_left; (focus ((intro w hSw; (try dsimp only at hSw); go_simp) <;> (with_reducible rfl))); (try simp only [Act.put, List.setIfInBounds_toArray, List.set_cons_zero, List.set_cons_succ]))
          (refine takeD (i := 9) (d := 71) (oi := _) (v := ?_) rfl rfl (by kernel_rfl) (by kernel_rfl) (by kernel_rfl) (fun _ _ _ h => h) (Or.inl ⟨by rfl, ?_⟩) (by assumption) ?_; rotate_left; (focus ((intro w hSw; (try dsimp only at hSw); go_simp) <;> (with_reducible rfl))); (try simp only [Act.put, List.setIfInBounds_toArray, List.set_cons_zero, List.set_cons_succ]))
          (refine takeD (i := 10) (d := 72) (oi := _) (v := ?_) rfl rfl (by kernel_rfl) (by kernel_rfl) (by kernel_rfl) (fun _ _ _ h => h) (Or.inl ⟨by rfl, ?_⟩) (by assumption) ?_; rotate_left; (focus ((intro w hSw; (try dsimp only at hSw); go_simp) <;> (with_reducible rfl))); (try simp only [Act.put, List.setIfInBounds_toArray, List.set_cons_zero, List.set_cons_succ]))
          (refine takeD (i := 12) (d := 74) (oi := _) (v := ?_) rfl rfl (by kernel_rfl) (by kernel_rfl) (by kernel_rfl) (fun _ _ _ h => h) (Or.inl ⟨by rfl, ?_⟩) (by assumption) ?_; rotate_left; (focus ((intro w hSw; (try dsimp only at hSw); go_simp) <;> (with_reducible rfl))); (try simp only [Act.put, List.setIfInBounds_toArray, List.set_cons_zero, List.set_cons_succ]))
          (refine takeD (i := 15) (d := 77) (oi := _) (v := ?_) rfl rfl (by kernel_rfl) (by kernel_rfl) (by kernel_rfl) (fun _ _ _ h => h) (Or.inl ⟨by rfl, ?_⟩) (by assumption) ?_; rotate_left; (focus ((intro w hSw; (try dsimp only at hSw); go_simp) <;> (with_reducible rfl))); (try simp only [Act.put, List.setIfInBounds_toArray, List.set_cons_zero, List.set_cons_succ]))
          (refine takeD (i := 16) (d := 78) (oi := _) (v := ?_) rfl rfl (by kernel_rfl) (by kernel_rfl) (by kernel_rfl) (fun _ _ _ h => h) (Or.inl ⟨by rfl, ?_⟩) (by assumption) ?_; rotate_left; (focus ((intro w hSw; (try dsimp only at hSw); go_simp) <;> (with_reducible rfl))); (try simp only [Act.put, List.setIfInBounds_toArray, List.set_cons_zero, List.set_cons_succ]))
          refine wpAnyH_ready (rs := [11, 13]) (by kernel_rfl) (by simp) ?_
          refine AllReadyH.cons (o := _) rfl (fun K hK => ?_) (AllReadyH.cons (o := _) rfl (fun K hK => ?_) AllReadyH.nil)
          rotate_left
          go_simp
          (go_at_call 56; refine (invS_any _ _ hS).mono ?_; rintro e w3 ⟨rfl, hb3⟩; have z3 := Own.below (show Own W2.drew _ _ _ from z4) hb3 L5; have n3 := Own.below (show Own W2.drew _ _ _ from n4) hb3 L2; have c3 := Own.below (show Own W2.drew _ _ _ from c4) hb3 L3; have s3 := Own.below (show Own W2.drew _ _ _ from s4) hb3 L4; have d0 : w3.cell? ⟨g1, 0, none⟩ = some (.int .i64 (a : Nat)) := c3.cell 0; have d1 : w3.cell? ⟨g1, 1, none⟩ = some (.int .i64 (b : Nat)) := c3.cell 1; have d2 : w3.cell? ⟨g2, 0, none⟩ = some (.int .u16 (S : Nat)) := s3.cell 0; have d3 := (n3.cell (1 + b * 8 + a)).trans (netA_get i M1 b a b8 a8); have d4 := n3.free (1 + b * 8 + a); go_wp2_with fail)
          refine hK.out _ _ (by (try dsimp only); exact ⟨d0, d1, d2⟩) (fun hHeld => ?_)
          clear hK
          (try simp only [Act.put, List.setIfInBounds_toArray, List.set_cons_zero, List.set_cons_succ])
          refine wpAnyH_ready (rs := [11]) (by kernel_rfl) (by simp) ?_
          refine AllReadyH.cons (o := _) rfl (fun K hK => ?_) AllReadyH.nil
          go_simp
          skip
          refine hK.out _ _ (by (try dsimp only); exact ⟨d0, d1, d2⟩) (fun hHeld => ?_)
          clear hK
          (try simp only [Act.put, List.setIfInBounds_toArray, List.set_cons_zero, List.set_cons_succ])
          refine wpAnyH_ready (rs := [14]) (by kernel_rfl) (by simp) ?_
          refine AllReadyH.cons (o := _) rfl (fun K hK => ?_) AllReadyH.nil
          go_simp
          (go_at_call 55; refine (inter_any _ _ _ (hM1 b a) hI).mono ?_; rintro e w4 ⟨rfl, hb4⟩; have z5 := z3.below hb4 z3.lt; have n5 := n3.below hb4 n3.lt; have c5 := c3.below hb4 c3.lt; have s5 := s3.below hb4 s3.lt; have k0 : w4.cell? ⟨g1, 0, none⟩ = some (.int .i64 (a : Nat)) := c5.cell 0; have k1 : w4.cell? ⟨g1, 1, none⟩ = some (.int .i64 (b : Nat)) := c5.cell 1; have k2 : w4.cell? ⟨g2, 0, none⟩ = some (.int .u16 (S : Nat)) := s5.cell 0; have k3 := (n5.cell (1 + b * 8 + a)).trans (netA_get i M1 b a b8 a8); have k4 := n5.free (1 + b * 8 + a); go_wp2_with fail)
          refine hK.out _ _ (by (try dsimp only); exact ⟨k0, k1, k2⟩) (fun hHeld => ?_)
          clear hK
          (try simp only [Act.put, List.setIfInBounds_toArray, List.set_cons_zero, List.set_cons_succ])
          (refine takeD (i := 17) (d := 79) (oi := _) (v := ?_) rfl rfl (by kernel_rfl) (by kernel_rfl) (by kernel_rfl) (fun _ _ _ h => h) (Or.inl ⟨by rfl, ?_⟩) (by assumption) ?_; rotate_left; (focus ((intro w hSw; (try dsimp only at hSw); go_simp) <;> (with_reducible rfl))); (try simp only [Act.put, List.setIfInBounds_toArray, List.set_cons_zero, List.set_cons_succ]))
          refine wpAnyH_ready (rs := [18]) (by kernel_rfl) (by simp) ?_
          refine AllReadyH.cons (o := _) rfl (fun K hK => ?_) AllReadyH.nil
          go_simp
          skip
          refine hK.out _ _ (by (try dsimp only); exact keep3 k0 k1 k2 _ _ _ e1 e2) (fun hHeld => ?_)
          clear hK
          (try simp only [Act.put, List.setIfInBounds_toArray, List.set_cons_zero, List.set_cons_succ])
          refine wpAnyH_done (by kernel_rfl) ?_ _

          rotate_left
          go_simp
          skip
          refine hK.out _ _ (by (try dsimp only); exact ⟨f0, f1, f2⟩) (fun hHeld => ?_)
          clear hK
          (try simp only [Act.put, List.setIfInBounds_toArray, List.set_cons_zero, List.set_cons_succ])
          refine wpAnyH_ready (rs := [13]) (by kernel_rfl) (by simp) ?_
          refine AllReadyH.cons (o := _) rfl (fun K hK => ?_) AllReadyH.nil
          go_simp
          (go_at_call 56; refine (invS_any _ _ hS).mono ?_; rintro e w3 ⟨rfl, hb3⟩; have z3 := Own.below (show Own W2.drew _ _ _ from z4) hb3 L5; have n3 := Own.below (show Own W2.drew _ _ _ from n4) hb3 L2; have c3 := Own.below (show Own W2.drew _ _ _ from c4) hb3 L3; have s3 := Own.below (show Own W2.drew _ _ _ from s4) hb3 L4; have d0 : w3.cell? ⟨g1, 0, none⟩ = some (.int .i64 (a : Nat)) := c3.cell 0; have d1 : w3.cell? ⟨g1, 1, none⟩ = some (.int .i64 (b : Nat)) := c3.cell 1; have d2 : w3.cell? ⟨g2, 0, none⟩ = some (.int .u16 (S : Nat)) := s3.cell 0; have d3 := (n3.cell (1 + b * 8 + a)).trans (netA_get i M1 b a b8 a8); have d4 := n3.free (1 + b * 8 + a); go_wp2_with fail)
          refine hK.out _ _ (by (try dsimp only); exact ⟨d0, d1, d2⟩) (fun hHeld => ?_)
          clear hK
          (try simp only [Act.put, List.setIfInBounds_toArray, List.set_cons_zero, List.set_cons_succ])
          refine wpAnyH_ready (rs := [14]) (by kernel_rfl) (by simp) ?_
          refine AllReadyH.cons (o := _) rfl (fun K hK => ?_) AllReadyH.nil
          go_simp
          (go_at_call 55; refine (inter_any _ _ _ (hM1 b a) hI).mono ?_; rintro e w4 ⟨rfl, hb4⟩; have z5 := z3.below hb4 z3.lt; have n5 := n3.below hb4 n3.lt; have c5 := c3.below hb4 c3.lt; have s5 := s3.below hb4 s3.lt; have k0 : w4.cell? ⟨g1, 0, none⟩ = some (.int .i64 (a : Nat)) := c5.cell 0; have k1 : w4.cell? ⟨g1, 1, none⟩ = some (.int .i64 (b : Nat)) := c5.cell 1; have k2 : w4.cell? ⟨g2, 0, none⟩ = some (.int .u16 (S : Nat)) := s5.cell 0; have k3 := (n5.cell (1 + b * 8 + a)).trans (netA_get i M1 b a b8 a8); have k4 := n5.free (1 + b * 8 + a); go_wp2_with fail)
          refine hK.out _ _ (by (try dsimp only); exact ⟨k0, k1, k2⟩) (fun hHeld => ?_)
          clear hK
          (try simp only [Act.put, List.setIfInBounds_toArray, List.set_cons_zero, List.set_cons_succ])
          (refine takeD (i := 17) (d := 79) (oi := _) (v := ?_) rfl rfl (by kernel_rfl) (by kernel_rfl) (by kernel_rfl) (fun _ _ _ h => h) (Or.inl ⟨by rfl, ?_⟩) (by assumption) ?_; rotate_left; (focus ((intro w hSw; (try dsimp only at hSw); go_simp) <;> (with_reducible rfl))); (try simp only [Act.put, List.setIfInBounds_toArray, List.set_cons_zero, List.set_cons_succ]))
          refine wpAnyH_ready (rs := [18]) (by kernel_rfl) (by simp) ?_
          refine AllReadyH.cons (o := _) rfl (fun K hK => ?_) AllReadyH.nil
          go_simp
          skip
          refine hK.out _ _ (by (try dsimp only); exact keep3 k0 k1 k2 _ _ _ e1 e2) (fun hHeld => ?_)
          clear hK
          (try simp only [Act.put, List.setIfInBounds_toArray, List.set_cons_zero, List.set_cons_succ])
          refine wpAnyH_done (by kernel_rfl) ?_ _

          all_goals
            go_wp2
            have HS2 := netA_set i M1 b a (M1 b a &&& invN S) b8 a8
            have n6 := n5.store (1 + b * 8 + a) (.int .u16 ((M1 b a &&& invN S : Nat) : Int))
            rw [HS2] at n6
            have z6 := z5.far (p := ⟨w.heap.size + 1, 1 + b * 8 + a, none⟩) (by simp) (.int .u16 ((M1 b a &&& invN S : Nat) : Int))
            have hz4 := b4.size
            have hz3 := hb3.size
            simp only [World.size_drew] at hz3
            have b6 : Below w.heap.size w (w4.setCell ⟨w.heap.size + 1, 1 + b * 8 + a, none⟩ (.int .u16 ((M1 b a &&& invN S : Nat) : Int))) := (((b4.drew).trans (hb3.mono (by simp; omega))).trans (hb4.mono (by omega))).setCell (by simp) _
            have hPP : (l.take (k + 1)).foldl conS (pP i i) = upd M1 b a (M1 b a &&& invN S) := by rw [HP.out]; unfold conS; simp only [Int.toNat_natCast]; rw [hSS, hM1e]
            go_roundw
            case rel => exact ⟨k + 1, by omega, by go_num, z6, by rw [hPP]; exact n6, by rw [hPP]; exact fun x y => upd_lt hM1 (and_lt _ (hM1 b a)) x y, b6⟩
            case measure => simp [intOf]; omega
        · have hkl : k = l.length := by omega
          subst hkl
          rw [List.take_length] at r1
          go_wp2_with (first | (refine wpList_load_row rfl 66 _ rfl (w.heap.size + 1) rfl 66 (netA i (permN i l)) (0, 0) _ r1 Tryd.underlying66 rfl (netI _ _) ?_) | (refine wpList_store_row rfl 66 _ _ rfl w.heap.size (netA i (permN i l)) rfl rfl 66 _ r0 (netI _ _) (netZ _ _) (netOne _ _) ?_))
          refine bodyPost_ret (v := .agg (netA i (permN i l))) (results_cell_row rfl _ _ w.heap.size 66 (netA i (permN i l)) (0, 0) _ rfl (setRow_heap _ _ _ _ _ _ r0) Tryd.underlying66 rfl (netI _ _)) rfl ⟨rfl, ?_⟩
          exact below_setRow hbi (Nat.le_refl _) _
end Go.Proofs.YtmmecpmeemhglaaDoor
