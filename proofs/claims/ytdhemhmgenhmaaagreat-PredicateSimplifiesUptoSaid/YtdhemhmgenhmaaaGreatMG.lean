import Derived.Test.YtdhemhmgenhmaaaGreatMC
import Derived.Sort.Statements
import Derived.Shelf.GgSortFunc.Insertion
import Derived.WalkKit
import Derived.WalkSpells
import Derived.WalkLawsBesides
import Derived.Deep.QuietTactic
import Derived.BigQuiet
import Derived.Handy
import Derived.Lib.Hide
import Derived.Laws.AppendOwnNone
import Derived.Laws.MakeOwn
import Derived.Test.YtdhemhmgenhmaaaGreatQS
import Derived.ArgAppend
import Derived.Laws.OwnMore
set_option maxRecDepth 100000
set_option maxHeartbeats 25600000
set_option linter.unusedVariables false
set_option linter.unusedSimpArgs false
/-
  The order of rows is a strict total order (mathematics). Conditions: none.
-/
namespace Go.Proofs.YtdhemhmgenhmaaaGreat
open Go.RowKit Go.Sort
end Go.Proofs.YtdhemhmgenhmaaaGreat
namespace Go.Proofs.YtdhemhmgenhmaaaGreat
open Go.RowKit Go.Sort
def atP (ps : List Vl) (i : Int) : Vl := if 0 ≤ i then ps.getD i.toNat zV else zV
end Go.Proofs.YtdhemhmgenhmaaaGreat
namespace Go.Proofs.YtdhemhmgenhmaaaGreat
open Go.RowKit
def GB (w w' : World) : Prop := Below w.heap.size w w' ∧ w.drawn ≤ w'.drawn
theorem gb_of {w w' : World} (h : Below w.heap.size w w') (hd : w.drawn ≤ w'.drawn) : GB w w' := ⟨h, hd⟩
theorem GB.refl (w : World) : GB w w := ⟨Below.refl _ _, Nat.le_refl _⟩
theorem GB.trans {w a b : World} (h : GB w a) (k : GB a b) : GB w b := ⟨h.1.trans (k.1.mono h.1.size), Nat.le_trans h.2 k.2⟩
structure AftD (W : World) where
 w : World
 h : GB W w
instance {W : World} : Nonempty (AftD W) := ⟨⟨W, GB.refl _⟩⟩
instance {W : World} : Inhabited (AftD W) := ⟨⟨W, GB.refl _⟩⟩
def RdN (w : World) (L B : Nat) (u : Value) (p : List Vl) : Prop := RdV w L B u p ∧ ∀ n c, u = .slice none n c → c = 0
theorem RdN.below {w w' : World} {L B : Nat} {u : Value} {p : List Vl} (h : RdN w L B u p) (hb : Below B w w') : RdN w' L B u p := ⟨h.1.below hb, h.2⟩
theorem RdN.more {w : World} {L B B' : Nat} {u : Value} {p : List Vl} (h : RdN w L B u p) (hB : B ≤ B') : RdN w L B' u p := ⟨h.1.more hB (Nat.le_refl _), h.2⟩
theorem RdN.step {w w' : World} {L B : Nat} {u : Value} {p : List Vl} (h : RdN w L B u p) (hb : Below w.heap.size w w') (hB : B ≤ w.heap.size) : RdN w' L w'.heap.size u p := ⟨h.1.step hb hB, h.2⟩
theorem RdN.of_own {w : World} {base : Nat} {v : Value} {ps : List Vl} (h : w.ownsRow base 23 3 v ps.length (flatV ps)) (hl : ps.length ≤ 9223372036854775807) : RdN w base w.heap.size v ps := by
 refine ⟨RdV.of_own h hl, ?_⟩
 obtain ⟨_, h | ⟨g, c, cs, rfl, _⟩⟩ := h
 ·obtain ⟨rfl, _⟩ := h; intro n c e; injection e with _ _ e3; exact e3.symm
 ·intro n c e; cases e
theorem RdN.grown {w w' : World} {g B : Nat} {L : Nat} {u : Value} {p : List Vl} (h : RdN w L B u p) (hg : w.grownBy w' (some g)) (hL : g < L) (hB : B ≤ w.heap.size) : RdN w' L w'.heap.size u p := by
 obtain ⟨⟨A, c, hv, hl, hc⟩, h2⟩ := h
 have hz := hg.size
 refine ⟨⟨A, c, hv, hl, fun k n hk => ?_⟩, h2⟩
 obtain ⟨ad, h1, h0, h3, c0, c1, c2⟩ := hc k n hk
 have hne : ∀ a : Addr, a.block = ad.block → w'.cell? a = w.cell? a := fun a ha => World.grownBy.cell_far hg a (by omega) (by rw [ha]; intro e; injection e with e; omega)
 exact ⟨ad, h1, h0, by omega, (hne _ (by rw [add_block])).trans c0, (hne _ (by show (ad.add (k * 3)).block = _; rw [add_block])).trans c1, (hne _ (by show (ad.add (k * 3)).block = _; rw [add_block])).trans c2⟩
def RdR (w : World) (L B : Nat) (v : Value) (rs : List (List Vl)) : Prop :=
 ∃ A c, v = .slice A rs.length c ∧ rs.length ≤ 9223372036854775807 ∧ ∀ (k : Nat) (r : List Vl), rs[k]? = some r → ∃ (ad : Addr) (u : Value), A = some ad ∧ L ≤ ad.block ∧ ad.block < B ∧ w.cell? (ad.add k) = some u ∧ RdN w 0 B u r
theorem RdR.below {w w' : World} {L B : Nat} {v : Value} {rs : List (List Vl)} (h : RdR w L B v rs) (hb : Below B w w') : RdR w' L B v rs := by
 obtain ⟨A, c, hv, hl, hc⟩ := h
 exact ⟨A, c, hv, hl, fun k n hk => let ⟨ad, u, h1, h0, h2, h3, h4⟩ := hc k n hk; ⟨ad, u, h1, h0, h2, (hb.cell (p := ad.add k) (by rw [add_block]; exact h2)).trans h3, h4.below hb⟩⟩
theorem RdR.more {w : World} {L B B' : Nat} {v : Value} {rs : List (List Vl)} (h : RdR w L B v rs) (hB : B ≤ B') : RdR w L B' v rs := by
 obtain ⟨A, c, hv, hl, hc⟩ := h
 exact ⟨A, c, hv, hl, fun k n hk => let ⟨ad, u, h1, h0, h2, h3, h4⟩ := hc k n hk; ⟨ad, u, h1, h0, Nat.lt_of_lt_of_le h2 hB, h3, h4.more hB⟩⟩
theorem RdR.step {w w' : World} {L B : Nat} {v : Value} {rs : List (List Vl)} (h : RdR w L B v rs) (hb : Below w.heap.size w w') (hB : B ≤ w.heap.size) : RdR w' L w'.heap.size v rs :=
 ((h.more hB).below hb).more hb.size
theorem atP_neg (p : List Vl) (i : Int) (h : i < 0) : atP p i = zV := by unfold atP; rw [if_neg (by omega)]
theorem atP_out (p : List Vl) (k : Nat) (h : ¬ k < p.length) : atP p (k : Nat) = zV := by
 unfold atP; rw [if_pos (by omega), Int.toNat_natCast, List.getD_eq_getElem?_getD, List.getElem?_eq_none (by omega)]; rfl
theorem atP_in (p : List Vl) (k : Nat) (h : k < p.length) : atP p (k : Nat) = p[k] := by
 unfold atP; rw [if_pos (by omega), Int.toNat_natCast, List.getD_eq_getElem?_getD, List.getElem?_eq_getElem h]; rfl
theorem grNull_any (w : World) : Calls Tryz.prog 20 #[] w fun e w' => e = .returned (.agg #[.int .i64 0, .int .i64 0, .string ⟨#[]⟩]) ∧ GB w w' := by
 go_enter Tryz.func20, Tryz.ntmps20
 go_wp2
 (try simp only [Exit.inBlock, Exit.then]); refine bodyPost_ret_by (results_cell_row1 (by rfl) _ _ (w.heap.size) _ (by rfl) (load_val (Own.new _ _ _))) ?_ ?_; (focus rfl); refine ⟨rfl, ?_⟩
 refine gb_of ?_ (by first | exact Nat.le_refl _ | (simp; omega))
 (repeat' first | (with_reducible first | exact Below.refl _ _ | assumption | refine Below.alloc ?_ ?_ _ | refine Below.drew ?_ | refine Below.setCell ?_ ?_ _ | refine Below.trans ?_ (Below.mono (by assumption) ?_)) | go_size)
theorem rAt_any (u : Value) (p : List Vl) (i : Int) (w : World) (L : Nat) (hu : RdV w L w.heap.size u p) :
  Calls Tryz.prog 67 #[u, .int .i64 i] w fun e w' => e = .returned (valV (atP p i)) ∧ GB w w' := by
 obtain ⟨A, c, rfl, hl1, hc1⟩ := hu
 have oB : Own (w.alloc (.cells #[.int .i64 0, .int .i64 0, .string ⟨#[]⟩] 23)) w.heap.size 23 #[.int .i64 0, .int .i64 0, .string ⟨#[]⟩] := Own.new _ _ _
 by_cases h0 : i < 0
 ·rw [atP_neg p i h0]
  show Calls _ _ _ _ (fun e w' => e = .returned (.agg #[.int .i64 0, .int .i64 0, .string ⟨#[]⟩]) ∧ GB w w')
  clear hc1
  go_enter Tryz.func67, Tryz.ntmps67
  go_wp2_with fail
  refine (grNull_any _).mono ?_
  rintro e w1 ⟨rfl, hb1, hd1⟩
  have z1 := hb1.size
  simp only [World.size_alloc] at z1
  have o1 := oB.below hb1 (by simp only [World.size_alloc]; omega)
  have d0 := o1.cell 0; have e0 := o1.free 0; have d1 := o1.cell 1; have e1 := o1.free 1; have d2 := o1.cell 2; have e2 := o1.free 2; (try simp only [List.getElem?_toArray, List.getElem?_cons_zero, List.getElem?_cons_succ] at d0 d1 d2)
  go_wp2
  (try simp only [Exit.inBlock, Exit.then]); refine bodyPost_ret_by (results_cell_row1 (by rfl) _ _ (w.heap.size) _ (by rfl) (load_val (((o1.store 0 _).store 1 _).store 2 _))) ?_ ?_; (focus rfl); refine ⟨rfl, ?_⟩
  refine gb_of ?_ (by first | exact hd1 | (simp at hd1 ⊢; omega))
  (repeat' first | (with_reducible first | exact Below.refl _ _ | assumption | refine Below.alloc ?_ ?_ _ | refine Below.drew ?_ | refine Below.setCell ?_ ?_ _ | refine Below.trans ?_ (Below.mono (by assumption) ?_)) | go_size)
 ·obtain ⟨k, rfl⟩ := Int.eq_ofNat_of_zero_le (show 0 ≤ i by omega)
  by_cases hk : k < p.length
  ·have hki : (k : Int) < p.length := by omega
   have hki2 : ¬ (k : Int) ≥ p.length := by omega
   rw [atP_in p k hk]
   obtain ⟨ad, rfl, _, hab, c0, c1, c2⟩ := hc1 k _ (List.getElem?_eq_getElem hk)
   generalize p[k] = q at *
   obtain ⟨kd, n, s⟩ := q
   unfold valV
   dsimp only at c0 c1 c2 ⊢
   have d0 := ((bel_mark w (.cells #[.int .i64 0, .int .i64 0, .string ⟨#[]⟩] 23)).cell (p := ad.add (k * 3)) (by rw [add_block]; exact hab)).trans c0
   have d1 := ((bel_mark w (.cells #[.int .i64 0, .int .i64 0, .string ⟨#[]⟩] 23)).cell (p := ⟨(ad.add (k * 3)).block, (ad.add (k * 3)).off + 1, none⟩) (by show (ad.add (k * 3)).block < _; rw [add_block]; exact hab)).trans c1
   have d2 := ((bel_mark w (.cells #[.int .i64 0, .int .i64 0, .string ⟨#[]⟩] 23)).cell (p := ⟨(ad.add (k * 3)).block, (ad.add (k * 3)).off + 2, none⟩) (by show (ad.add (k * 3)).block < _; rw [add_block]; exact hab)).trans c2
   clear c0 c1 c2 hc1
   go_enter Tryz.func67, Tryz.ntmps67
   go_wp2
   (try simp only [Exit.inBlock, Exit.then]); refine bodyPost_ret_by (results_cell_row1 (by rfl) _ _ (w.heap.size) _ (by rfl) (load_val (Own.new _ _ _))) ?_ ?_; (focus rfl); refine ⟨rfl, ?_⟩
   refine gb_of ?_ (by first | exact Nat.le_refl _ | (simp; omega))
   (repeat' first | (with_reducible first | exact Below.refl _ _ | assumption | refine Below.alloc ?_ ?_ _ | refine Below.drew ?_ | refine Below.setCell ?_ ?_ _ | refine Below.trans ?_ (Below.mono (by assumption) ?_)) | go_size)
  ·have hki : ¬ (k : Int) < p.length := by omega
   have hki2 : (k : Int) ≥ p.length := by omega
   rw [atP_out p k hk]
   show Calls _ _ _ _ (fun e w' => e = .returned (.agg #[.int .i64 0, .int .i64 0, .string ⟨#[]⟩]) ∧ GB w w')
   clear hc1
   go_enter Tryz.func67, Tryz.ntmps67
   go_wp2_with fail
   refine (grNull_any _).mono ?_
   rintro e w1 ⟨rfl, hb1, hd1⟩
   have z1 := hb1.size
   simp only [World.size_alloc] at z1
   have o1 := oB.below hb1 (by simp only [World.size_alloc]; omega)
   have d0 := o1.cell 0; have e0 := o1.free 0; have d1 := o1.cell 1; have e1 := o1.free 1; have d2 := o1.cell 2; have e2 := o1.free 2; (try simp only [List.getElem?_toArray, List.getElem?_cons_zero, List.getElem?_cons_succ] at d0 d1 d2)
   go_wp2
   (try simp only [Exit.inBlock, Exit.then]); refine bodyPost_ret_by (results_cell_row1 (by rfl) _ _ (w.heap.size) _ (by rfl) (load_val (((o1.store 0 _).store 1 _).store 2 _))) ?_ ?_; (focus rfl); refine ⟨rfl, ?_⟩
   refine gb_of ?_ (by first | exact hd1 | (simp at hd1 ⊢; omega))
   (repeat' first | (with_reducible first | exact Below.refl _ _ | assumption | refine Below.alloc ?_ ?_ _ | refine Below.drew ?_ | refine Below.setCell ?_ ?_ _ | refine Below.trans ?_ (Below.mono (by assumption) ?_)) | go_size)
theorem val_cells {W : World} {g : Nat} {x y z : Value} (hg : g < W.heap.size) (o : Own W g 23 #[x, y, z]) : (∀ p : After W, p.w.cell? ⟨g, 0, none⟩ = some x) ∧ (∀ p : After W, p.w.cell? ⟨g, 1, none⟩ = some y) ∧ (∀ p : After W, p.w.cell? ⟨g, 2, none⟩ = some z) :=
 ⟨after_cell hg (o.cell 0), after_cell hg (o.cell 1), after_cell hg (o.cell 2)⟩
def RdI (w : World) (L B : Nat) (v : Value) (zs : List Int) : Prop :=
 ∃ A c, v = .slice A zs.length c ∧ zs.length ≤ 9223372036854775807 ∧ ∀ (k : Nat) (z : Int), zs[k]? = some z → ∃ ad : Addr, A = some ad ∧ L ≤ ad.block ∧ ad.block < B ∧ w.cell? (ad.add k) = some (.int .i64 z)
theorem RdI.below {w w' : World} {L B : Nat} {v : Value} {zs : List Int} (h : RdI w L B v zs) (hb : Below B w w') : RdI w' L B v zs := by
 obtain ⟨A, c, hv, hl, hc⟩ := h
 exact ⟨A, c, hv, hl, fun k n hk => let ⟨ad, h1, h0, h2, h3⟩ := hc k n hk; ⟨ad, h1, h0, h2, (hb.cell (p := ad.add k) (by rw [add_block]; exact h2)).trans h3⟩⟩
theorem RdI.more {w : World} {L B B' : Nat} {v : Value} {zs : List Int} (h : RdI w L B v zs) (hB : B ≤ B') : RdI w L B' v zs := by
 obtain ⟨A, c, hv, hl, hc⟩ := h
 exact ⟨A, c, hv, hl, fun k n hk => let ⟨ad, h1, h0, h2, h3⟩ := hc k n hk; ⟨ad, h1, h0, Nat.lt_of_lt_of_le h2 hB, h3⟩⟩
theorem RdI.step {w w' : World} {L B : Nat} {v : Value} {zs : List Int} (h : RdI w L B v zs) (hb : Below w.heap.size w w') (hB : B ≤ w.heap.size) : RdI w' L w'.heap.size v zs :=
 ((h.more hB).below hb).more hb.size
def joinK : Int → List Int → Option Int
 | r, [] => some r
 | r, k :: l => if k = 0 then joinK r l else if r ≠ 0 ∧ k ≠ r then none else joinK k l
def kRes (o : Option Int) : Value := .tuple #[.int .i64 (o.getD 0), .bool o.isSome]
def allK (kd : Int) (l : List Int) : Bool := l.all fun z => z == kd || z == 0
theorem allK_drop (kd : Int) (zs : List Int) (k : Nat) (z : Int) (hz : zs[k]? = some z) : allK kd (zs.drop k) = ((z == kd || z == 0) && allK kd (zs.drop (k + 1))) := by
 obtain ⟨h1, rfl⟩ := List.getElem?_eq_some_iff.1 hz
 rw [List.drop_eq_getElem_cons h1]
 rfl
theorem joinK_drop (r : Int) (zs : List Int) (k : Nat) (z : Int) (hz : zs[k]? = some z) : joinK r (zs.drop k) = if z = 0 then joinK r (zs.drop (k + 1)) else if r ≠ 0 ∧ z ≠ r then none else joinK z (zs.drop (k + 1)) := by
 obtain ⟨h1, rfl⟩ := List.getElem?_eq_some_iff.1 hz
 rw [List.drop_eq_getElem_cons h1]
 rfl
theorem joinK_end (r : Int) (zs : List Int) (k : Nat) (h : ¬ k < zs.length) : joinK r (zs.drop k) = some r := by
 rw [List.drop_eq_nil_of_le (by omega)]; rfl
theorem pCommon_any (v : Value) (zs : List Int) (w : World) (L : Nat) (hv : RdI w L w.heap.size v zs) :
  Calls Tryz.prog 135 #[v] w fun e w' => e = .returned (kRes (joinK 0 zs)) ∧ Below w.heap.size w w' := by
 obtain ⟨A, c, rfl, hl, hc⟩ := hv
 have HC := Lib.hid hc
 clear hc
 go_enter Tryz.func135, Tryz.ntmps135
 go_wp2
 go_loopw [4, 6, 9] (fun r _ i wr => ∃ (k : Nat) (q : Int), k ≤ zs.length ∧ i = .int .i64 k ∧ r = .int .i64 q ∧ Hid (joinK 0 zs = joinK q (zs.drop k)) ∧ Below w.heap.size w wr) (fun _ _ i _ => zs.length - (intOf i).toNat)
 case atStart => exact ⟨0, 0, Nat.zero_le _, rfl, rfl, Lib.hid rfl, Below.refl _ _⟩
 case round =>
  obtain ⟨k, q, hk, rfl, rfl, HR, hbr⟩ := hrel
  have hbz := hbr.size
  by_cases hlt : k < zs.length
  ·have hki : (k : Int) < zs.length := by omega
   obtain ⟨ad, rfl, _, hab, c0⟩ := HC.out k _ (List.getElem?_eq_getElem hlt)
   have d0 := (hbr.cell (p := ad.add k) (by rw [add_block]; exact hab)).trans c0
   have hj := joinK_drop q zs k _ (List.getElem?_eq_getElem hlt)
   rw [← HR.out] at hj
   have HJ := Lib.hid hj
   clear hj c0 HR
   generalize zs[k] = z at *
   by_cases z0 : z = 0
   ·subst z0
    have HF := Lib.hid (by simpa using HJ.out : joinK 0 zs = joinK q (zs.drop (k + 1)))
    clear HJ
    go_wp2
    go_round
    case rel => exact ⟨k + 1, q, by omega, by go_num, rfl, HF, hbr⟩
    case measure => simp [intOf]; omega
   ·by_cases q0 : q = 0
    ·subst q0
     have HF := Lib.hid (by have := HJ.out; rw [if_neg z0, if_neg (by simp)] at this; exact this : joinK 0 zs = joinK z (zs.drop (k + 1)))
     clear HJ
     go_wp2
     go_round
     case rel => exact ⟨k + 1, z, by omega, by go_num, rfl, HF, hbr⟩
     case measure => simp [intOf]; omega
    ·have e1 : (q != 0) = true := by simp [q0]
     by_cases qz : z = q
     ·subst qz
      have e2 : (z != z) = false := by simp
      have HF := Lib.hid (by have := HJ.out; rw [if_neg z0, if_neg (by simp)] at this; exact this : joinK 0 zs = joinK z (zs.drop (k + 1)))
      clear HJ
      go_wp2
      go_round
      case rel => exact ⟨k + 1, z, by omega, by go_num, rfl, HF, hbr⟩
      case measure => simp [intOf]; omega
     ·have e2 : (z != q) = true := by simp [qz]
      have HF := Lib.hid (by have := HJ.out; rw [if_neg z0, if_pos ⟨q0, qz⟩] at this; exact this : joinK 0 zs = none)
      clear HJ qz
      go_wp2
      go_ret2
      exact ⟨by rw [HF.out]; rfl, hbr⟩
  ·have hki : ¬ (k : Int) < zs.length := by omega
   have HF := Lib.hid (HR.out.trans (joinK_end _ _ _ hlt))
   clear HR
   go_wp2
   go_ret2
   exact ⟨by rw [HF.out]; rfl, hbr⟩
theorem rJoin_any (v : Value) (zs : List Int) (w : World) (L : Nat) (hv : RdI w L w.heap.size v zs) :
  Calls Tryz.prog 108 #[v] w fun e w' => e = .returned (kRes (joinK 0 zs)) ∧ Below w.heap.size w w' := by
 obtain ⟨A, c, rfl, hl, hc⟩ := hv
 have HC := Lib.hid hc
 clear hc
 go_enter Tryz.func108, Tryz.ntmps108
 go_wp2
 go_loopw [4, 5] (fun r i wr => ∃ (k : Nat) (q : Int), k ≤ zs.length ∧ i = .int .i64 k ∧ r = .int .i64 q ∧ Hid (joinK 0 zs = joinK q (zs.drop k)) ∧ Below w.heap.size w wr) (fun _ i _ => zs.length - (intOf i).toNat)
 case atStart => exact ⟨0, 0, Nat.zero_le _, rfl, rfl, Lib.hid rfl, Below.refl _ _⟩
 case round =>
  obtain ⟨k, q, hk, rfl, rfl, HR, hbr⟩ := hrel
  have hbz := hbr.size
  by_cases hlt : k < zs.length
  ·have hki : (k : Int) < zs.length := by omega
   obtain ⟨ad, rfl, _, hab, c0⟩ := HC.out k _ (List.getElem?_eq_getElem hlt)
   have d0 := (hbr.cell (p := ad.add k) (by rw [add_block]; exact hab)).trans c0
   have hj := joinK_drop q zs k _ (List.getElem?_eq_getElem hlt)
   rw [← HR.out] at hj
   have HJ := Lib.hid hj
   clear hj c0 HR
   generalize zs[k] = z at *
   by_cases z0 : z = 0
   ·subst z0
    have HF := Lib.hid (by simpa using HJ.out : joinK 0 zs = joinK q (zs.drop (k + 1)))
    clear HJ
    go_wp2
    go_round
    case rel => exact ⟨k + 1, q, by omega, by go_num, rfl, HF, hbr⟩
    case measure => simp [intOf]; omega
   ·by_cases q0 : q = 0
    ·subst q0
     have HF := Lib.hid (by have := HJ.out; rw [if_neg z0, if_neg (by simp)] at this; exact this : joinK 0 zs = joinK z (zs.drop (k + 1)))
     clear HJ
     go_wp2
     go_round
     case rel => exact ⟨k + 1, z, by omega, by go_num, rfl, HF, hbr⟩
     case measure => simp [intOf]; omega
    ·have e1 : (q != 0) = true := by simp [q0]
     by_cases qz : z = q
     ·subst qz
      have e2 : (z != z) = false := by simp
      have HF := Lib.hid (by have := HJ.out; rw [if_neg z0, if_neg (by simp)] at this; exact this : joinK 0 zs = joinK z (zs.drop (k + 1)))
      clear HJ
      go_wp2
      go_round
      case rel => exact ⟨k + 1, z, by omega, by go_num, rfl, HF, hbr⟩
      case measure => simp [intOf]; omega
     ·have e2 : (q != z) = true := by simp [Ne.symm qz]
      have e3 : (z != q) = true := by simp [qz]
      have HF := Lib.hid (by have := HJ.out; rw [if_neg z0, if_pos ⟨q0, qz⟩] at this; exact this : joinK 0 zs = none)
      clear HJ qz
      go_wp2
      go_ret2
      exact ⟨by rw [HF.out]; rfl, hbr⟩
  ·have hki : ¬ (k : Int) < zs.length := by omega
   have HF := Lib.hid (HR.out.trans (joinK_end _ _ _ hlt))
   clear HR
   go_wp2
   go_ret2
   exact ⟨by rw [HF.out]; rfl, hbr⟩
theorem rAll_any (v : Value) (zs : List Int) (kd : Int) (w : World) (L : Nat) (hv : RdI w L w.heap.size v zs) :
  Calls Tryz.prog 107 #[v, .int .i64 kd] w fun e w' => e = .returned (.bool (allK kd zs)) ∧ Below w.heap.size w w' := by
 obtain ⟨A, c, rfl, hl, hc⟩ := hv
 have HC := Lib.hid hc
 clear hc
 go_enter Tryz.func107, Tryz.ntmps107
 go_wp2
 go_loopw [5] (fun i wr => ∃ (k : Nat), k ≤ zs.length ∧ i = .int .i64 k ∧ Hid (allK kd zs = allK kd (zs.drop k)) ∧ Below w.heap.size w wr) (fun i _ => zs.length - (intOf i).toNat)
 case atStart => exact ⟨0, Nat.zero_le _, rfl, Lib.hid rfl, Below.refl _ _⟩
 case round =>
  obtain ⟨k, hk, rfl, HR, hbr⟩ := hrel
  have hbz := hbr.size
  by_cases hlt : k < zs.length
  ·have hki : (k : Int) < zs.length := by omega
   obtain ⟨ad, rfl, _, hab, c0⟩ := HC.out k _ (List.getElem?_eq_getElem hlt)
   have d0 := (hbr.cell (p := ad.add k) (by rw [add_block]; exact hab)).trans c0
   have hj := allK_drop kd zs k _ (List.getElem?_eq_getElem hlt)
   rw [← HR.out] at hj
   have HJ := Lib.hid hj
   clear hj c0 HR
   generalize zs[k] = z at *
   by_cases z1 : z = kd
   ·have e1 : (z != kd) = false := by simp [z1]
    have HF := Lib.hid (by have := HJ.out; simpa [z1] using this : allK kd zs = allK kd (zs.drop (k + 1)))
    clear HJ z1
    go_wp2
    go_round
    case rel => exact ⟨k + 1, by omega, by go_num, HF, hbr⟩
    case measure => simp [intOf]; omega
   ·have e1 : (z != kd) = true := by simp [z1]
    by_cases z0 : z = 0
    ·have e2 : (z != 0) = false := by simp [z0]
     have HF := Lib.hid (by have := HJ.out; simpa [z0] using this : allK kd zs = allK kd (zs.drop (k + 1)))
     clear HJ z1 z0
     go_wp2
     go_round
     case rel => exact ⟨k + 1, by omega, by go_num, HF, hbr⟩
     case measure => simp [intOf]; omega
    ·have e2 : (z != 0) = true := by simp [z0]
     have HF := Lib.hid (show allK kd zs = false by rw [HJ.out, show (z == kd) = false by simp [z1], show (z == 0) = false by simp [z0]]; rfl)
     clear HJ z1 z0
     go_wp2
     go_ret
     exact ⟨by rw [HF.out]; rfl, hbr⟩
  ·have hki : ¬ (k : Int) < zs.length := by omega
   have HF := Lib.hid (show allK kd zs = true by rw [HR.out, List.drop_eq_nil_of_le (by omega)]; rfl)
   clear HR
   go_wp2
   go_ret
   exact ⟨by rw [HF.out]; rfl, hbr⟩
theorem infoI13 : (Tryz.prog.info? 3).map (fun i => (i.zero, i.size, i.bytes)) = some (some (.int .i64 0), 1, 8) := by kernel_rfl
def rowZ (zs : List Int) (n : Nat) : Array Value := (zs.map (Value.int .i64) ++ List.replicate (n - zs.length) (Value.int .i64 0)).toArray
theorem rowZ_next (zs : List Int) (n : Nat) (h : zs.length < n) : (rowZ zs n)[zs.length]? = some (Value.int .i64 0) := by
 unfold rowZ
 simp only [List.getElem?_toArray]
 rw [List.getElem?_append_right (by simp), List.length_map, Nat.sub_self, List.getElem?_replicate, if_pos (by omega)]
theorem rowZ_set (zs : List Int) (n : Nat) (z : Int) (h : zs.length < n) : (rowZ zs n).setIfInBounds zs.length (.int .i64 z) = rowZ (zs ++ [z]) n := by
 unfold rowZ
 rw [List.setIfInBounds_toArray]
 congr 1
 rw [List.set_append_right _ _ (by simp), List.length_map, Nat.sub_self, show n - zs.length = (n - (zs ++ [z]).length) + 1 by rw [List.length_append]; simp; omega]
 simp [List.replicate_succ]
theorem made_rowZ (W : World) (n : Nat) (hn : n ≤ 1099511627776) :
  (Instr.makeSlice 28 (.int .i64 (n : Nat)) (.int .i64 (n : Nat))).run Tryz.prog W = .ok (.slice (some ⟨W.heap.size, 0, none⟩) n n) (W.alloc (.cells (rowZ [] n) 3)) := by
 obtain ⟨i0, hi, hz0, hz1, hz2⟩ := info_partsB infoI13
 have h := run_make (P := Tryz.prog) (w := W) 28 3 i0 (.int .i64 0) Tryz.underlying28 hi hz0 .i64 .i64 (n : Int) (n : Int) (by omega) (Int.le_refl _) (by rw [hz2]; omega) (by omega)
 rw [h, Int.toNat_natCast, hz1]
 have hr : madeCells (Value.int .i64 0).cells (n * 1) = rowZ [] n := by
  unfold rowZ
  rw [Nat.mul_one]
  unfold madeCells
  apply Array.ext
  ·simp [Value.cells]
  ·intro i h1 h2; simp [Value.cells, Nat.mod_one]
 rw [hr]
theorem addZ13 (g j : Nat) : (⟨g, 0, none⟩ : Addr).add j = ⟨g, j, none⟩ := by
 unfold Addr.add
 split <;> simp_all
theorem rdI_row {w : World} {g L : Nat} {zs : List Int} (h : Own w g 3 (rowZ zs zs.length)) (hg : L ≤ g) (hl : zs.length ≤ 9223372036854775807) : RdI w L w.heap.size (.slice (some ⟨g, 0, none⟩) zs.length zs.length) zs := by
 refine ⟨_, _, rfl, hl, fun k z hk => ⟨⟨g, 0, none⟩, rfl, hg, h.lt, ?_⟩⟩
 rw [addZ13, h.cell k]
 unfold rowZ
 simp [hk]
def resV (p : Int × Int) : Value := .tuple #[.int .i64 p.1, .int .i64 p.2]
theorem append_full {ops : Array Oper} {rest : List Oper} {o : Oper} {a : Act} {Q : Exit → Act → World → Prop} (W : World) (hgd : o.guard = none) (s x : Operand)
  (ho : o.op = .call { callee := .builtin .append, args := #[s, x], argTypes := #[28, 28] }) (A : Option Addr) (zs : List Int) (L : Nat) (hs : a.eval s = .slice A zs.length zs.length)
  (hr : RdI W L W.heap.size (.slice A zs.length zs.length) zs) (h0 c : Nat) (z : Int) (hx : a.eval x = .slice (some ⟨h0, 0, none⟩) 1 c) (hcell : W.cell? ⟨h0, 0, none⟩ = some (.int .i64 z))
  (hl : zs.length ≤ 1099511627776)
  (h : ∀ v' w', RdI w' W.heap.size w'.heap.size v' (zs ++ [z]) → Below W.heap.size W w' → wpList Tryz.prog ops Q rest (a.put o.dst v') w') :
  wpList Tryz.prog ops Q (o :: rest) a W := by
 obtain ⟨i0, hi, hz0, hz1, hz2⟩ := info_partsB infoI13
 obtain ⟨A', c', hv, _, hc⟩ := hr
 injection hv with e1 e2 e3
 subst e1
 refine wpList_append_grows (P := Tryz.prog) W hgd s x 28 ho 3 i0 (.int .i64 0) 1 8 Tryz.underlying28 hi hz0 hz1 hz2 rfl (by decide) A zs.length zs.length (zs.map (Value.int .i64)) hs ?_ (by simp) ?_ ⟨h0, 0, none⟩ 1 c [.int .i64 z] hx rfl ?_ ?_ (by omega) (by unfold maxLen; omega) (by omega) ?_
 ·intro hA
  rcases zs with _ | ⟨z1, l⟩
  ·exact ⟨rfl, rfl⟩
  ·obtain ⟨ad, h1, _⟩ := hc 0 z1 rfl
   rw [hA] at h1; cases h1
 ·intro b hb j u hj
  rw [List.getElem?_map] at hj
  cases hz : zs[j]? with
  | none => rw [hz] at hj; cases hj
  | some q =>
   rw [hz] at hj
   simp only [Option.map_some, Option.some.injEq] at hj
   obtain ⟨ad, h1, _, _, h4⟩ := hc j q hz
   rw [hb] at h1
   injection h1 with h1
   subst h1
   rw [h4, hj]
 ·intro j v hj
  have hj0 : j = 0 := by have := (List.getElem?_eq_some_iff.1 hj).1; simp at this; omega
  subst hj0
  have hv : Value.int .i64 z = v := by simpa using hj
  subst hv
  exact hcell
 ·intro v hv
  simp at hv
  subst hv
  rfl
 ·intro v' w' h1 h2
  refine h v' w' ?_ ((Below.refl _ _).grown h2 (Nat.le_refl _) (fun k hk => by cases hk))
  have e : zs.map (Value.int .i64) ++ [Value.int .i64 z] = (zs ++ [z]).map (Value.int .i64) := by simp
  rw [e, show zs.length + 1 = (zs ++ [z]).length by simp] at h1
  have h2 := h1
  rcases h1.2 with ⟨rfl, h0⟩ | ⟨g, cap, cur, rfl, hb, _⟩
  ·simp at h0
  ·exact ⟨some ⟨g, 0, none⟩, cap, rfl, by simp; omega, fun k q hk => ⟨⟨g, 0, none⟩, rfl, hb, (h2.lt g rfl).2, World.ownsRow.cells h2 rfl k _ (by rw [List.getElem?_map, hk]; rfl)⟩⟩
theorem rdI_two (w : World) (a b : Int) : RdI (w.alloc (.cells #[.int .i64 a, .int .i64 b] 3)) 0 (w.alloc (.cells #[.int .i64 a, .int .i64 b] 3)).heap.size (.slice (some ⟨w.heap.size, 0, none⟩) 2 2) [a, b] := by
 refine ⟨_, _, rfl, by simp, fun k z hk => ⟨_, rfl, Nat.zero_le _, by simp, ?_⟩⟩
 rw [addZ13, (Own.new w 3 #[.int .i64 a, .int .i64 b]).cell k]
 rcases k with _ | _ | k <;> simp at hk ⊢ <;> exact hk
theorem shape_cells {w : World} {a b d r : Value} {o : Obj} : ((w.alloc (.cells #[a, b, d, r] 99)).alloc o).cell? ⟨w.heap.size, 3, none⟩ = some r := ((Own.new w 99 #[a, b, d, r]).alloc o).cell 3
def resT (d r : Int) (zs : List Int) : Int × Int :=
 match joinK 0 (zs ++ [d]) with
 | none => (0, 7)
 | some k => if r = 0 then (k, 0) else (r, 0)
theorem pResK_any (op : Int) (A : Option Addr) (zs : List Int) (w : World) (L : Nat) (o : ¬ op = 22) (hl : zs.length ≤ 1099511627776) (hv : RdI w L w.heap.size (.slice A zs.length zs.length) zs) :
  Calls Tryz.prog 121 #[.int .i64 op, .slice A zs.length zs.length] w fun e w' => e = .returned (resV (resT (opAr op) (opRs op) zs)) ∧ Below w.heap.size w w' := by
 have hS := fun W => pShape_any op W
 have HS := Lib.hid hS
 have HV := Lib.hid hv
 generalize opLo op = a at *
 generalize opHi op = b at *
 generalize opAr op = d at *
 generalize opRs op = r at *
 generalize knw op = kn at *
 clear hS hv
 unfold resT
 cases hj : joinK 0 (zs ++ [d])
 ·have HC := Lib.hid (show ∀ (v : Value) (W : World) (L : Nat), RdI W L W.heap.size v (zs ++ [d]) → Calls Tryz.prog 135 #[v] W fun e w' => e = .returned (.tuple #[.int .i64 0, .bool false]) ∧ Below W.heap.size W w' from fun v W L h => by have h2 := pCommon_any v _ W L h; rw [hj] at h2; exact h2)
  dsimp only
  unfold resV
  clear hj
  go_enter Tryz.func121, Tryz.ntmps121
  go_wp2_with fail
  with_reducible refine (HS.out _).mono ?_
  rintro e w1 ⟨rfl, hb1⟩
  have bX := bel_mk w1 (.cells #[.int .i64 a, .int .i64 b, .int .i64 d, .int .i64 r] 99)
  have bY := bel_mk (w1.alloc (.cells #[.int .i64 a, .int .i64 b, .int .i64 d, .int .i64 r] 99)) (.cells #[.int .i64 d] 3)
  have bXY := hb1.trans ((bX.trans (bY.mono bX.size)).mono hb1.size)
  have RX := HV.out.step bXY (Nat.le_refl _)
  have cD : ((w1.alloc (.cells #[.int .i64 a, .int .i64 b, .int .i64 d, .int .i64 r] 99)).alloc (.cells #[.int .i64 d] 3)).cell? ⟨w1.heap.size + 1, 0, none⟩ = some (.int .i64 d) := by
   have h := (Own.new (w1.alloc (.cells #[.int .i64 a, .int .i64 b, .int .i64 d, .int .i64 r] 99)) 3 #[.int .i64 d]).cell 0
   rw [World.size_alloc] at h; exact h
  have HRX := Lib.hid RX
  have HCD := Lib.hid cD
  have HBXY := Lib.hid bXY
  have hz := bXY.size
  clear hb1 bX bY bXY RX cD
  go_wp2_with (first | (at_builtin; refine append_full _ rfl _ _ rfl A zs L rfl HRX.out (w1.heap.size + 1) 1 d rfl HCD.out hl ?_; intro v2 w2 hr2 hb2) | (go_at_call 135; refine (HC.out _ _ _ hr2).mono ?_; rintro e w3 ⟨rfl, hb3⟩))
  go_ret2
  exact ⟨rfl, HBXY.out.trans ((hb2.trans (hb3.mono hb2.size)).mono hz)⟩
 ·rename_i k
  have HC := Lib.hid (show ∀ (v : Value) (W : World) (L : Nat), RdI W L W.heap.size v (zs ++ [d]) → Calls Tryz.prog 135 #[v] W fun e w' => e = .returned (.tuple #[.int .i64 k, .bool true]) ∧ Below W.heap.size W w' from fun v W L h => by have h2 := pCommon_any v _ W L h; rw [hj] at h2; exact h2)
  dsimp only
  clear hj
  by_cases hr : r = 0
  ·subst hr
   rw [if_pos rfl]
   unfold resV
   go_enter Tryz.func121, Tryz.ntmps121
   go_wp2_with fail
   with_reducible refine (HS.out _).mono ?_
   rintro e w1 ⟨rfl, hb1⟩
   have bX := bel_mk w1 (.cells #[.int .i64 a, .int .i64 b, .int .i64 d, .int .i64 0] 99)
   have bY := bel_mk (w1.alloc (.cells #[.int .i64 a, .int .i64 b, .int .i64 d, .int .i64 0] 99)) (.cells #[.int .i64 d] 3)
   have bXY := hb1.trans ((bX.trans (bY.mono bX.size)).mono hb1.size)
   have RX := HV.out.step bXY (Nat.le_refl _)
   have cD : ((w1.alloc (.cells #[.int .i64 a, .int .i64 b, .int .i64 d, .int .i64 0] 99)).alloc (.cells #[.int .i64 d] 3)).cell? ⟨w1.heap.size + 1, 0, none⟩ = some (.int .i64 d) := by
    have h := (Own.new (w1.alloc (.cells #[.int .i64 a, .int .i64 b, .int .i64 d, .int .i64 0] 99)) 3 #[.int .i64 d]).cell 0
    rw [World.size_alloc] at h; exact h
   have cR := shape_cells (w := w1) (a := .int .i64 a) (b := .int .i64 b) (d := .int .i64 d) (r := .int .i64 0) (o := .cells #[.int .i64 d] 3)
   have HRX := Lib.hid RX
   have HCD := Lib.hid cD
   have HBXY := Lib.hid bXY
   have hz := bXY.size
   have hs : w1.heap.size < ((w1.alloc (.cells #[.int .i64 a, .int .i64 b, .int .i64 d, .int .i64 0] 99)).alloc (.cells #[.int .i64 d] 3)).heap.size := by simp; omega
   clear hb1 bX bY bXY RX cD
   go_wp2_with (first | (at_builtin; refine append_full _ rfl _ _ rfl A zs L rfl HRX.out (w1.heap.size + 1) 1 d rfl HCD.out hl ?_; intro v2 w2 hr2 hb2) | (go_at_call 135; refine (HC.out _ _ _ hr2).mono ?_; rintro e w3 ⟨rfl, hb3⟩; have cR3 := ((hb2.trans (hb3.mono hb2.size)).cell (p := ⟨w1.heap.size, 3, none⟩) hs).trans cR))
   go_ret2
   exact ⟨rfl, HBXY.out.trans ((hb2.trans (hb3.mono hb2.size)).mono hz)⟩
  ·rw [if_neg hr]
   unfold resV
   go_enter Tryz.func121, Tryz.ntmps121
   go_wp2_with fail
   with_reducible refine (HS.out _).mono ?_
   rintro e w1 ⟨rfl, hb1⟩
   have bX := bel_mk w1 (.cells #[.int .i64 a, .int .i64 b, .int .i64 d, .int .i64 r] 99)
   have bY := bel_mk (w1.alloc (.cells #[.int .i64 a, .int .i64 b, .int .i64 d, .int .i64 r] 99)) (.cells #[.int .i64 d] 3)
   have bXY := hb1.trans ((bX.trans (bY.mono bX.size)).mono hb1.size)
   have RX := HV.out.step bXY (Nat.le_refl _)
   have cD : ((w1.alloc (.cells #[.int .i64 a, .int .i64 b, .int .i64 d, .int .i64 r] 99)).alloc (.cells #[.int .i64 d] 3)).cell? ⟨w1.heap.size + 1, 0, none⟩ = some (.int .i64 d) := by
    have h := (Own.new (w1.alloc (.cells #[.int .i64 a, .int .i64 b, .int .i64 d, .int .i64 r] 99)) 3 #[.int .i64 d]).cell 0
    rw [World.size_alloc] at h; exact h
   have cR := shape_cells (w := w1) (a := .int .i64 a) (b := .int .i64 b) (d := .int .i64 d) (r := .int .i64 r) (o := .cells #[.int .i64 d] 3)
   have HRX := Lib.hid RX
   have HCD := Lib.hid cD
   have HBXY := Lib.hid bXY
   have hz := bXY.size
   have hs : w1.heap.size < ((w1.alloc (.cells #[.int .i64 a, .int .i64 b, .int .i64 d, .int .i64 r] 99)).alloc (.cells #[.int .i64 d] 3)).heap.size := by simp; omega
   clear hb1 bX bY bXY RX cD
   go_wp2_with (first | (at_builtin; refine append_full _ rfl _ _ rfl A zs L rfl HRX.out (w1.heap.size + 1) 1 d rfl HCD.out hl ?_; intro v2 w2 hr2 hb2) | (go_at_call 135; refine (HC.out _ _ _ hr2).mono ?_; rintro e w3 ⟨rfl, hb3⟩; have cR3 := ((hb2.trans (hb3.mono hb2.size)).cell (p := ⟨w1.heap.size, 3, none⟩) hs).trans cR))
   go_ret2
   exact ⟨rfl, HBXY.out.trans ((hb2.trans (hb3.mono hb2.size)).mono hz)⟩
def resI (z1 z2 z3 : Int) : Int × Int := if joinK 0 [z1, 3] = none then (0, 7) else resT 0 0 [z2, z3]
theorem rdI_three {w : World} {L g : Nat} {z1 z2 z3 : Int} (h : RdI w L w.heap.size (.slice (some ⟨g, 0, none⟩) 3 3) [z1, z2, z3]) : w.cell? ⟨g, 0, none⟩ = some (.int .i64 z1) ∧ RdI w L w.heap.size (.slice (some ⟨g, 1, none⟩) 2 2) [z2, z3] := by
 obtain ⟨A, c, hv, hl, hc⟩ := h
 injection hv with e1 e2 e3
 subst e1
 obtain ⟨a0, f0, g0, k0, c0⟩ := hc 0 z1 rfl
 obtain ⟨a1, f1, g1, k1, c1⟩ := hc 1 z2 rfl
 obtain ⟨a2, f2, g2, k2, c2⟩ := hc 2 z3 rfl
 injection f0 with f0
 injection f1 with f1
 injection f2 with f2
 subst f0 f1 f2
 rw [addZ13] at c0 c1 c2
 refine ⟨c0, ⟨_, _, rfl, by simp, fun k z hk => ⟨_, rfl, g0, k0, ?_⟩⟩⟩
 rcases k with _ | _ | k
 ·simp at hk; subst hk; simpa [Addr.add] using c1
 ·simp at hk; subst hk; simpa [Addr.add] using c2
 ·simp at hk
theorem pResI_any (g : Nat) (z1 z2 z3 : Int) (w : World) (L : Nat) (hv : RdI w L w.heap.size (.slice (some ⟨g, 0, none⟩) 3 3) [z1, z2, z3]) :
  Calls Tryz.prog 121 #[.int .i64 22, .slice (some ⟨g, 0, none⟩) 3 3] w fun e w' => e = .returned (resV (resI z1 z2 z3)) ∧ Below w.heap.size w w' := by
 have hS : ∀ W, Calls Tryz.prog 92 #[.int .i64 22] W fun e w' => e = .returned (.tuple #[.agg #[.int .i64 3, .int .i64 3, .int .i64 0, .int .i64 0], .bool true]) ∧ Below W.heap.size W w' := fun W => pShape_any 22 W
 have HS := Lib.hid hS
 obtain ⟨c0, h2⟩ := rdI_three hv
 have b0 := bel_mk w (.cells #[.int .i64 z1, .int .i64 3] 3)
 have R1 := rdI_two w z1 3
 have HB0 := Lib.hid b0
 have HR1 := Lib.hid R1
 have H2 := Lib.hid h2
 clear hS hv b0 R1 h2
 unfold resI
 cases hj : joinK 0 [z1, 3]
 ·have HC := Lib.hid (show ∀ (v : Value) (W : World) (L : Nat), RdI W L W.heap.size v [z1, 3] → Calls Tryz.prog 135 #[v] W fun e w' => e = .returned (.tuple #[.int .i64 0, .bool false]) ∧ Below W.heap.size W w' from fun v W L h => by have h2 := pCommon_any v _ W L h; rw [hj] at h2; exact h2)
  rw [if_pos rfl]
  unfold resV
  clear hj
  go_enter Tryz.func121, Tryz.ntmps121
  go_wp2_with (go_at_call 135; refine (HC.out _ _ _ HR1.out).mono ?_; rintro e w3 ⟨rfl, hb3⟩)
  go_ret2
  exact ⟨rfl, HB0.out.trans (hb3.mono HB0.out.size)⟩
 ·rename_i q
  have HC := Lib.hid (show ∀ (v : Value) (W : World) (L : Nat), RdI W L W.heap.size v [z1, 3] → Calls Tryz.prog 135 #[v] W fun e w' => e = .returned (.tuple #[.int .i64 q, .bool true]) ∧ Below W.heap.size W w' from fun v W L h => by have h2 := pCommon_any v _ W L h; rw [hj] at h2; exact h2)
  rw [if_neg (by simp)]
  clear hj
  have HD : Hid (∃ p : Int × Bool, (if p.2 then (p.1, 0) else (0, 7)) = resT 0 0 [z2, z3] ∧ ∀ (v : Value) (W : World) (L : Nat), RdI W L W.heap.size v ([z2, z3] ++ [0]) → Calls Tryz.prog 135 #[v] W fun e w' => e = .returned (.tuple #[.int .i64 p.1, .bool p.2]) ∧ Below W.heap.size W w') := Lib.hid (by
   unfold resT
   cases hk : joinK 0 ([z2, z3] ++ [0]) with
   | none => exact ⟨(0, false), rfl, fun v W L h => by have h2 := pCommon_any v _ W L h; rw [hk] at h2; exact h2⟩
   | some k => exact ⟨(k, true), rfl, fun v W L h => by have h2 := pCommon_any v _ W L h; rw [hk] at h2; exact h2⟩)
  obtain ⟨⟨p, b⟩, hp, hd⟩ := HD.out
  dsimp only at hp hd
  rw [← hp]
  have HD2 := Lib.hid hd
  clear hd hp HD
  unfold resV
  go_enter Tryz.func121, Tryz.ntmps121
  go_wp2_with fail
  with_reducible refine (HC.out _ _ _ HR1.out).mono ?_
  rintro e w3 ⟨rfl, hb3⟩
  have hz0 := HB0.out.size
  have hz3 := hb3.size
  have B3 := HB0.out.trans (hb3.mono hz0)
  have HB3 := Lib.hid B3
  clear hb3 B3
  go_wp2_with fail
  with_reducible refine (HS.out _).mono ?_
  rintro e w1 ⟨rfl, hb1⟩
  have bX := bel_mk w1 (.cells #[.int .i64 3, .int .i64 3, .int .i64 0, .int .i64 0] 99)
  have bY := bel_mk (w1.alloc (.cells #[.int .i64 3, .int .i64 3, .int .i64 0, .int .i64 0] 99)) (.cells #[.int .i64 0] 3)
  have bXY := HB3.out.trans ((hb1.trans ((bX.trans (bY.mono bX.size)).mono hb1.size)).mono HB3.out.size)
  have RX := H2.out.step bXY (Nat.le_refl _)
  have cD : ((w1.alloc (.cells #[.int .i64 3, .int .i64 3, .int .i64 0, .int .i64 0] 99)).alloc (.cells #[.int .i64 0] 3)).cell? ⟨w1.heap.size + 1, 0, none⟩ = some (.int .i64 0) := by
   have h := (Own.new (w1.alloc (.cells #[.int .i64 3, .int .i64 3, .int .i64 0, .int .i64 0] 99)) 3 #[.int .i64 0]).cell 0
   rw [World.size_alloc] at h; exact h
  have cR := shape_cells (w := w1) (a := .int .i64 3) (b := .int .i64 3) (d := .int .i64 0) (r := .int .i64 0) (o := .cells #[.int .i64 0] 3)
  have HRX := Lib.hid RX
  have HCD := Lib.hid cD
  have HBXY := Lib.hid bXY
  have hz := bXY.size
  have hs : w1.heap.size < ((w1.alloc (.cells #[.int .i64 3, .int .i64 3, .int .i64 0, .int .i64 0] 99)).alloc (.cells #[.int .i64 0] 3)).heap.size := by simp; omega
  clear hb1 bX bY bXY RX cD
  cases b
  all_goals
   go_wp2_with (first | (at_builtin; refine append_full _ rfl _ _ rfl (some ⟨g, 1, none⟩) [z2, z3] L rfl HRX.out (w1.heap.size + 1) 1 0 rfl HCD.out (by simp) ?_; intro v2 w2 hr2 hb2) | (go_at_call 135; refine (HD2.out _ _ _ hr2).mono ?_; rintro e w3 ⟨rfl, hb4⟩; have cR3 := ((hb2.trans (hb4.mono hb2.size)).cell (p := ⟨w1.heap.size, 3, none⟩) hs).trans cR))
   go_ret2
   exact ⟨rfl, HBXY.out.trans ((hb2.trans (hb4.mono hb2.size)).mono hz)⟩
theorem infoI : (Tryz.prog.info? 3).map (fun i => (i.zero, i.size, i.bytes)) = some (some (.int .i64 0), 1, 8) := by kernel_rfl
def intsV (zs : List Int) : List Value := zs.map fun z => .int .i64 z
theorem append_i {ops : Array Oper} {rest : List Oper} {o : Oper} {a : Act} {Q : Exit → Act → World → Prop} (W : World) (hgd : o.guard = none) (s x : Operand)
  (ho : o.op = .call { callee := .builtin .append, args := #[s, x], argTypes := #[28, 28] }) (base : Nat) (vb : Value) (zs : List Int) (hs : a.eval s = vb)
  (hown : W.ownsRow base 3 1 vb zs.length (intsV zs)) (h0 c : Nat) (z : Int) (hx : a.eval x = .slice (some ⟨h0, 0, none⟩) 1 c) (hcell : W.cell? ⟨h0, 0, none⟩ = some (.int .i64 z))
  (hl : zs.length ≤ 1099511627776) (hbase : base ≤ W.heap.size)
  (h : ∀ v' w', w'.ownsRow base 3 1 v' (zs ++ [z]).length (intsV (zs ++ [z])) → Below base W w' → wpList Tryz.prog ops Q rest (a.put o.dst v') w') :
  wpList Tryz.prog ops Q (o :: rest) a W := by
 obtain ⟨i0, hi, hz0, hz1, hz2⟩ := info_partsB infoI
 refine wpList_append_own W hgd s x 28 ho base 3 i0 (.int .i64 0) 1 8 Tryz.underlying28 hi hz0 hz1 hz2 rfl (by decide) vb zs.length (intsV zs) hs hown ⟨h0, 0, none⟩ 1 c [.int .i64 z] hx rfl
  ?_ ?_ (by unfold maxLen; omega) (by omega) hbase ?_
 ·intro j v hj
  have hj0 : j = 0 := by have := (List.getElem?_eq_some_iff.1 hj).1; simp at this; omega
  subst hj0
  have hv : Value.int .i64 z = v := by simpa using hj
  subst hv
  exact hcell
 ·intro v hv
  simp at hv
  subst hv
  rfl
 ·intro v' w' h1 h2 _
  exact h v' w' (by unfold intsV; rw [List.length_append, List.map_append]; exact h1) ((Below.refl _ _).grown h2 hbase fun k hk => (hown.lt k hk).1)
theorem rdI_own {w : World} {base : Nat} {v : Value} {zs : List Int} (h : w.ownsRow base 3 1 v zs.length (intsV zs)) (hl : zs.length ≤ 1099511627776) : RdI w 0 w.heap.size v zs := by
 have h2 := h
 obtain ⟨_, ⟨rfl, h0⟩ | ⟨g, c, cs, rfl, hbg, _⟩⟩ := h
 ·obtain rfl := List.eq_nil_of_length_eq_zero h0
  exact ⟨none, 0, rfl, by simp, by simp⟩
 ·refine ⟨some ⟨g, 0, none⟩, c, rfl, by omega, fun k z hk => ⟨⟨g, 0, none⟩, rfl, Nat.zero_le _, (h2.lt g rfl).2, World.ownsRow.cells h2 rfl k _ (by unfold intsV; rw [List.getElem?_map, hk]; rfl)⟩⟩
end Go.Proofs.YtdhemhmgenhmaaaGreat
