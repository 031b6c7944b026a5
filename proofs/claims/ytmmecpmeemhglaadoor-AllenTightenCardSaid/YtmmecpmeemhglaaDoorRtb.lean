/-
  Contract of the reference's Table: which relations occur between three of the fifteen periods. Conditions: none.
-/
import Derived.Test.YtmmecpmeemhglaaDoorRsm
import Derived.Test.YtmmecpmeemhglaaDoorQui
import Derived.OwnWalk
import Derived.IntWalk
import Derived.WalkKit
import Derived.WalkSpells
import Derived.WalkLawsBesides
import Derived.Deep.QuietTactic
import Derived.BigQuiet
import Derived.Handy
import Derived.Lib.Hide
namespace Go.Proofs.YtmmecpmeemhglaaDoor
open Go.RowKit
theorem infoBool : (Tryd.prog.info? 4).map (fun i => (i.zero, i.size, i.bytes)) = some (some (.bool false), 1, 1) := by kernel_rfl
theorem own_of_full {w : World} {base : Nat} {e : TypeId} {g n : Nat} {xs : List Value} (h : w.ownsRow base e 1 (.slice (some ⟨g, 0, none⟩) n n) n xs) : Own w g e xs.toArray := by
  rcases h.2 with ⟨h1, _⟩ | ⟨g', cap, cur, hv, _, hh, _, _, hs, ht⟩
  · cases h1
  · injection hv with e1 e2 e3
    injection e1 with e1
    injection e1 with e1
    subst e1 e3
    have hl : cur.toList.take (n * 1) = cur.toList := List.take_of_length_le (by rw [Array.length_toList]; omega)
    rw [hl] at ht
    rw [← ht]
    exact hh
theorem made_bool (n : Nat) : (madeCells (Value.bool false).cells n).toList = (List.replicate n false).map Value.bool := by
  have e : (fun i : Nat => ((Value.bool false).cells[i % (Value.bool false).cells.size]!)) = fun _ => Value.bool false := by
    funext i
    show (#[Value.bool false] : Array Value)[i % 1]! = _
    rw [Nat.mod_one]; rfl
  unfold madeCells
  rw [e]
  simp only [Array.toList_map, Array.toList_range, List.map_const', List.length_range, List.map_replicate]

def pf (k : Nat) : Int := (rsL.getD k (0, 0)).1
def pt (k : Nat) : Int := (rsL.getD k (0, 0)).2
theorem rs_at (k : Nat) (h : k < 15) : rsL[k]? = some (pf k, pt k) := (by decide : ∀ k : Fin 15, rsL[k.val]? = some (pf k.val, pt k.val)) ⟨k, h⟩
def rN (p q : Nat) : Nat := (relR (pf p) (pt p) (pf q) (pt q)).toNat
theorem rN_all : ∀ p : Fin 15, ∀ q : Fin 15, relR (pf p.val) (pt p.val) (pf q.val) (pt q.val) = (rN p.val q.val : Int) ∧ rN p.val q.val < 13 := by decide
theorem rN_eq (p q : Nat) (hp : p < 15) (hq : q < 15) : relR (pf p) (pt p) (pf q) (pt q) = (rN p q : Int) := (rN_all ⟨p, hp⟩ ⟨q, hq⟩).1
theorem rN_lt (p q : Nat) (hp : p < 15) (hq : q < 15) : rN p q < 13 := (rN_all ⟨p, hp⟩ ⟨q, hq⟩).2
def ix (m : Nat) : Nat := 169 * rN (m / 225) (m / 15 % 15) + 13 * rN (m / 15 % 15) (m % 15) + rN (m / 225) (m % 15)
/-- The table when m triples are done. -/
def rtN (m : Nat) : List Bool := (List.range m).foldl (fun l k => l.set (ix k) true) (List.replicate 2197 false)
theorem rtN_succ (m : Nat) : rtN (m + 1) = (rtN m).set (ix m) true := by unfold rtN; rw [List.range_succ, List.foldl_append]; rfl
theorem rtN_len (m : Nat) : (rtN m).length = 2197 := by
  induction m with
  | zero => simp only [rtN, List.range_zero, List.foldl_nil, List.length_replicate]
  | succ m ih => rw [rtN_succ, List.length_set]; exact ih
def rtA (m : Nat) : Array Value := ((rtN m).map Value.bool).toArray
theorem rtA_zero : (madeCells (Value.bool false).cells (2197 * 1)).toList.toArray = rtA 0 := by rw [made_bool]; rfl
theorem rtA_size (m : Nat) : (rtA m).size = 2197 := by unfold rtA; simp [rtN_len]
def rtE (m i : Nat) : Bool := (rtN m).getD i false
theorem rtA_get (m i : Nat) (hi : i < 2197) : (rtA m)[i]? = some (.bool (rtE m i)) := by
  unfold rtA rtE
  rw [List.getElem?_toArray, List.getElem?_map, List.getD_eq_getElem?_getD, List.getElem?_eq_getElem (by rw [rtN_len]; exact hi)]
  rfl
theorem rtA_set (p q r : Nat) (hq : q < 15) (hr : r < 15) :
    (rtA ((p * 15 + q) * 15 + r)).setIfInBounds (169 * rN p q + 13 * rN q r + rN p r) (.bool true) = rtA ((p * 15 + q) * 15 + r + 1) := by
  unfold rtA
  rw [List.setIfInBounds_toArray, ← List.map_set, rtN_succ]
  unfold ix
  rw [show ((p * 15 + q) * 15 + r) / 225 = p by omega, show ((p * 15 + q) * 15 + r) / 15 % 15 = q by omega, show ((p * 15 + q) * 15 + r) % 15 = r by omega]
theorem rtE_bit (m : Nat) (x : Nat) (hx : x < 2197) : rtE m x = true ↔ ∃ k, k < m ∧ x = ix k := by
  induction m with
  | zero =>
    have : rtE 0 x = false := by
      unfold rtE rtN
      simp only [List.range_zero, List.foldl_nil]
      rw [List.getD_eq_getElem?_getD, List.getElem?_replicate]
      split <;> rfl
    rw [this]
    simp
  | succ m ih =>
    have e : rtE (m + 1) x = if x = ix m then true else rtE m x := by
      unfold rtE
      rw [rtN_succ, List.getD_eq_getElem?_getD, List.getElem?_set]
      by_cases h : ix m = x
      · rw [if_pos h, if_pos (by rw [rtN_len]; omega), if_pos h.symm]; rfl
      · rw [if_neg h, if_neg (fun h2 => h h2.symm), ← List.getD_eq_getElem?_getD]
    rw [e]
    constructor
    · intro h
      split at h
      · rename_i hx2; exact ⟨m, by omega, hx2⟩
      · obtain ⟨k, hk, h1⟩ := ih.1 h; exact ⟨k, by omega, h1⟩
    · rintro ⟨k, hk, h1⟩
      by_cases hkm : k = m
      · subst hkm; rw [if_pos h1]
      · split
        · rfl
        · exact ih.2 ⟨k, by omega, h1⟩
attribute [local irreducible] rtA rN ix
theorem rs_cells {w1 W : World} {L g : Nat} {ad : Addr} {c : Nat} (H : RdP w1 L g (.slice (some ad) 15 c) rsL) (hb : Below g w1 W) (hg : g ≤ W.heap.size) {k : Nat} (hk : k < 15) :
    (∀ p : After W, p.w.cell? (ad.add (k * 2)) = some (.int .i64 (pf k))) ∧ (∀ p : After W, p.w.cell? ⟨(ad.add (k * 2)).block, (ad.add (k * 2)).off + 1, none⟩ = some (.int .i64 (pt k))) := by
  obtain ⟨_, e1, _, hab, c0, c1⟩ := (H.below hb).at (rs_at k hk)
  injection e1 with e1
  subst e1
  exact ⟨after_cell (by rw [add_block]; omega) c0, after_cell (by show (ad.add (k * 2)).block < _; rw [add_block]; omega) c1⟩
theorem rrel_as (p q : Nat) (hp : p < 15) (hq : q < 15) (w : World) :
    Calls Tryd.prog 46 #[.agg #[.int .i64 (pf p), .int .i64 (pt p)], .agg #[.int .i64 (pf q), .int .i64 (pt q)]] w fun e w' => e = .returned (.tuple #[.int .i64 (rN p q), .bool (bothV (pf p) (pt p) (pf q) (pt q))]) ∧ Below w.heap.size w w' := by
  rw [← rN_eq p q hp hq]
  exact rrel_any _ _ _ _ w

set_option maxRecDepth 100000 in
set_option maxHeartbeats 3200000 in
theorem rtable_any (w : World) :
    Calls Tryd.prog 36 #[] w fun e w' => ∃ g, e = .returned (.slice (some ⟨g, 0, none⟩) 2197 2197) ∧ w.heap.size ≤ g ∧ Own w' g 4 (rtA 3375) ∧ Below w.heap.size w w' := by
  go_enter Tryd.func36, Tryd.ntmps36
  go_wp2_with fail
  refine (rsmall_any _).mono ?_
  rintro e w1 ⟨v1, rfl, hr1, hb1⟩
  obtain ⟨ad, c, rfl⟩ : ∃ ad c, v1 = .slice (some ad) rsL.length c := by
    have h2 := hr1
    obtain ⟨A, c, rfl, _, h3⟩ := hr1
    obtain ⟨ad, rfl, _⟩ := h3 0 _ (rs_at 0 (by omega))
    exact ⟨ad, c, rfl⟩
  have H1 := Lib.hid hr1
  clear hr1
  have z1 := hb1.size
  obtain ⟨ib, hib, hbz0, hbz1, hbz2⟩ := info_parts infoBool
  go_wp2_with (at_make; refine wpList_make_full _ rfl _ _ 59 rfl w.heap.size 4 ib (.bool false) 1 Tryd.underlying59 hib hbz0 hbz1 _ _ 2197 2197 2197 rfl rfl rfl rfl (by rw [hbz2]; decide) (by unfold maxLen; omega) z1 ?_; intro w2 hown hg2)
  have o2 := own_of_full hown
  rw [rtA_zero] at o2
  have O2 := Lib.hid o2
  have b2 : Below w1.heap.size w1 w2 := (Below.refl _ _).grown hg2 (Nat.le_refl _) (by simp)
  clear hown hg2 o2 hib hbz0 hbz1 hbz2
  rw [show rsL.length = 15 from rfl] at *
  have hg1 : Hid (w1.heap.size = w1.heap.size) := Lib.hid rfl
  generalize h9 : w1.heap.size = g1 at *
  have L2 := O2.out.lt
  clear hg1
  go_loopw [3] (fun i wr => ∃ p : Nat, p ≤ 15 ∧ i = .int .i64 p ∧ Hid (Own wr g1 4 (rtA (p * 15 * 15))) ∧ Below g1 w1 wr) (fun i _ => 15 - (intOf i).toNat)
  case atStart => exact ⟨0, by omega, rfl, O2, b2⟩
  case round =>
    clear O2 b2 L2
    obtain ⟨p, hp, rfl, O2, b2⟩ := hrel
    by_cases hpt : p < 15
    · have hdp : decide ((p : Int) < 15) = true := by simp; omega
      go_wp2
      go_loopw [4] (fun i wr => ∃ q : Nat, q ≤ 15 ∧ i = .int .i64 q ∧ Hid (Own wr g1 4 (rtA ((p * 15 + q) * 15))) ∧ Below g1 w1 wr) (fun i _ => 15 - (intOf i).toNat)
      case atStart => exact ⟨0, by omega, rfl, O2, b2⟩
      case round =>
        clear O2 b2
        obtain ⟨q, hq, rfl, O2, b2⟩ := hrel
        by_cases hqt : q < 15
        · have hdq : decide ((q : Int) < 15) = true := by simp; omega
          have L2 := O2.out.lt
          have Z2 := b2.size
          obtain ⟨f0, f1⟩ := rs_cells H1.out b2 (by omega) hpt
          obtain ⟨g0, g2⟩ := rs_cells H1.out b2 (by omega) hqt
          go_wp2
          (refine wp_region_after (by kernel_rfl) (by kernel_rfl) ?_; (repeat (go_big_quiet_step ((go_at_call 46; exact calls_after (rrel_as p q hpt hqt _))))); refine wpQuiet_nil ?_; intro wq hw0; obtain ⟨⟨wq0, hbq⟩, hw1⟩ := hw0; subst hw1; (try dsimp only))
          have O3 := Lib.hid (O2.out.below hbq L2)
          have b3 := b2.trans (hbq.mono (by omega))
          clear f0 f1 g0 g2 O2 b2 L2 Z2 hbq
          have lpq := rN_lt p q hpt hqt
          have HX := Lib.hid (fun r hr => rtA_set p q r hqt hr)
          generalize rN p q = x at *
          go_wp2
          go_loopw [7] (fun i wr => ∃ r : Nat, r ≤ 15 ∧ i = .int .i64 r ∧ Hid (Own wr g1 4 (rtA ((p * 15 + q) * 15 + r))) ∧ Below g1 w1 wr) (fun i _ => 15 - (intOf i).toNat)
          case atStart => exact ⟨0, by omega, rfl, O3, b3⟩
          case round =>
            clear O3 b3
            obtain ⟨r, hr, rfl, O2, b2⟩ := hrel
            by_cases hrt : r < 15
            · have L2 := O2.out.lt
              have Z2 := b2.size
              obtain ⟨f0, f1⟩ := rs_cells H1.out b2 (by omega) hqt
              obtain ⟨g0, g2⟩ := rs_cells H1.out b2 (by omega) hrt
              go_wp2
              (refine wp_region_after (by kernel_rfl) (by kernel_rfl) ?_; (repeat (go_big_quiet_step ((go_at_call 46; exact calls_after (rrel_as q r hqt hrt _))))); refine wpQuiet_nil ?_; intro wq hw0; obtain ⟨⟨wq0, hbq⟩, hw1⟩ := hw0; subst hw1; (try dsimp only))
              have O3 := Lib.hid (O2.out.below hbq L2)
              have b3 := b2.trans (hbq.mono (by omega))
              clear f0 f1 g0 g2 O2 b2 L2 Z2 hbq
              have L3 := O3.out.lt
              have Z3 := b3.size
              obtain ⟨f0, f1⟩ := rs_cells H1.out b3 (by omega) hpt
              obtain ⟨g0, g2⟩ := rs_cells H1.out b3 (by omega) hrt
              go_wp2
              (refine wp_region_after (by kernel_rfl) (by kernel_rfl) ?_; (repeat (go_big_quiet_step ((go_at_call 46; exact calls_after (rrel_as p r hpt hrt _))))); refine wpQuiet_nil ?_; intro wq hw0; obtain ⟨⟨wq0, hbq⟩, hw1⟩ := hw0; subst hw1; (try dsimp only))
              have O4 := O3.out.below hbq L3
              have b4 := b3.trans (hbq.mono (by omega))
              clear f0 f1 g0 g2 O3 b3 L3 Z3 hbq
              have L4 := O4.lt
              have lqr := rN_lt q r hqt hrt
              have lpr := rN_lt p r hpt hrt
              have HS := Lib.hid (HX.out r hrt)
              have e1 := (O4.cell (169 * x + 13 * rN q r + rN p r)).trans (rtA_get ((p * 15 + q) * 15 + r) _ (by omega))
              have e2 := O4.free (169 * x + 13 * rN q r + rN p r)
              have kk := Lib.hid (O4.store (169 * x + 13 * rN q r + rN p r) (.bool true))
              rw [HS.out] at kk
              clear O4
              generalize rN q r = y at *
              generalize rN p r = z at *
              have i1 : IntKind.i64.wrap (169 * (x : Int)) = 169 * x := IntWalk.i64_in _ (by omega)
              have i2 : IntKind.i64.wrap (13 * (y : Int)) = 13 * y := IntWalk.i64_in _ (by omega)
              have i3 : IntKind.i64.wrap (169 * (x : Int) + 13 * y) = 169 * x + 13 * y := IntWalk.i64_in _ (by omega)
              have i4 : IntKind.i64.wrap (169 * (x : Int) + 13 * y + z) = 169 * x + 13 * y + z := IntWalk.i64_in _ (by omega)
              have i5 : (169 * (x : Int) + 13 * y + z).toNat = 169 * x + 13 * y + z := by omega
              have i6 : (0 : Int) ≤ 169 * (x : Int) + 13 * y + z := by omega
              have i7 : 169 * (x : Int) + 13 * y + z < 2197 := by omega
              have i8 : (⟨g1, 0, none⟩ : Addr).add (169 * x + 13 * y + z) = ⟨g1, 169 * x + 13 * y + z, none⟩ := plain_add _ _
              go_wp2
              go_roundw
              case rel => exact ⟨r + 1, by omega, by go_num, kk, b4.setCell (Nat.le_refl _) _⟩
              case measure => simp [intOf]; omega
            · have hr15 : r = 15 := by omega
              subst hr15
              rw [show (p * 15 + q) * 15 + 15 = (p * 15 + (q + 1)) * 15 by omega] at O2
              go_wp2
              go_roundw
              case rel => exact ⟨q + 1, by omega, by go_num, O2, b2⟩
              case measure => simp [intOf]; omega
        · have hq15 : q = 15 := by omega
          subst hq15
          rw [show (p * 15 + 15) * 15 = (p + 1) * 15 * 15 by omega] at O2
          go_wp2
          go_roundw
          case rel => exact ⟨p + 1, by omega, by go_num, O2, b2⟩
          case measure => simp [intOf]; omega
    · have hp15 : p = 15 := by omega
      subst hp15
      go_wp2
      go_ret
      exact ⟨g1, rfl, z1, O2.out, hb1.trans (b2.mono z1)⟩
end Go.Proofs.YtmmecpmeemhglaaDoor
