/-
  Contracts of the statements' own row. Conditions: none.
-/
import Derived.Test.YtpbccbhhjnlcpaaInsS
import Derived.Test.YtpbccbhhjnlcpaaBlk
import Derived.IntWalk
import Derived.Deep.RegionHeld3
import Derived.WalkKit
import Derived.WalkSpells
import Derived.WalkLawsBesides
import Derived.Deep.QuietTactic
import Derived.BigQuiet
import Derived.Handy
import Derived.Lib.Hide
namespace Go.Proofs.Ytpbccbhhjnlcpaa
open Go.RowKit

def fl (m : List (Int × Int)) : List Int := m.flatMap fun p => [p.1, p.2]
theorem fl_len : ∀ m : List (Int × Int), (fl m).length = 2 * m.length
  | [] => rfl
  | p :: m => by have := fl_len m; simp only [fl, List.flatMap_cons, List.length_append, List.length_cons, List.length_nil] at this ⊢; omega
theorem fl_get : ∀ {m : List (Int × Int)} {k : Nat} {x y : Int}, m[k]? = some (x, y) → (fl m)[2 * k]? = some x ∧ (fl m)[2 * k + 1]? = some y
  | [], k, _, _, h => by simp at h
  | q :: m, 0, _, _, h => by simp at h; subst h; simp [fl]
  | q :: m, k + 1, x, y, h => by
    have := fl_get (m := m) (k := k) (x := x) (y := y) (by simpa using h)
    rw [show 2 * (k + 1) = 2 * k + 1 + 1 by omega]
    simpa [fl] using this
theorem take_snoc_P {l : List (Int × Int)} {k : Nat} {x : Int × Int} (hx : l[k]? = some x) : l.take (k + 1) = l.take k ++ [x] := by
  obtain ⟨hj, rfl⟩ := List.getElem?_eq_some_iff.1 hx
  exact List.take_succ_eq_append_getElem hj
theorem rdI_new (w : World) (t : TypeId) (l : List Int) (hl : l.length ≤ 9223372036854775807) : RdI (w.alloc (.cells (intsV l).toArray t)) 0 (w.alloc (.cells (intsV l).toArray t)).heap.size (.slice (some ⟨w.heap.size, 0, none⟩) l.length l.length) l := by
  refine ⟨_, l.length, rfl, hl, fun k x hk => ⟨_, rfl, Nat.zero_le _, by simp, ?_⟩⟩
  rw [plain_add, (Own.new w t (intsV l).toArray).cell k]
  unfold intsV
  rw [List.getElem?_toArray, List.getElem?_map, hk]; rfl

set_option maxRecDepth 100000 in
set_option maxHeartbeats 1600000 in
theorem row_any (v : Value) (m : List (Int × Int)) (w : World) (L : Nat) (hv : RdI w L w.heap.size v (fl m)) (hlen : m.length ≤ 1000) :
    Calls Try.prog 40 #[v] w (RetPers w m) := by
  have hv0 := hv
  obtain ⟨A, c, rfl, hl63, _⟩ := hv
  have hfl := fl_len m
  have HFL := Lib.hid hfl
  clear hfl
  go_enter Try.func40, Try.ntmps40
  go_wp2
  go_loopw [3, 4] (fun o i wr => ∃ k j : Nat, Hid (j = 2 * k ∧ k ≤ m.length) ∧ i = .int .i64 j ∧ wr.ownsRow w.heap.size 39 2 o (m.take k).length (flatP (m.take k)) ∧ Below w.heap.size w wr) (fun _ i _ => (fl m).length + 1 - (intOf i).toNat)
  case atStart => exact ⟨0, 0, Lib.hid ⟨rfl, by omega⟩, rfl, own_nilP _ _, Below.refl _ _⟩
  case round =>
    obtain ⟨k, j, hjk, rfl, hown, hbr⟩ := hrel
    have hbz := hbr.size
    have HO := Lib.hid hown
    clear hown
    have hlk : (m.take k).length ≤ 1000 := by rw [List.length_take]; omega
    by_cases hlt : j + 1 < (fl m).length
    · have hkm : k < m.length := by have := HFL.out; have := hjk.out; omega
      have hx := List.getElem?_eq_getElem hkm
      generalize m[k] = p at hx
      obtain ⟨x, y⟩ := p
      obtain ⟨gx, gy⟩ := fl_get hx
      rw [← hjk.out.1] at gx gy
      have hS := Lib.hid (take_snoc_P hx)
      obtain ⟨ad, rfl, _, hab, c0⟩ := (hv0.below hbr).at gx
      obtain ⟨_, e1, _, _, c1⟩ := (hv0.below hbr).at gy
      injection e1 with e1
      subst e1
      have hpos : ad.add (j + 1) = ⟨ad.block, ad.off + (j + 1), none⟩ := by unfold Addr.add; rw [if_neg (by omega)]
      rw [hpos] at c1
      clear hpos
      have hJ3 : (fl m).length ≤ 2000 := by have := HFL.out; omega
      have i7 : IntKind.i64.wrap (j : Int) = j := IntWalk.i64_in _ (by omega)
      have i8 : IntKind.i64.wrap ((j : Int) + 1) = (j : Int) + 1 := IntWalk.i64_in _ (by omega)
      have i2 : (0 : Int) ≤ (j : Int) := by omega
      have i3 : (j : Int) < ((fl m).length : Int) := by omega
      have i4 : (0 : Int) ≤ (j : Int) + 1 := by omega
      have i5 : (j : Int) + 1 < ((fl m).length : Int) := by omega
      have i6 : ((j : Int) + 1).toNat = j + 1 := by omega
      have hnj : Hid (j + 1 + 1 = 2 * (k + 1) ∧ k + 1 ≤ m.length) := Lib.hid (by have := hjk.out; omega)
      clear gx gy hx hjk
      go_wp2
      have HS : Hid (∀ w' : World, Below w.heap.size wr w' → w'.cell? (ad.add j) = some (.int .i64 x) ∧ w'.cell? ⟨ad.block, ad.off + (j + 1), none⟩ = some (.int .i64 y)) := Lib.hid fun w' hb => ⟨(hb.cell (p := ad.add j) (by rw [add_block]; exact hab)).trans c0, (hb.cell (p := ⟨ad.block, ad.off + (j + 1), none⟩) hab).trans c1⟩
      clear c0 c1
      go_region_held3 (fun w' => w'.cell? (ad.add j) = some (.int .i64 x) ∧ w'.cell? ⟨ad.block, ad.off + (j + 1), none⟩ = some (.int .i64 y))
        (first | exact HS.out _ (by (repeat' (first | (with_reducible exact Below.refl _ _) | (with_reducible assumption) | (with_reducible refine Below.alloc ?_ ?_ _) | (with_reducible refine Below.drew ?_) | (with_reducible refine Below.setCell ?_ ?_ _) | (with_reducible refine Below.trans ?_ (Below.mono (by assumption) ?_)) | go_size))))
        ((refine step_append_per _ (by rfl) _ _ (by rfl) w.heap.size _ (m.take k) (by rfl) (World.ownsRow.alloc (World.ownsRow.drew HO.out) _) ⟨wr.heap.size, 0, none⟩ x y (by rfl) (cell_two_new _ _ _ _) ?_ ?_ ?_; (focus omega); (focus go_size); intro v3 w3 hown3 hb3))
      have hb4 : Below w.heap.size wr w3 := (by (repeat' (first | (with_reducible exact Below.refl _ _) | (with_reducible assumption) | (with_reducible refine Below.alloc ?_ ?_ _) | (with_reducible refine Below.drew ?_) | (with_reducible refine Below.setCell ?_ ?_ _) | (with_reducible refine Below.trans ?_ (Below.mono (by assumption) ?_)) | go_size)))
      go_wp2
      go_roundw
      case rel => exact ⟨k + 1, j + 1 + 1, hnj, by go_num, by rw [hS.out]; exact hown3, hbr.trans hb4⟩
      case measure => simp [intOf]; omega
    · have hT : m.take k = m := List.take_of_length_le (by have := HFL.out; have := hjk.out; omega)
      rw [hT] at HO
      have hd : ¬ (j : Int) + 1 < ((fl m).length : Int) := by omega
      have hJ3 : (fl m).length ≤ 2000 := by have := HFL.out; omega
      have hJ4 : j ≤ 2000 := by have := HFL.out; have := hjk.out; omega
      have i8 : IntKind.i64.wrap ((j : Int) + 1) = (j : Int) + 1 := IntWalk.i64_in _ (by omega)
      clear hjk
      go_wp2
      go_ret
      exact ⟨_, rfl, RdP.of_own HO.out (by omega), hbr⟩
end Go.Proofs.Ytpbccbhhjnlcpaa
