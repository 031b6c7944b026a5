/-
  Slices of ints that a call reads, wherever they lie, and the contract of setOf: the set of the members of a list. Conditions: the list's numbers are from 0 to 12.
-/
import Derived.Test.YtmmecpmeemhglaaDoorList
import Derived.Test.YtmmecpmeemhglaaDoorBlk
import Derived.WalkKit
import Derived.WalkSpells
import Derived.WalkLawsBesides
import Derived.Deep.QuietTactic
import Derived.BigQuiet
import Derived.Handy
import Derived.Lib.Hide
namespace Go.Proofs.YtmmecpmeemhglaaDoor
open Go.RowKit

theorem setInfo : (Tryd.prog.info? 53).map (·.size) = some 1 := by kernel_rfl
def okR (l : List Int) : Prop := ∀ r ∈ l, 0 ≤ r ∧ r < 13
/-- The set of the members of a list. -/
def setN (l : List Int) : Nat := l.foldl (fun s r => s ||| 2 ^ r.toNat) 0
theorem setN_snoc (l : List Int) (k : Nat) (r : Int) (h : l[k]? = some r) : setN (l.take (k + 1)) = setN (l.take k) ||| 2 ^ r.toNat := by
  obtain ⟨hk, rfl⟩ := List.getElem?_eq_some_iff.1 h
  unfold setN
  rw [List.take_succ_eq_append_getElem hk, List.foldl_append]
  rfl
theorem setN_lt (l : List Int) (h : okR l) : setN l < 8192 := by
  have : ∀ (l : List Int) (s : Nat), okR l → s < 8192 → l.foldl (fun s r => s ||| 2 ^ r.toNat) s < 8192 := by
    intro l
    induction l with
    | nil => intro s _ h; exact h
    | cons a l ih => intro s h1 h2; exact ih _ (fun r hr => h1 r (by simp [hr])) (or_lt h2 (pow_lt _ (by have := h1 a (by simp); omega)))
  exact this l 0 h (by omega)
theorem okR_take {l : List Int} (h : okR l) (k : Nat) : okR (l.take k) := fun r hr => h r (List.mem_of_mem_take hr)

set_option maxRecDepth 100000 in
set_option maxHeartbeats 1600000 in
theorem setOf_any (v : Value) (l : List Int) (w : World) (L : Nat) (hv : RdI w L w.heap.size v l) (hl : okR l) :
    Calls Tryd.prog 54 #[v] w fun e w' => e = .returned (.agg #[.int .u16 (setN l : Nat)]) ∧ Below w.heap.size w w' := by
  obtain ⟨A, c, rfl, hlen, hc⟩ := hv
  go_enter Tryd.func54, Tryd.ntmps54
  go_wp2
  have Z0 : Own ((w.alloc (.cells #[.int .u16 0] 53)).alloc (.cells #[.int .u16 0] 53)) w.heap.size 53 #[.int .u16 0] := (Own.new w _ _).alloc _
  have Z1 : Own ((w.alloc (.cells #[.int .u16 0] 53)).alloc (.cells #[.int .u16 0] 53)) (w.heap.size + 1) 53 #[.int .u16 (setN (l.take 0) : Nat)] := (by have := Own.new (w.alloc (.cells #[.int .u16 0] 53)) 53 #[.int .u16 0]; rw [World.size_alloc] at this; exact this)
  have ZB : Below w.heap.size w ((w.alloc (.cells #[.int .u16 0] 53)).alloc (.cells #[.int .u16 0] 53)) := (by (repeat' (first | (with_reducible exact Below.refl _ _) | (with_reducible assumption) | (with_reducible refine Below.alloc ?_ ?_ _) | (with_reducible refine Below.drew ?_) | (with_reducible refine Below.setCell ?_ ?_ _) | (with_reducible refine Below.trans ?_ (Below.mono (by assumption) ?_)) | go_size)))
  go_loopw [8] (fun i wr => ∃ k : Nat, k ≤ l.length ∧ i = .int .i64 k ∧ Own wr w.heap.size 53 #[.int .u16 0] ∧ Own wr (w.heap.size + 1) 53 #[.int .u16 (setN (l.take k) : Nat)] ∧ Below w.heap.size w wr) (fun i _ => l.length - (intOf i).toNat)
  case atStart => exact ⟨0, by omega, rfl, Z0, Z1, ZB⟩
  case round =>
    obtain ⟨k, hk, rfl, o0, o1, hbr⟩ := hrel
    by_cases hlt : k < l.length
    · obtain ⟨ad, rfl, _, hab, hcell⟩ := hc k _ (List.getElem?_eq_getElem hlt)
      have hr := hl _ (List.getElem_mem hlt)
      obtain ⟨m, hm⟩ := Int.eq_ofNat_of_zero_le hr.1
      have hm13 : m < 13 := by omega
      have HS := Lib.hid (setN_snoc l k _ (List.getElem?_eq_getElem hlt))
      rw [hm] at hcell HS
      have hcl := (hbr.cell (p := ad.add k) (by rw [add_block]; exact hab)).trans hcell
      have e1 := o1.cell 0
      have e2 := o1.free 0
      have hT := setN_lt _ (okR_take hl k)
      have L1 := o1.lt
      generalize hX : setN (l.take k) = X at *
      go_wp2_with (first | (go_at_call 50; refine (with_any _ _ _ hT hm13).mono ?_; rintro e w2 ⟨rfl, hb2⟩; have t1 := o1.below hb2 L1; have d1 := t1.cell 0; have d2 := t1.free 0))
      rw [Int.toNat_natCast] at HS
      have tt := t1.store 0 (.int .u16 (X ||| 2 ^ m : Nat))
      have bb : Below w.heap.size w (w2.setCell ⟨w.heap.size + 1, 0, none⟩ (.int .u16 (X ||| 2 ^ m : Nat))) := (hbr.trans (hb2.mono hbr.size)).setCell (by simp) _
      go_roundw
      case rel => exact ⟨k + 1, by omega, by go_num, (o0.below hb2 o0.lt).far (by simp) _, by rw [HS.out]; exact tt, bb⟩
      case measure => simp [intOf]; omega
    · have hkl : k = l.length := by omega
      subst hkl
      rw [List.take_length] at o1
      have e0 := o0.cell 0
      have f0 := o0.free 0
      have e1 := o1.cell 0
      go_wp2
      refine bodyPost_ret (v := .agg #[.int .u16 (setN l : Nat)]) (results_cell_row rfl _ _ w.heap.size 53 #[.int .u16 (setN l : Nat)] (0, 0) _ rfl (o0.store 0 _) Tryd.underlying53 rfl setInfo) rfl ⟨rfl, ?_⟩
      exact hbr.setCell (Nat.le_refl _) _
end Go.Proofs.YtmmecpmeemhglaaDoor
