import Derived.Lib.ItoaNum
import Derived.Lib.IndexMore
import Derived.Lib.CountLaws
import Derived.Lib.Replace
import Derived.Lib.Strings
import Derived.Lib.DecodeN
import Derived.Shelf.GgClosure.StringsIndexFunc
import Derived.Test.YtdhemhmgenhmaaaGreatMA
import Derived.Test.YtdhemhmgenhmaaaGreatProg
import Derived.WalkKit
import Derived.WalkSpells
import Derived.WalkLawsBesides
import Derived.Deep.QuietTactic
import Derived.BigQuiet
import Derived.Handy
import Derived.Lib.Hide
import Derived.Test.YtdhemhmgenhmaaaGreatMB
set_option maxRecDepth 100000
set_option maxHeartbeats 25600000
set_option linter.unusedVariables false
set_option linter.unusedSimpArgs false
/-
  Pure mathematics of values: printable texts, quoting and its way back, replacing all. Conditions: none.
-/
namespace Go.Proofs.YtdhemhmgenhmaaaGreat.Va
def prnL (l : List UInt8) : Bool := l.all fun b => decide (32 ≤ b.toNat) && decide (b.toNat ≤ 126)
def badR (x : Nat) : Bool := decide (x < 32) || decide (126 < x)
theorem badR_decode (n b0 b1 b2 b3 : Nat) (h : ¬ (32 ≤ b0 ∧ b0 ≤ 126)) : badR (Lib.decodeN n b0 b1 b2 b3).1 = true := by
 unfold badR
 simp only [Bool.or_eq_true, decide_eq_true_eq]
 unfold Lib.decodeN
 repeat' split
 all_goals (dsimp only; omega)
theorem goodR_decode (n b0 b1 b2 b3 : Nat) (h : 32 ≤ b0 ∧ b0 ≤ 126) : Lib.decodeN n b0 b1 b2 b3 = (b0, 1) ∧ badR b0 = false := by
 unfold badR Lib.decodeN
 rw [if_pos (by omega)]
 refine ⟨rfl, ?_⟩
 rw [decide_eq_false (by omega), decide_eq_false (by omega)]; rfl
theorem get_list (s : ByteArray) (i : Nat) (h : i < s.size) : s.get! i = s[i] := by
 show s.data[i]! = s.data[i]
 exact getElem!_pos s.data i h
theorem idx_prn_from (s : ByteArray) : ∀ (f pos : Nat), s.size ≤ pos + f → (decide (0 ≤ Lib.idxFuncFrom badR true s f pos) = !prnL (s.data.toList.drop pos))
 | 0, pos, h => by
  rw [List.drop_eq_nil_of_le (by rw [← Lib.size_eq]; omega)]
  rfl
 | f + 1, pos, h => by
  unfold Lib.idxFuncFrom
  by_cases hp : pos < s.size
  ·rw [if_pos hp]
   have hd : s.data.toList.drop pos = s[pos] :: s.data.toList.drop (pos + 1) := List.drop_eq_getElem_cons (by rw [← Lib.size_eq]; exact hp)
   have hg : (s.get! pos).toNat = s[pos].toNat := by rw [get_list s pos hp]
   rw [Lib.decode_at, hg, hd]
   by_cases hb : 32 ≤ s[pos].toNat ∧ s[pos].toNat ≤ 126
   ·obtain ⟨e, e2⟩ := goodR_decode (s.size - pos) s[pos].toNat (s.get! (pos + 1)).toNat (s.get! (pos + 2)).toNat (s.get! (pos + 3)).toNat hb
    rw [e]
    dsimp only
    rw [e2, if_neg (by simp), idx_prn_from s f (pos + 1) (by omega)]
    unfold prnL
    rw [List.all_cons, decide_eq_true hb.1, decide_eq_true hb.2]
    rfl
   ·rw [badR_decode _ _ _ _ _ hb, if_pos rfl, decide_eq_true (by omega)]
    unfold prnL
    rw [List.all_cons]
    have : (decide (32 ≤ s[pos].toNat) && decide (s[pos].toNat ≤ 126)) = false := by
     rw [Bool.eq_false_iff]; intro e; simp only [Bool.and_eq_true, decide_eq_true_eq] at e; exact hb e
    rw [this]; rfl
  ·rw [if_neg hp, List.drop_eq_nil_of_le (by rw [← Lib.size_eq]; omega)]
   rfl
theorem idx_prn (s : ByteArray) : decide (0 ≤ Lib.idxFunc badR true s) = !prnL s.data.toList := idx_prn_from s s.size 0 (by omega)
end Go.Proofs.YtdhemhmgenhmaaaGreat.Va
namespace Go.Proofs.YtdhemhmgenhmaaaGreat.Va
open Go.RowKit
def vnot (a : Int) : Int := if a = 0 then 2 else if a = 2 then 0 else 1
def vand (a b : Int) : Int := if a = 0 ∨ b = 0 then 0 else if a = 2 ∧ b = 2 then 2 else 1
def vor (a b : Int) : Int := if a = 2 ∨ b = 2 then 2 else if a = 0 ∧ b = 0 then 0 else 1
theorem pNot_any (a : Int) (w : World) : Calls Tryz.prog 64 #[.int .i64 a] w fun e w' => e = .returned (.int .i64 (vnot a)) ∧ Below w.heap.size w w' := by
 unfold vnot
 by_cases h0 : a = 0
 ·subst h0
  rw [if_pos rfl]
  go_enter Tryz.func64, Tryz.ntmps64
  go_wp2
  go_ret
  exact ⟨rfl, Below.refl _ _⟩
 ·rw [if_neg h0]
  by_cases h2 : a = 2
  ·subst h2
   rw [if_pos rfl]
   go_enter Tryz.func64, Tryz.ntmps64
   go_wp2
   go_ret
   exact ⟨rfl, Below.refl _ _⟩
  ·rw [if_neg h2]
   have k0 : (a == 0) = false := by simpa using h0
   have k2 : (a == 2) = false := by simpa using h2
   go_enter Tryz.func64, Tryz.ntmps64
   go_wp2
   go_ret
   exact ⟨rfl, Below.refl _ _⟩
theorem rNot_any (a : Int) (w : World) : Calls Tryz.prog 23 #[.int .i64 a] w fun e w' => e = .returned (.int .i64 (vnot a)) ∧ Below w.heap.size w w' := by
 unfold vnot
 by_cases h0 : a = 0
 ·subst h0
  rw [if_pos rfl]
  go_enter Tryz.func23, Tryz.ntmps23
  go_wp2
  go_ret
  exact ⟨rfl, Below.refl _ _⟩
 ·rw [if_neg h0]
  by_cases h2 : a = 2
  ·subst h2
   rw [if_pos rfl]
   go_enter Tryz.func23, Tryz.ntmps23
   go_wp2
   go_ret
   exact ⟨rfl, Below.refl _ _⟩
  ·rw [if_neg h2]
   have k0 : (a == 0) = false := by simpa using h0
   have k2 : (a == 2) = false := by simpa using h2
   go_enter Tryz.func23, Tryz.ntmps23
   go_wp2
   go_ret
   exact ⟨rfl, Below.refl _ _⟩
theorem rAnd_any (a b : Int) (w : World) : Calls Tryz.prog 68 #[.int .i64 a, .int .i64 b] w fun e w' => e = .returned (.int .i64 (vand a b)) ∧ Below w.heap.size w w' := by
 unfold vand
 have ka : a = 0 ∨ a = 2 ∨ (a ≠ 0 ∧ a ≠ 2) := by omega
 have kb : b = 0 ∨ b = 2 ∨ (b ≠ 0 ∧ b ≠ 2) := by omega
 have fa0 : a ≠ 0 → (a == 0) = false := fun h => by simpa using h
 have fa2 : a ≠ 2 → (a == 2) = false := fun h => by simpa using h
 have fb0 : b ≠ 0 → (b == 0) = false := fun h => by simpa using h
 have fb2 : b ≠ 2 → (b == 2) = false := fun h => by simpa using h
 rcases ka with rfl | rfl | ⟨a0, a2⟩ <;> rcases kb with rfl | rfl | ⟨b0, b2⟩
 all_goals
  (try have xa0 := fa0 a0)
  (try have xa2 := fa2 a2)
  (try have xb0 := fb0 b0)
  (try have xb2 := fb2 b2)
  clear fa0 fa2 fb0 fb2
  first | rw [if_pos (by omega)] | (rw [if_neg (by omega)]; first | rw [if_pos (by omega)] | rw [if_neg (by omega)])
  go_enter Tryz.func68, Tryz.ntmps68
  go_wp2
  go_ret
  exact ⟨rfl, Below.refl _ _⟩
theorem rOr_any (a b : Int) (w : World) : Calls Tryz.prog 69 #[.int .i64 a, .int .i64 b] w fun e w' => e = .returned (.int .i64 (vor a b)) ∧ Below w.heap.size w w' := by
 unfold vor
 have ka : a = 0 ∨ a = 2 ∨ (a ≠ 0 ∧ a ≠ 2) := by omega
 have kb : b = 0 ∨ b = 2 ∨ (b ≠ 0 ∧ b ≠ 2) := by omega
 have fa0 : a ≠ 0 → (a == 0) = false := fun h => by simpa using h
 have fa2 : a ≠ 2 → (a == 2) = false := fun h => by simpa using h
 have fb0 : b ≠ 0 → (b == 0) = false := fun h => by simpa using h
 have fb2 : b ≠ 2 → (b == 2) = false := fun h => by simpa using h
 rcases ka with rfl | rfl | ⟨a0, a2⟩ <;> rcases kb with rfl | rfl | ⟨b0, b2⟩
 all_goals
  (try have xa0 := fa0 a0)
  (try have xa2 := fa2 a2)
  (try have xb0 := fb0 b0)
  (try have xb2 := fb2 b2)
  clear fa0 fa2 fb0 fb2
  first | rw [if_pos (by omega)] | (rw [if_neg (by omega)]; first | rw [if_pos (by omega)] | rw [if_neg (by omega)])
  go_enter Tryz.func69, Tryz.ntmps69
  go_wp2
  go_ret
  exact ⟨rfl, Below.refl _ _⟩
def cmbT (d a b : Int) : Int := if a = d ∨ b = d then d else if a = vnot d ∧ b = vnot d then vnot d else 1
theorem combined_two (d a b : Int) (g c : Nat) (w : World) (hg : g < w.heap.size) (h0 : w.cell? ⟨g, 0, none⟩ = some (.int .i64 a)) (h1 : w.cell? ⟨g, 1, none⟩ = some (.int .i64 b)) :
  Calls Tryz.prog 123 #[.int .i64 d, .slice (some ⟨g, 0, none⟩) 2 c] w fun e w' => e = .returned (.int .i64 (cmbT d a b)) ∧ Below w.heap.size w w' := by
 generalize hR : cmbT d a b = R
 have HR := Lib.hid hR
 have HN := Lib.hid (fun w' => pNot_any d w')
 generalize hnd : vnot d = nd at *
 have HD : Hid (cmbT d a b = if a = d ∨ b = d then d else if a = nd ∧ b = nd then nd else 1) := Lib.hid (by rw [← hnd]; rfl)
 clear hR hnd
 go_enter Tryz.func123, Tryz.ntmps123
 go_wp2_with fail
 refine (HN.out w).mono ?_
 rintro e w1 ⟨rfl, hb1⟩
 go_wp2
 go_loopw [5, 12] (fun r i wr => ∃ k : Nat, k ≤ 2 ∧ i = .int .i64 k ∧ Hid ((k = 0 → r = .int .i64 nd) ∧ (k = 1 → a ≠ d ∧ r = .int .i64 (if a = nd then nd else 1)) ∧ (k = 2 → r = .int .i64 R)) ∧ Below w.heap.size w wr) (fun _ i _ => 2 - (intOf i).toNat)
 case atStart => exact ⟨0, by omega, rfl, Lib.hid ⟨fun _ => rfl, fun h => by omega, fun h => by omega⟩, hb1⟩
 case round =>
  obtain ⟨k, hk, rfl, hr, hbr⟩ := hrel
  have hbz := hbr.size
  have d0 := (hbr.cell (p := ⟨g, 0, none⟩) hg).trans h0
  have d1 := (hbr.cell (p := ⟨g, 1, none⟩) hg).trans h1
  have hk3 : k = 0 ∨ k = 1 ∨ k = 2 := by omega
  rcases hk3 with rfl | rfl | rfl
  ·have e := hr.out.1 rfl
   subst e
   clear hr
   by_cases ha : a = d
   ·have HE : d = R := by rw [← HR.out, HD.out, if_pos (.inl ha)]
    subst HE
    subst ha
    clear HR HD
    go_wp2
    go_ret
    exact ⟨rfl, hbr⟩
   ·have ka : (a == d) = false := by simpa using ha
    have HA := Lib.hid ha
    clear ha
    by_cases hn : a = nd
    ·subst hn
     go_wp2_with (go_at_call 64; refine (HN.out _).mono ?_; rintro e w2 ⟨rfl, hb2⟩)
     go_roundw
     case rel => exact ⟨1, by omega, by go_num, Lib.hid ⟨fun h => by omega, fun _ => ⟨HA.out, by simp⟩, fun h => by omega⟩, hbr.trans (hb2.mono hbz)⟩
     case measure => simp [intOf] <;> omega
    ·have kn : (a == nd) = false := by simpa using hn
     have HNn := Lib.hid hn
     clear hn
     go_wp2_with (go_at_call 64; refine (HN.out _).mono ?_; rintro e w2 ⟨rfl, hb2⟩)
     go_roundw
     case rel => exact ⟨1, by omega, by go_num, Lib.hid ⟨fun h => by omega, fun _ => ⟨HA.out, by rw [if_neg HNn.out]⟩, fun h => by omega⟩, hbr.trans (hb2.mono hbz)⟩
     case measure => simp [intOf] <;> omega
  ·obtain ⟨hA, e⟩ := hr.out.2.1 rfl
   have HA := Lib.hid hA
   by_cases hb : b = d
   ·have HE : d = R := by rw [← HR.out, HD.out, if_pos (.inr hb)]
    subst HE
    subst hb
    generalize (if a = nd then nd else (1 : Int)) = x at *
    subst e
    clear HR HD hr hA
    go_wp2
    go_ret
    exact ⟨rfl, hbr⟩
   ·have kb : (b == d) = false := by simpa using hb
    have HB := Lib.hid hb
    clear hb
    by_cases hn : b = nd
    ·have HX : Hid (R = if a = nd then nd else 1) := Lib.hid (by
      rw [← HR.out, HD.out, if_neg (fun h => by rcases h with h | h; exact HA.out h; exact HB.out h)]
      by_cases h : a = nd
      ·rw [if_pos ⟨h, hn⟩, if_pos h]
      ·rw [if_neg (fun h2 => h h2.1), if_neg h])
     subst hn
     generalize hx : (if a = b then b else (1 : Int)) = x at *
     subst e
     have HX2 := Lib.hid hx
     clear hx hr hA
     go_wp2_with (go_at_call 64; refine (HN.out _).mono ?_; rintro e w2 ⟨rfl, hb2⟩)
     go_roundw
     case rel => exact ⟨2, by omega, by go_num, Lib.hid ⟨fun h => by omega, fun h => by omega, fun _ => by rw [HX.out]⟩, hbr.trans (hb2.mono hbz)⟩
     case measure => simp [intOf] <;> omega
    ·have kn : (b == nd) = false := by simpa using hn
     have HX : Hid (R = 1) := Lib.hid (by
      rw [← HR.out, HD.out, if_neg (fun h => by rcases h with h | h; exact HA.out h; exact HB.out h), if_neg (fun h => hn h.2)])
     generalize hx : (if a = nd then nd else (1 : Int)) = x at *
     subst e
     clear hx hr hA hn
     go_wp2_with (go_at_call 64; refine (HN.out _).mono ?_; rintro e w2 ⟨rfl, hb2⟩)
     go_roundw
     case rel => exact ⟨2, by omega, by go_num, Lib.hid ⟨fun h => by omega, fun h => by omega, fun _ => by rw [HX.out]⟩, hbr.trans (hb2.mono hbz)⟩
     case measure => simp [intOf] <;> omega
  ·have e := hr.out.2.2 rfl
   subst e
   clear hr
   go_wp2
   go_ret
   exact ⟨rfl, hbr⟩
theorem cmb_and (a b : Int) : cmbT 0 a b = vand a b := by
 unfold cmbT vand vnot
 simp
theorem cmb_or (a b : Int) : cmbT 2 a b = vor a b := by
 unfold cmbT vor vnot
 simp
theorem two_new (w : World) (x y : Value) (t : TypeId) : Below w.heap.size w (w.alloc (.cells #[x, y] t)) ∧ w.heap.size < (w.alloc (.cells #[x, y] t)).heap.size ∧ (w.alloc (.cells #[x, y] t)).cell? ⟨w.heap.size, 0, none⟩ = some x ∧ (w.alloc (.cells #[x, y] t)).cell? ⟨w.heap.size, 1, none⟩ = some y := by
 refine ⟨(Below.refl _ _).alloc (Nat.le_refl _) _, by rw [World.size_alloc]; omega, ?_, ?_⟩
 ·rw [cell_of_row _ _ 0 #[x, y] t (0, 0) (heap_alloc_new w _)]; rfl
 ·rw [cell_of_row _ _ 1 #[x, y] t (0, 0) (heap_alloc_new w _)]; rfl
theorem pAnd_any (a b : Int) (w : World) : Calls Tryz.prog 96 #[.int .i64 a, .int .i64 b] w fun e w' => e = .returned (.int .i64 (vand a b)) ∧ Below w.heap.size w w' := by
 rw [← cmb_and]
 obtain ⟨b1, b2, b3, b4⟩ := two_new w (.int .i64 a) (.int .i64 b) 3
 have HX := Lib.hid (combined_two 0 a b w.heap.size 2 _ b2 b3 b4)
 generalize cmbT 0 a b = R at *
 clear b2 b3 b4
 go_enter Tryz.func96, Tryz.ntmps96
 go_wp2_with fail
 refine HX.out.mono ?_
 rintro e w1 ⟨rfl, hb1⟩
 have B := b1.trans (hb1.mono b1.size)
 go_wp2
 go_ret
 exact ⟨rfl, B⟩
theorem pOr_any (a b : Int) (w : World) : Calls Tryz.prog 97 #[.int .i64 a, .int .i64 b] w fun e w' => e = .returned (.int .i64 (vor a b)) ∧ Below w.heap.size w w' := by
 rw [← cmb_or]
 obtain ⟨b1, b2, b3, b4⟩ := two_new w (.int .i64 a) (.int .i64 b) 3
 have HX := Lib.hid (combined_two 2 a b w.heap.size 2 _ b2 b3 b4)
 generalize cmbT 2 a b = R at *
 clear b2 b3 b4
 go_enter Tryz.func97, Tryz.ntmps97
 go_wp2_with fail
 refine HX.out.mono ?_
 rintro e w1 ⟨rfl, hb1⟩
 have B := b1.trans (hb1.mono b1.size)
 go_wp2
 go_ret
 exact ⟨rfl, B⟩
end Go.Proofs.YtdhemhmgenhmaaaGreat.Va
namespace Go.Proofs.YtdhemhmgenhmaaaGreat.Va
open Go.RowKit
def vV (k n : Int) (s : ByteArray) : Value := .agg #[.int .i64 k, .int .i64 n, .string s]
theorem load_val {w : World} {g : Nat} {x y z : Value} (h : Own w g 23 #[x, y, z]) : (loadVar 23 ⟨g, 0, none⟩).run Tryz.prog w = .ok (.agg #[x, y, z]) w :=
 run_loadVar_row w g 23 23 #[x, y, z] (0, 0) _ h Tryz.underlying23 rfl (by kernel_rfl)
theorem results_cell_row1 {fn : Func} {p : Tmp} {ty : TypeId} (h : fn.results = #[.cell p ty]) (tmps : Array Value) (w : World) (g : Nat) (cs : Array Value) (hp : tmps.getD p undef = .pointer (some ⟨g, 0, none⟩))
  (hl : (loadVar ty ⟨g, 0, none⟩).run Tryz.prog w = .ok (.agg cs) w) : (results fn tmps).run Tryz.prog w = .ok (.agg cs) w := by
 have hp' : tmps[p]?.getD undef = .pointer (some ⟨g, 0, none⟩) := by simpa using hp
 simp [results, h, hp', asAddr, hl]
theorem results_cell_row2 {fn : Func} {p u : Tmp} {ty : TypeId} (h : fn.results = #[.cell p ty, .tmp u]) (tmps : Array Value) (w : World) (g : Nat) (cs : Array Value) (hp : tmps.getD p undef = .pointer (some ⟨g, 0, none⟩))
  (hl : (loadVar ty ⟨g, 0, none⟩).run Tryz.prog w = .ok (.agg cs) w) : (results fn tmps).run Tryz.prog w = .ok (.tuple #[.agg cs, tmps.getD u undef]) w := by
 have hp' : tmps[p]?.getD undef = .pointer (some ⟨g, 0, none⟩) := by simpa using hp
 simp [results, h, hp', asAddr, hl]
theorem own_two {w : World} {t : TypeId} {cs : Array Value} (o : Obj) : Own ((w.alloc o).alloc (.cells cs t)) (w.heap.size + 1) t cs := by
 have h := Own.new (w.alloc o) t cs
 rwa [World.size_alloc] at h
theorem pNull_any (w : World) : Calls Tryz.prog 14 #[] w fun e w' => e = .returned (vV 0 0 ⟨#[]⟩) ∧ Below w.heap.size w w' := by
 go_enter Tryz.func14, Tryz.ntmps14
 go_wp2
 (try simp only [Exit.inBlock, Exit.then]); refine bodyPost_ret_by (results_cell_row1 (by rfl) _ _ (w.heap.size) _ (by rfl) (load_val (Own.new _ _ _))) ?_ ?_; (focus rfl); refine ⟨rfl, ?_⟩
 (repeat' first | (with_reducible first | exact Below.refl _ _ | assumption | refine Below.alloc ?_ ?_ _ | refine Below.drew ?_ | refine Below.setCell ?_ ?_ _ | refine Below.trans ?_ (Below.mono (by assumption) ?_)) | go_size)
theorem rNull_any (w : World) : Calls Tryz.prog 20 #[] w fun e w' => e = .returned (vV 0 0 ⟨#[]⟩) ∧ Below w.heap.size w w' := by
 go_enter Tryz.func20, Tryz.ntmps20
 go_wp2
 (try simp only [Exit.inBlock, Exit.then]); refine bodyPost_ret_by (results_cell_row1 (by rfl) _ _ (w.heap.size) _ (by rfl) (load_val (Own.new _ _ _))) ?_ ?_; (focus rfl); refine ⟨rfl, ?_⟩
 (repeat' first | (with_reducible first | exact Below.refl _ _ | assumption | refine Below.alloc ?_ ?_ _ | refine Below.drew ?_ | refine Below.setCell ?_ ?_ _ | refine Below.trans ?_ (Below.mono (by assumption) ?_)) | go_size)
def vB (b : Bool) : Value := vV 3 (if b then 1 else 0) ⟨#[]⟩
theorem pBool_any (b : Bool) (w : World) : Calls Tryz.prog 58 #[.bool b] w fun e w' => e = .returned (vB b) ∧ Below w.heap.size w w' := by
 cases b
 all_goals
  go_enter Tryz.func58, Tryz.ntmps58
  go_wp2
  (try simp only [Exit.inBlock, Exit.then]); refine bodyPost_ret_by (results_cell_row1 (by rfl) _ _ (w.heap.size) _ (by rfl) (load_val (Own.new _ _ _))) ?_ ?_; (focus rfl); refine ⟨rfl, ?_⟩
  (repeat' first | (with_reducible first | exact Below.refl _ _ | assumption | refine Below.alloc ?_ ?_ _ | refine Below.drew ?_ | refine Below.setCell ?_ ?_ _ | refine Below.trans ?_ (Below.mono (by assumption) ?_)) | go_size)
theorem rBool_any (b : Bool) (w : World) : Calls Tryz.prog 30 #[.bool b] w fun e w' => e = .returned (vB b) ∧ Below w.heap.size w w' := by
 cases b
 all_goals
  go_enter Tryz.func30, Tryz.ntmps30
  go_wp2
  (try simp only [Exit.inBlock, Exit.then]); refine bodyPost_ret_by (results_cell_row1 (by rfl) _ _ (w.heap.size) _ (by rfl) (load_val (Own.new _ _ _))) ?_ ?_; (focus rfl); refine ⟨rfl, ?_⟩
  (repeat' first | (with_reducible first | exact Below.refl _ _ | assumption | refine Below.alloc ?_ ?_ _ | refine Below.drew ?_ | refine Below.setCell ?_ ?_ _ | refine Below.trans ?_ (Below.mono (by assumption) ?_)) | go_size)
theorem truthOf_any (b : Bool) (w : World) : Calls Tryz.prog 125 #[.bool b] w fun e w' => e = .returned (.int .i64 (if b then 2 else 0)) ∧ w' = w := by
 cases b
 all_goals
  go_enter Tryz.func125, Tryz.ntmps125
  go_wp2
  go_ret
  exact ⟨rfl, rfl⟩
theorem clo_any (x : Nat) (hx : x ≤ 1114111) (w : World) : Calls Tryz.prog 137 #[.int .i32 (x : Int)] w fun e w' => e = .returned (.bool (badR x)) ∧ w' = w := by
 by_cases h1 : (x : Int) < 32
 ·have hb : badR x = true := by unfold badR; rw [decide_eq_true (by omega)]; rfl
  go_enter Tryz.func137, Tryz.ntmps137
  go_wp2
  go_ret
  exact ⟨by first | rfl | (rw [hb]; rfl), rfl⟩
 ·by_cases h2 : 126 < (x : Int)
  ·have hb : badR x = true := by unfold badR; rw [decide_eq_true (p := 126 < x) (by omega), Bool.or_true]
   go_enter Tryz.func137, Tryz.ntmps137
   go_wp2
   go_ret
   exact ⟨by first | rfl | (rw [hb]; rfl), rfl⟩
  ·have hb : badR x = false := by unfold badR; rw [decide_eq_false (by omega), decide_eq_false (by omega)]; rfl
   go_enter Tryz.func137, Tryz.ntmps137
   go_wp2
   go_ret
   exact ⟨by first | rfl | (rw [hb]; rfl), rfl⟩
theorem clo_enters : ∀ args w, (callFunc 137 args).run Tryz.prog w = .ok (.enter 137 args) w := enters_of Tryz.func137 (by kernel_rfl) rfl
theorem contains_any (s : ByteArray) (w : World) : Calls Tryz.prog 136 #[.string s, .func (.func 137) #[] #[]] w fun e w' => e = .returned (.bool (!prnL s.data.toList)) ∧ Below w.heap.size w w' := by
 rw [← idx_prn]
 exact Tryz.strings_ContainsFunc_runes _ _ clo_enters badR s w (fun W x hx _ => (clo_any x hx W).mono fun e w' ⟨h1, h2⟩ => ⟨h1, 0, h2⟩)
theorem pPrn_any (s : ByteArray) (w : World) : Calls Tryz.prog 122 #[.string s] w fun e w' => e = .returned (.bool (prnL s.data.toList)) ∧ Below w.heap.size w w' := by
 have hc := fun W => contains_any s W
 cases hp : prnL s.data.toList <;> rw [hp] at hc
 all_goals
  go_enter Tryz.func122, Tryz.ntmps122
  go_wp2_with (go_at_call 136; refine (hc _).mono ?_; rintro e w1 ⟨rfl, hb⟩)
  go_ret
  refine ⟨rfl, ?_⟩
  (repeat' first | (with_reducible first | exact Below.refl _ _ | assumption | refine Below.alloc ?_ ?_ _ | refine Below.drew ?_ | refine Below.setCell ?_ ?_ _ | refine Below.trans ?_ (Below.mono (by assumption) ?_)) | go_size)
theorem prn_take_not {s : ByteArray} {k : Nat} (h : k < s.size) (hk : (s[k].toNat : Int) < 32 ∨ 126 < (s[k].toNat : Int)) : prnL s.data.toList = false := by
 unfold prnL
 rw [Bool.eq_false_iff]; intro e
 rw [List.all_eq_true] at e
 have hm : s[k] ∈ s.data.toList := by
  have : s.data.toList[k]'(by simpa using h) ∈ s.data.toList := List.getElem_mem _
  exact this
 have := e _ hm
 simp only [Bool.and_eq_true, decide_eq_true_eq] at this
 omega
theorem prn_step {s : ByteArray} {k : Nat} (h : k < s.size) (hp : prnL (s.data.toList.take k) = true) (h1 : ¬ (s[k].toNat : Int) < 32) (h2 : ¬ 126 < (s[k].toNat : Int)) : prnL (s.data.toList.take (k + 1)) = true := by
 rw [List.take_succ_eq_append_getElem (by simpa using h)]
 unfold prnL at hp ⊢
 rw [List.all_append, hp, List.all_cons, List.all_nil]
 have : s.data.toList[k]'(by simpa using h) = s[k] := rfl
 rw [this, decide_eq_true (by omega), decide_eq_true (by omega)]; rfl
theorem rPrn_any (s : ByteArray) (w : World) (hs : s.size < 9223372036854775807) : Calls Tryz.prog 76 #[.string s] w fun e w' => e = .returned (.bool (prnL s.data.toList)) ∧ w' = w := by
 generalize hR : prnL s.data.toList = R
 have HR := Lib.hid hR
 clear hR
 go_enter Tryz.func76, Tryz.ntmps76
 go_wp2
 go_loop [3] (fun i => ∃ k : Nat, k ≤ s.size ∧ i = .int .i64 k ∧ Hid (prnL (s.data.toList.take k) = true)) (fun i => s.size - (intOf i).toNat)
 case atStart => exact ⟨0, Nat.zero_le _, rfl, Lib.hid rfl⟩
 case round =>
  obtain ⟨k, hk, rfl, hd⟩ := hrel
  by_cases hlt : k < s.size
  ·by_cases hc1 : (s[k].toNat : Int) < 32
   ·go_wp2
    go_ret
    exact ⟨by rw [show R = false by rw [← HR.out, prn_take_not hlt (.inl hc1)]]; rfl, rfl⟩
   ·by_cases hc2 : 126 < (s[k].toNat : Int)
    ·go_wp2
     go_ret
     exact ⟨by rw [show R = false by rw [← HR.out, prn_take_not hlt (.inr hc2)]]; rfl, rfl⟩
    ·go_wp2
     go_round
     case rel => exact ⟨k + 1, by omega, by go_num, Lib.hid (prn_step hlt hd.out hc1 hc2)⟩
     case measure => simp [intOf]; omega
  ·go_wp2
   go_ret
   have ht : s.data.toList.take k = s.data.toList := List.take_of_length_le (by rw [← Lib.size_eq]; omega)
   have hd' := hd.out
   rw [ht, HR.out] at hd'
   exact ⟨by rw [hd']; rfl, rfl⟩
end Go.Proofs.YtdhemhmgenhmaaaGreat.Va
namespace Go.Proofs.YtdhemhmgenhmaaaGreat.Va
open Go.RowKit
def emp (s : ByteArray) : Bool := s.toList == []
def vldV (k n : Int) (s : ByteArray) : Bool :=
 if k = 0 then decide (n = 0) && emp s
 else if k = 1 then decide (-1125899906842624 ≤ n) && decide (n ≤ 1125899906842624) && emp s
 else if k = 2 then decide (n = 0) && decide (s.size ≤ 200) && prnL s.data.toList
 else if k = 3 then (decide (n = 0) || decide (n = 1)) && emp s
 else false
theorem pValid_any (k n : Int) (s : ByteArray) (w : World) : Calls Tryz.prog 95 #[vV k n s] w fun e w' => e = .returned (.bool (vldV k n s)) ∧ Below w.heap.size w w' := by
 have hP := fun W => pPrn_any s W
 unfold vldV emp vV
 by_cases k0 : k = 0
 ·subst k0
  rw [if_pos rfl]
  by_cases hn : n = 0 <;> cases he : s.toList == []
  all_goals
   go_enter Tryz.func95, Tryz.ntmps95
   go_wp2
   go_ret
   refine ⟨by simp [*], ?_⟩
   (repeat' first | (with_reducible first | exact Below.refl _ _ | assumption | refine Below.alloc ?_ ?_ _ | refine Below.drew ?_ | refine Below.setCell ?_ ?_ _ | refine Below.trans ?_ (Below.mono (by assumption) ?_)) | go_size)
 rw [if_neg k0]
 by_cases k1 : k = 1
 ·subst k1
  rw [if_pos rfl]
  by_cases h1 : -1125899906842624 ≤ n <;> by_cases h2 : n ≤ 1125899906842624 <;> cases he : s.toList == []
  all_goals (first | (exfalso; omega) | skip)
  all_goals
   go_enter Tryz.func95, Tryz.ntmps95
   go_wp2
   go_ret
   refine ⟨by simp [*], ?_⟩
   (repeat' first | (with_reducible first | exact Below.refl _ _ | assumption | refine Below.alloc ?_ ?_ _ | refine Below.drew ?_ | refine Below.setCell ?_ ?_ _ | refine Below.trans ?_ (Below.mono (by assumption) ?_)) | go_size)
 rw [if_neg k1]
 by_cases k2 : k = 2
 ·subst k2
  rw [if_pos rfl]
  by_cases hn : n = 0
  ·by_cases hs : s.size ≤ 200
   ·have hsi : (s.size : Int) ≤ 200 := by omega
    cases hp : prnL s.data.toList <;> rw [hp] at hP
    all_goals
     go_enter Tryz.func95, Tryz.ntmps95
     go_wp2_with (go_at_call 122; refine (hP _).mono ?_; rintro e w1 ⟨rfl, hb⟩)
     go_ret
     refine ⟨by simp [*], ?_⟩
     (repeat' first | (with_reducible first | exact Below.refl _ _ | assumption | refine Below.alloc ?_ ?_ _ | refine Below.drew ?_ | refine Below.setCell ?_ ?_ _ | refine Below.trans ?_ (Below.mono (by assumption) ?_)) | go_size)
   ·have hsi : ¬ (s.size : Int) ≤ 200 := by omega
    go_enter Tryz.func95, Tryz.ntmps95
    go_wp2
    go_ret
    refine ⟨by simp [*], ?_⟩
    (repeat' first | (with_reducible first | exact Below.refl _ _ | assumption | refine Below.alloc ?_ ?_ _ | refine Below.drew ?_ | refine Below.setCell ?_ ?_ _ | refine Below.trans ?_ (Below.mono (by assumption) ?_)) | go_size)
  ·go_enter Tryz.func95, Tryz.ntmps95
   go_wp2
   go_ret
   refine ⟨by simp [*], ?_⟩
   (repeat' first | (with_reducible first | exact Below.refl _ _ | assumption | refine Below.alloc ?_ ?_ _ | refine Below.drew ?_ | refine Below.setCell ?_ ?_ _ | refine Below.trans ?_ (Below.mono (by assumption) ?_)) | go_size)
 rw [if_neg k2]
 by_cases k3 : k = 3
 ·subst k3
  rw [if_pos rfl]
  by_cases h1 : n = 0 <;> by_cases h2 : n = 1 <;> cases he : s.toList == []
  all_goals (first | (exfalso; omega) | skip)
  all_goals
   go_enter Tryz.func95, Tryz.ntmps95
   go_wp2
   go_ret
   refine ⟨by simp [*], ?_⟩
   (repeat' first | (with_reducible first | exact Below.refl _ _ | assumption | refine Below.alloc ?_ ?_ _ | refine Below.drew ?_ | refine Below.setCell ?_ ?_ _ | refine Below.trans ?_ (Below.mono (by assumption) ?_)) | go_size)
 rw [if_neg k3]
 have j0 : (k == 0) = false := by simpa using k0
 have j1 : (k == 1) = false := by simpa using k1
 have j2 : (k == 2) = false := by simpa using k2
 have j3 : (k == 3) = false := by simpa using k3
 go_enter Tryz.func95, Tryz.ntmps95
 go_wp2
 go_ret
 refine ⟨rfl, ?_⟩
 (repeat' first | (with_reducible first | exact Below.refl _ _ | assumption | refine Below.alloc ?_ ?_ _ | refine Below.drew ?_ | refine Below.setCell ?_ ?_ _ | refine Below.trans ?_ (Below.mono (by assumption) ?_)) | go_size)
theorem rValid_any (k n : Int) (s : ByteArray) (w : World) : Calls Tryz.prog 37 #[vV k n s] w fun e w' => e = .returned (.bool (vldV k n s)) ∧ Below w.heap.size w w' := by
 unfold vldV emp vV
 by_cases k0 : k = 0
 ·subst k0
  rw [if_pos rfl]
  by_cases hn : n = 0 <;> cases he : s.toList == []
  all_goals
   go_enter Tryz.func37, Tryz.ntmps37
   go_wp2
   go_ret
   refine ⟨by simp [*], ?_⟩
   (repeat' first | (with_reducible first | exact Below.refl _ _ | assumption | refine Below.alloc ?_ ?_ _ | refine Below.drew ?_ | refine Below.setCell ?_ ?_ _ | refine Below.trans ?_ (Below.mono (by assumption) ?_)) | go_size)
 rw [if_neg k0]
 by_cases k1 : k = 1
 ·subst k1
  rw [if_pos rfl]
  by_cases h1 : -1125899906842624 ≤ n <;> by_cases h2 : n ≤ 1125899906842624 <;> cases he : s.toList == []
  all_goals (first | (exfalso; omega) | skip)
  all_goals
   go_enter Tryz.func37, Tryz.ntmps37
   go_wp2
   go_ret
   refine ⟨by simp [*], ?_⟩
   (repeat' first | (with_reducible first | exact Below.refl _ _ | assumption | refine Below.alloc ?_ ?_ _ | refine Below.drew ?_ | refine Below.setCell ?_ ?_ _ | refine Below.trans ?_ (Below.mono (by assumption) ?_)) | go_size)
 rw [if_neg k1]
 by_cases k2 : k = 2
 ·subst k2
  rw [if_pos rfl]
  by_cases hn : n = 0
  ·by_cases hs : s.size ≤ 200
   ·have hsi : (s.size : Int) ≤ 200 := by omega
    have hP := fun W => rPrn_any s W (by omega)
    cases hp : prnL s.data.toList <;> rw [hp] at hP
    all_goals
     go_enter Tryz.func37, Tryz.ntmps37
     go_wp2_with (go_at_call 76; refine (hP _).mono ?_; rintro e w1 ⟨rfl, rfl⟩)
     go_ret
     refine ⟨by simp [*], ?_⟩
     (repeat' first | (with_reducible first | exact Below.refl _ _ | assumption | refine Below.alloc ?_ ?_ _ | refine Below.drew ?_ | refine Below.setCell ?_ ?_ _ | refine Below.trans ?_ (Below.mono (by assumption) ?_)) | go_size)
   ·have hsi : ¬ (s.size : Int) ≤ 200 := by omega
    go_enter Tryz.func37, Tryz.ntmps37
    go_wp2
    go_ret
    refine ⟨by simp [*], ?_⟩
    (repeat' first | (with_reducible first | exact Below.refl _ _ | assumption | refine Below.alloc ?_ ?_ _ | refine Below.drew ?_ | refine Below.setCell ?_ ?_ _ | refine Below.trans ?_ (Below.mono (by assumption) ?_)) | go_size)
  ·go_enter Tryz.func37, Tryz.ntmps37
   go_wp2
   go_ret
   refine ⟨by simp [*], ?_⟩
   (repeat' first | (with_reducible first | exact Below.refl _ _ | assumption | refine Below.alloc ?_ ?_ _ | refine Below.drew ?_ | refine Below.setCell ?_ ?_ _ | refine Below.trans ?_ (Below.mono (by assumption) ?_)) | go_size)
 rw [if_neg k2]
 by_cases k3 : k = 3
 ·subst k3
  rw [if_pos rfl]
  by_cases h1 : n = 0 <;> by_cases h2 : n = 1 <;> cases he : s.toList == []
  all_goals (first | (exfalso; omega) | skip)
  all_goals
   go_enter Tryz.func37, Tryz.ntmps37
   go_wp2
   go_ret
   refine ⟨by simp [*], ?_⟩
   (repeat' first | (with_reducible first | exact Below.refl _ _ | assumption | refine Below.alloc ?_ ?_ _ | refine Below.drew ?_ | refine Below.setCell ?_ ?_ _ | refine Below.trans ?_ (Below.mono (by assumption) ?_)) | go_size)
 rw [if_neg k3]
 have j0 : (k == 0) = false := by simpa using k0
 have j1 : (k == 1) = false := by simpa using k1
 have j2 : (k == 2) = false := by simpa using k2
 have j3 : (k == 3) = false := by simpa using k3
 go_enter Tryz.func37, Tryz.ntmps37
 go_wp2
 go_ret
 refine ⟨rfl, ?_⟩
 (repeat' first | (with_reducible first | exact Below.refl _ _ | assumption | refine Below.alloc ?_ ?_ _ | refine Below.drew ?_ | refine Below.setCell ?_ ?_ _ | refine Below.trans ?_ (Below.mono (by assumption) ?_)) | go_size)
end Go.Proofs.YtdhemhmgenhmaaaGreat.Va
