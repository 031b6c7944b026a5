/-
  Values: reading texts, reading and writing literals: what the program answers. Conditions: the tables lie as the rows say.
-/
import Derived.Test.YthjnkekkjjcnfaaGreatDoorVaH
import Derived.WalkKit
import Derived.WalkSpells
import Derived.WalkLawsBesides
import Derived.Deep.QuietTactic
import Derived.BigQuiet
import Derived.Handy
import Derived.Lib.Hide
namespace Go.Proofs.YthjnkekkjjcnfaaGreatDoor
open Go.RowKit

theorem innT_len (s : List UInt8) : (innT s).length ≤ s.length := by
  unfold innT
  refine Nat.le_trans (und_len _) ?_
  refine Nat.le_trans (m := (Lib.trimPrefix s [39]).length) ?_ ?_
  · unfold Lib.trimSuffix; split
    · rw [List.length_take]; omega
    · exact Nat.le_refl _
  · unfold Lib.trimPrefix; split
    · rw [List.length_drop]; omega
    · exact Nat.le_refl _
theorem nrm_text {t : List UInt8} (h1 : ¬ 200 < t.length) (h2 : prnL t = true) : nrm 2 0 ⟨t.toArray⟩ = vV 2 0 ⟨t.toArray⟩ := by
  have hv : vldV 2 0 ⟨t.toArray⟩ = true := by
    unfold vldV
    rw [if_neg (by decide), if_neg (by decide), if_pos rfl, decide_eq_true rfl, decide_eq_true (by rw [size_toArray]; omega)]
    exact h2
  unfold nrm
  rw [hv]; rfl
set_option maxRecDepth 100000 in
set_option maxHeartbeats 1600000 in
theorem pTexts_q (s : ByteArray) (w : World) (h : Env w) (hs : s.size ≤ 2097152) (t : List UInt8) (ht : innT s.data.toList = t) (hq : ¬ quo t = s.data.toList) :
    Calls Tryz.prog 53 #[.string s] w fun e w' => e = .returned (.tuple #[vV 0 0 ⟨#[]⟩, .int .i64 1]) ∧ Below w.heap.size w w' := by
  have hl := innT_len s.data.toList
  rw [ht, ← Lib.size_eq] at hl
  have h1 := fun W => Tryz.strings_TrimPrefix s ⟨#[39]⟩ W
  have h2 := fun W => Tryz.strings_TrimSuffix ⟨(Lib.trimPrefix s.data.toList [39]).toArray⟩ ⟨#[39]⟩ W (by rw [size_toArray]; unfold Lib.trimPrefix; split <;> (try rw [List.length_drop]) <;> rw [← Lib.size_eq] <;> omega)
  have h3 := fun W (hE : Env W) => replace_any ⟨(Lib.trimSuffix (Lib.trimPrefix s.data.toList [39]) [39]).toArray⟩ ⟨#[39, 39]⟩ ⟨#[39]⟩ W hE (by
    rw [size_toArray]
    have e1 : (Lib.trimPrefix s.data.toList [39]).length ≤ s.size := by unfold Lib.trimPrefix; split <;> (try rw [List.length_drop]) <;> rw [← Lib.size_eq] <;> omega
    have e2 : (Lib.trimSuffix (Lib.trimPrefix s.data.toList [39]) [39]).length ≤ (Lib.trimPrefix s.data.toList [39]).length := by
      unfold Lib.trimSuffix; split
      · rw [List.length_take]; omega
      · exact Nat.le_refl _
    omega) (by decide) (by decide)
  rw [show Lib.replaceAll (ByteArray.mk (Lib.trimSuffix (Lib.trimPrefix s.data.toList [39]) [39]).toArray).data.toList (ByteArray.mk #[39, 39]).data.toList (ByteArray.mk #[39]).data.toList = t from ht] at h3
  rw [show (ByteArray.mk (Lib.trimPrefix s.data.toList [39]).toArray).data.toList = Lib.trimPrefix s.data.toList [39] from rfl] at h2
  rw [show (ByteArray.mk #[39]).data.toList = [39] from rfl] at h1 h2
  generalize Lib.trimSuffix (Lib.trimPrefix s.data.toList [39]) [39] = u2 at *
  generalize Lib.trimPrefix s.data.toList [39] = u1 at *
  have h4 := fun W (hE : Env W) => quoted_any ⟨t.toArray⟩ W hE (by rw [size_toArray]; omega)
  have h5 := fun W => pPrn_any ⟨t.toArray⟩ W
  have h6 := fun W => pText_any ⟨t.toArray⟩ W
  have htl : (ByteArray.mk t.toArray).size ≤ 2097152 := by rw [size_toArray]; omega
  rw [show (ByteArray.mk t.toArray).data.toList = t from rfl] at h4 h5
  have oB : Own (w.alloc (.cells #[.int .i64 0, .int .i64 0, .string ⟨#[]⟩] 23)) w.heap.size 23 #[.int .i64 0, .int .i64 0, .string ⟨#[]⟩] := Own.new _ _ _
  have bW := (Below.refl w.heap.size w).alloc (Nat.le_refl _) (.cells #[.int .i64 0, .int .i64 0, .string ⟨#[]⟩] 23)
  have hE := h.step bW
  have sW : (w.alloc (.cells #[.int .i64 0, .int .i64 0, .string ⟨#[]⟩] 23)).heap.size = w.heap.size + 1 := by simp
  have j : (quo t == s.toList) = false := by rw [Lib.toList_data]; simpa using hq
  clear hq
  generalize quo t = qt at *
  unfold vV
  go_enter Tryz.func53, Tryz.ntmps53
  go_wp2_with fail
  generalize w.alloc (.cells #[.int .i64 0, .int .i64 0, .string ⟨#[]⟩] 23) = W at *
  refine (h1 _).mono ?_
  rintro e w1 ⟨rfl, rfl⟩
  go_wp2_with fail
  refine (h2 _).mono ?_
  rintro e w1 ⟨rfl, rfl⟩
  go_wp2_with fail
  refine (h3 _ hE).mono ?_
  rintro e w1 ⟨rfl, hb1⟩
  have z1 := hb1.size
  have o1 := oB.below hb1 (by omega)
  have E1 := hE.step hb1
  have b1 := bW.trans (hb1.mono (by omega))
  clear h1 h2 h3 hE
  go_wp2_with fail
  refine (h4 _ E1).mono ?_
  rintro e w2 ⟨rfl, hb2⟩
  have z2 := hb2.size
  have o2 := o1.below hb2 (by omega)
  have b2 := b1.trans (hb2.mono (by omega))
  clear h4 E1
  have d0 := o2.cell 0; have e0 := o2.free 0; have d1 := o2.cell 1; have e1 := o2.free 1; have d2 := o2.cell 2; have e2 := o2.free 2; (try simp only [List.getElem?_toArray, List.getElem?_cons_zero, List.getElem?_cons_succ] at d0 d1 d2)
  go_wp2
  (try simp only [Exit.inBlock, Exit.then]); refine bodyPost_ret_by (results_cell_row2 (by rfl) _ _ (w.heap.size) _ (by rfl) (load_val (((o2.store 0 _).store 1 _).store 2 _))) ?_ ?_; (focus rfl); refine ⟨rfl, ?_⟩
  (repeat' (first | (with_reducible exact Below.refl _ _) | (with_reducible assumption) | (with_reducible refine Below.alloc ?_ ?_ _) | (with_reducible refine Below.drew ?_) | (with_reducible refine Below.setCell ?_ ?_ _) | (with_reducible refine Below.trans ?_ (Below.mono (by assumption) ?_)) | go_size))
set_option maxRecDepth 100000 in
set_option maxHeartbeats 1600000 in
theorem pTexts_p (s : ByteArray) (w : World) (h : Env w) (hs : s.size ≤ 2097152) (t : List UInt8) (ht : innT s.data.toList = t) (hq : quo t = s.data.toList) (hp : prnL t = false) :
    Calls Tryz.prog 53 #[.string s] w fun e w' => e = .returned (.tuple #[vV 0 0 ⟨#[]⟩, .int .i64 1]) ∧ Below w.heap.size w w' := by
  have hl := innT_len s.data.toList
  rw [ht, ← Lib.size_eq] at hl
  have h1 := fun W => Tryz.strings_TrimPrefix s ⟨#[39]⟩ W
  have h2 := fun W => Tryz.strings_TrimSuffix ⟨(Lib.trimPrefix s.data.toList [39]).toArray⟩ ⟨#[39]⟩ W (by rw [size_toArray]; unfold Lib.trimPrefix; split <;> (try rw [List.length_drop]) <;> rw [← Lib.size_eq] <;> omega)
  have h3 := fun W (hE : Env W) => replace_any ⟨(Lib.trimSuffix (Lib.trimPrefix s.data.toList [39]) [39]).toArray⟩ ⟨#[39, 39]⟩ ⟨#[39]⟩ W hE (by
    rw [size_toArray]
    have e1 : (Lib.trimPrefix s.data.toList [39]).length ≤ s.size := by unfold Lib.trimPrefix; split <;> (try rw [List.length_drop]) <;> rw [← Lib.size_eq] <;> omega
    have e2 : (Lib.trimSuffix (Lib.trimPrefix s.data.toList [39]) [39]).length ≤ (Lib.trimPrefix s.data.toList [39]).length := by
      unfold Lib.trimSuffix; split
      · rw [List.length_take]; omega
      · exact Nat.le_refl _
    omega) (by decide) (by decide)
  rw [show Lib.replaceAll (ByteArray.mk (Lib.trimSuffix (Lib.trimPrefix s.data.toList [39]) [39]).toArray).data.toList (ByteArray.mk #[39, 39]).data.toList (ByteArray.mk #[39]).data.toList = t from ht] at h3
  rw [show (ByteArray.mk (Lib.trimPrefix s.data.toList [39]).toArray).data.toList = Lib.trimPrefix s.data.toList [39] from rfl] at h2
  rw [show (ByteArray.mk #[39]).data.toList = [39] from rfl] at h1 h2
  generalize Lib.trimSuffix (Lib.trimPrefix s.data.toList [39]) [39] = u2 at *
  generalize Lib.trimPrefix s.data.toList [39] = u1 at *
  have h4 := fun W (hE : Env W) => quoted_any ⟨t.toArray⟩ W hE (by rw [size_toArray]; omega)
  have h5 := fun W => pPrn_any ⟨t.toArray⟩ W
  have h6 := fun W => pText_any ⟨t.toArray⟩ W
  have htl : (ByteArray.mk t.toArray).size ≤ 2097152 := by rw [size_toArray]; omega
  rw [show (ByteArray.mk t.toArray).data.toList = t from rfl] at h4 h5
  have oB : Own (w.alloc (.cells #[.int .i64 0, .int .i64 0, .string ⟨#[]⟩] 23)) w.heap.size 23 #[.int .i64 0, .int .i64 0, .string ⟨#[]⟩] := Own.new _ _ _
  have bW := (Below.refl w.heap.size w).alloc (Nat.le_refl _) (.cells #[.int .i64 0, .int .i64 0, .string ⟨#[]⟩] 23)
  have hE := h.step bW
  have sW : (w.alloc (.cells #[.int .i64 0, .int .i64 0, .string ⟨#[]⟩] 23)).heap.size = w.heap.size + 1 := by simp
  have j : (quo t == s.toList) = true := by rw [Lib.toList_data]; simpa using hq
  clear hq
  generalize quo t = qt at *
  rw [hp] at h5
  unfold vV
  go_enter Tryz.func53, Tryz.ntmps53
  go_wp2_with fail
  generalize w.alloc (.cells #[.int .i64 0, .int .i64 0, .string ⟨#[]⟩] 23) = W at *
  refine (h1 _).mono ?_
  rintro e w1 ⟨rfl, rfl⟩
  go_wp2_with fail
  refine (h2 _).mono ?_
  rintro e w1 ⟨rfl, rfl⟩
  go_wp2_with fail
  refine (h3 _ hE).mono ?_
  rintro e w1 ⟨rfl, hb1⟩
  have z1 := hb1.size
  have o1 := oB.below hb1 (by omega)
  have E1 := hE.step hb1
  have b1 := bW.trans (hb1.mono (by omega))
  clear h1 h2 h3 hE
  go_wp2_with fail
  refine (h4 _ E1).mono ?_
  rintro e w2 ⟨rfl, hb2⟩
  have z2 := hb2.size
  have o2 := o1.below hb2 (by omega)
  have b2 := b1.trans (hb2.mono (by omega))
  clear h4 E1
  go_wp2_with fail
  refine (h5 _).mono ?_
  rintro e w3 ⟨rfl, hb3⟩
  have z3 := hb3.size
  have o3 := o2.below hb3 (by omega)
  have b3 := b2.trans (hb3.mono (by omega))
  have d0 := o3.cell 0; have e0 := o3.free 0; have d1 := o3.cell 1; have e1 := o3.free 1; have d2 := o3.cell 2; have e2 := o3.free 2; (try simp only [List.getElem?_toArray, List.getElem?_cons_zero, List.getElem?_cons_succ] at d0 d1 d2)
  go_wp2
  (try simp only [Exit.inBlock, Exit.then]); refine bodyPost_ret_by (results_cell_row2 (by rfl) _ _ (w.heap.size) _ (by rfl) (load_val (((o3.store 0 _).store 1 _).store 2 _))) ?_ ?_; (focus rfl); refine ⟨rfl, ?_⟩
  (repeat' (first | (with_reducible exact Below.refl _ _) | (with_reducible assumption) | (with_reducible refine Below.alloc ?_ ?_ _) | (with_reducible refine Below.drew ?_) | (with_reducible refine Below.setCell ?_ ?_ _) | (with_reducible refine Below.trans ?_ (Below.mono (by assumption) ?_)) | go_size))
set_option maxRecDepth 100000 in
set_option maxHeartbeats 1600000 in
theorem pTexts_l (s : ByteArray) (w : World) (h : Env w) (hs : s.size ≤ 2097152) (t : List UInt8) (ht : innT s.data.toList = t) (hq : quo t = s.data.toList) (hp : prnL t = true) (hn : 200 < t.length) :
    Calls Tryz.prog 53 #[.string s] w fun e w' => e = .returned (.tuple #[vV 0 0 ⟨#[]⟩, .int .i64 5]) ∧ Below w.heap.size w w' := by
  have hl := innT_len s.data.toList
  rw [ht, ← Lib.size_eq] at hl
  have h1 := fun W => Tryz.strings_TrimPrefix s ⟨#[39]⟩ W
  have h2 := fun W => Tryz.strings_TrimSuffix ⟨(Lib.trimPrefix s.data.toList [39]).toArray⟩ ⟨#[39]⟩ W (by rw [size_toArray]; unfold Lib.trimPrefix; split <;> (try rw [List.length_drop]) <;> rw [← Lib.size_eq] <;> omega)
  have h3 := fun W (hE : Env W) => replace_any ⟨(Lib.trimSuffix (Lib.trimPrefix s.data.toList [39]) [39]).toArray⟩ ⟨#[39, 39]⟩ ⟨#[39]⟩ W hE (by
    rw [size_toArray]
    have e1 : (Lib.trimPrefix s.data.toList [39]).length ≤ s.size := by unfold Lib.trimPrefix; split <;> (try rw [List.length_drop]) <;> rw [← Lib.size_eq] <;> omega
    have e2 : (Lib.trimSuffix (Lib.trimPrefix s.data.toList [39]) [39]).length ≤ (Lib.trimPrefix s.data.toList [39]).length := by
      unfold Lib.trimSuffix; split
      · rw [List.length_take]; omega
      · exact Nat.le_refl _
    omega) (by decide) (by decide)
  rw [show Lib.replaceAll (ByteArray.mk (Lib.trimSuffix (Lib.trimPrefix s.data.toList [39]) [39]).toArray).data.toList (ByteArray.mk #[39, 39]).data.toList (ByteArray.mk #[39]).data.toList = t from ht] at h3
  rw [show (ByteArray.mk (Lib.trimPrefix s.data.toList [39]).toArray).data.toList = Lib.trimPrefix s.data.toList [39] from rfl] at h2
  rw [show (ByteArray.mk #[39]).data.toList = [39] from rfl] at h1 h2
  generalize Lib.trimSuffix (Lib.trimPrefix s.data.toList [39]) [39] = u2 at *
  generalize Lib.trimPrefix s.data.toList [39] = u1 at *
  have h4 := fun W (hE : Env W) => quoted_any ⟨t.toArray⟩ W hE (by rw [size_toArray]; omega)
  have h5 := fun W => pPrn_any ⟨t.toArray⟩ W
  have h6 := fun W => pText_any ⟨t.toArray⟩ W
  have htl : (ByteArray.mk t.toArray).size ≤ 2097152 := by rw [size_toArray]; omega
  rw [show (ByteArray.mk t.toArray).data.toList = t from rfl] at h4 h5
  have oB : Own (w.alloc (.cells #[.int .i64 0, .int .i64 0, .string ⟨#[]⟩] 23)) w.heap.size 23 #[.int .i64 0, .int .i64 0, .string ⟨#[]⟩] := Own.new _ _ _
  have bW := (Below.refl w.heap.size w).alloc (Nat.le_refl _) (.cells #[.int .i64 0, .int .i64 0, .string ⟨#[]⟩] 23)
  have hE := h.step bW
  have sW : (w.alloc (.cells #[.int .i64 0, .int .i64 0, .string ⟨#[]⟩] 23)).heap.size = w.heap.size + 1 := by simp
  have j : (quo t == s.toList) = true := by rw [Lib.toList_data]; simpa using hq
  clear hq
  generalize quo t = qt at *
  rw [hp] at h5
  have hn2 : ¬ ((ByteArray.mk t.toArray).size : Int) ≤ 200 := by rw [size_toArray]; omega
  unfold vV
  go_enter Tryz.func53, Tryz.ntmps53
  go_wp2_with fail
  generalize w.alloc (.cells #[.int .i64 0, .int .i64 0, .string ⟨#[]⟩] 23) = W at *
  refine (h1 _).mono ?_
  rintro e w1 ⟨rfl, rfl⟩
  go_wp2_with fail
  refine (h2 _).mono ?_
  rintro e w1 ⟨rfl, rfl⟩
  go_wp2_with fail
  refine (h3 _ hE).mono ?_
  rintro e w1 ⟨rfl, hb1⟩
  have z1 := hb1.size
  have o1 := oB.below hb1 (by omega)
  have E1 := hE.step hb1
  have b1 := bW.trans (hb1.mono (by omega))
  clear h1 h2 h3 hE
  go_wp2_with fail
  refine (h4 _ E1).mono ?_
  rintro e w2 ⟨rfl, hb2⟩
  have z2 := hb2.size
  have o2 := o1.below hb2 (by omega)
  have b2 := b1.trans (hb2.mono (by omega))
  clear h4 E1
  go_wp2_with fail
  refine (h5 _).mono ?_
  rintro e w3 ⟨rfl, hb3⟩
  have z3 := hb3.size
  have o3 := o2.below hb3 (by omega)
  have b3 := b2.trans (hb3.mono (by omega))
  have d0 := o3.cell 0; have e0 := o3.free 0; have d1 := o3.cell 1; have e1 := o3.free 1; have d2 := o3.cell 2; have e2 := o3.free 2; (try simp only [List.getElem?_toArray, List.getElem?_cons_zero, List.getElem?_cons_succ] at d0 d1 d2)
  go_wp2
  (try simp only [Exit.inBlock, Exit.then]); refine bodyPost_ret_by (results_cell_row2 (by rfl) _ _ (w.heap.size) _ (by rfl) (load_val (((o3.store 0 _).store 1 _).store 2 _))) ?_ ?_; (focus rfl); refine ⟨rfl, ?_⟩
  (repeat' (first | (with_reducible exact Below.refl _ _) | (with_reducible assumption) | (with_reducible refine Below.alloc ?_ ?_ _) | (with_reducible refine Below.drew ?_) | (with_reducible refine Below.setCell ?_ ?_ _) | (with_reducible refine Below.trans ?_ (Below.mono (by assumption) ?_)) | go_size))
set_option maxRecDepth 100000 in
set_option maxHeartbeats 1600000 in
theorem pTexts_ok (s : ByteArray) (w : World) (h : Env w) (hs : s.size ≤ 2097152) (t : List UInt8) (ht : innT s.data.toList = t) (hq : quo t = s.data.toList) (hp : prnL t = true) (hn : ¬ 200 < t.length) :
    Calls Tryz.prog 53 #[.string s] w fun e w' => e = .returned (.tuple #[vV 2 0 ⟨t.toArray⟩, .int .i64 0]) ∧ Below w.heap.size w w' := by
  have hl := innT_len s.data.toList
  rw [ht, ← Lib.size_eq] at hl
  have h1 := fun W => Tryz.strings_TrimPrefix s ⟨#[39]⟩ W
  have h2 := fun W => Tryz.strings_TrimSuffix ⟨(Lib.trimPrefix s.data.toList [39]).toArray⟩ ⟨#[39]⟩ W (by rw [size_toArray]; unfold Lib.trimPrefix; split <;> (try rw [List.length_drop]) <;> rw [← Lib.size_eq] <;> omega)
  have h3 := fun W (hE : Env W) => replace_any ⟨(Lib.trimSuffix (Lib.trimPrefix s.data.toList [39]) [39]).toArray⟩ ⟨#[39, 39]⟩ ⟨#[39]⟩ W hE (by
    rw [size_toArray]
    have e1 : (Lib.trimPrefix s.data.toList [39]).length ≤ s.size := by unfold Lib.trimPrefix; split <;> (try rw [List.length_drop]) <;> rw [← Lib.size_eq] <;> omega
    have e2 : (Lib.trimSuffix (Lib.trimPrefix s.data.toList [39]) [39]).length ≤ (Lib.trimPrefix s.data.toList [39]).length := by
      unfold Lib.trimSuffix; split
      · rw [List.length_take]; omega
      · exact Nat.le_refl _
    omega) (by decide) (by decide)
  rw [show Lib.replaceAll (ByteArray.mk (Lib.trimSuffix (Lib.trimPrefix s.data.toList [39]) [39]).toArray).data.toList (ByteArray.mk #[39, 39]).data.toList (ByteArray.mk #[39]).data.toList = t from ht] at h3
  rw [show (ByteArray.mk (Lib.trimPrefix s.data.toList [39]).toArray).data.toList = Lib.trimPrefix s.data.toList [39] from rfl] at h2
  rw [show (ByteArray.mk #[39]).data.toList = [39] from rfl] at h1 h2
  generalize Lib.trimSuffix (Lib.trimPrefix s.data.toList [39]) [39] = u2 at *
  generalize Lib.trimPrefix s.data.toList [39] = u1 at *
  have h4 := fun W (hE : Env W) => quoted_any ⟨t.toArray⟩ W hE (by rw [size_toArray]; omega)
  have h5 := fun W => pPrn_any ⟨t.toArray⟩ W
  have h6 := fun W => pText_any ⟨t.toArray⟩ W
  have htl : (ByteArray.mk t.toArray).size ≤ 2097152 := by rw [size_toArray]; omega
  rw [show (ByteArray.mk t.toArray).data.toList = t from rfl] at h4 h5
  have oB : Own (w.alloc (.cells #[.int .i64 0, .int .i64 0, .string ⟨#[]⟩] 23)) w.heap.size 23 #[.int .i64 0, .int .i64 0, .string ⟨#[]⟩] := Own.new _ _ _
  have bW := (Below.refl w.heap.size w).alloc (Nat.le_refl _) (.cells #[.int .i64 0, .int .i64 0, .string ⟨#[]⟩] 23)
  have hE := h.step bW
  have sW : (w.alloc (.cells #[.int .i64 0, .int .i64 0, .string ⟨#[]⟩] 23)).heap.size = w.heap.size + 1 := by simp
  have j : (quo t == s.toList) = true := by rw [Lib.toList_data]; simpa using hq
  clear hq
  generalize quo t = qt at *
  rw [hp] at h5
  rw [nrm_text hn hp] at h6
  have hn2 : ((ByteArray.mk t.toArray).size : Int) ≤ 200 := by rw [size_toArray]; omega
  unfold vV at *
  go_enter Tryz.func53, Tryz.ntmps53
  go_wp2_with fail
  generalize w.alloc (.cells #[.int .i64 0, .int .i64 0, .string ⟨#[]⟩] 23) = W at *
  refine (h1 _).mono ?_
  rintro e w1 ⟨rfl, rfl⟩
  go_wp2_with fail
  refine (h2 _).mono ?_
  rintro e w1 ⟨rfl, rfl⟩
  go_wp2_with fail
  refine (h3 _ hE).mono ?_
  rintro e w1 ⟨rfl, hb1⟩
  have z1 := hb1.size
  have o1 := oB.below hb1 (by omega)
  have E1 := hE.step hb1
  have b1 := bW.trans (hb1.mono (by omega))
  clear h1 h2 h3 hE
  go_wp2_with fail
  refine (h4 _ E1).mono ?_
  rintro e w2 ⟨rfl, hb2⟩
  have z2 := hb2.size
  have o2 := o1.below hb2 (by omega)
  have b2 := b1.trans (hb2.mono (by omega))
  clear h4 E1
  go_wp2_with fail
  refine (h5 _).mono ?_
  rintro e w3 ⟨rfl, hb3⟩
  have z3 := hb3.size
  have o3 := o2.below hb3 (by omega)
  have b3 := b2.trans (hb3.mono (by omega))
  go_wp2_with fail
  refine (h6 _).mono ?_
  rintro e w4 ⟨rfl, hb4⟩
  have z4 := hb4.size
  have o4 := o3.below hb4 (by omega)
  have b4 := b3.trans (hb4.mono (by omega))
  have d0 := o4.cell 0; have e0 := o4.free 0; have d1 := o4.cell 1; have e1 := o4.free 1; have d2 := o4.cell 2; have e2 := o4.free 2; (try simp only [List.getElem?_toArray, List.getElem?_cons_zero, List.getElem?_cons_succ] at d0 d1 d2)
  go_wp2
  (try simp only [Exit.inBlock, Exit.then]); refine bodyPost_ret_by (results_cell_row2 (by rfl) _ _ (w.heap.size) _ (by rfl) (load_val (((o4.store 0 _).store 1 _).store 2 _))) ?_ ?_; (focus rfl); refine ⟨rfl, ?_⟩
  (repeat' (first | (with_reducible exact Below.refl _ _) | (with_reducible assumption) | (with_reducible refine Below.alloc ?_ ?_ _) | (with_reducible refine Below.drew ?_) | (with_reducible refine Below.setCell ?_ ?_ _) | (with_reducible refine Below.trans ?_ (Below.mono (by assumption) ?_)) | go_size))
end Go.Proofs.YthjnkekkjjcnfaaGreatDoor
