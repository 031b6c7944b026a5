/-
  Values: reading and writing literals: what the program answers. Conditions: the tables lie as the rows say.
-/
import Derived.Test.YthjnkekkjjcnfaaGreatDoorVaI
import Derived.WalkKit
import Derived.WalkSpells
import Derived.WalkLawsBesides
import Derived.Deep.QuietTactic
import Derived.BigQuiet
import Derived.Handy
import Derived.Lib.Hide
namespace Go.Proofs.YthjnkekkjjcnfaaGreatDoor
open Go.RowKit

/-- What is read: kind, integer, text, error. -/
def numP (s : List UInt8) : Int × Int × List UInt8 × Int := if numG s then (if -1125899906842624 ≤ sgnV s ∧ sgnV s ≤ 1125899906842624 then (1, sgnV s, [], 0) else (0, 0, [], 6)) else (0, 0, [], 1)
def texP (s : List UInt8) : Int × Int × List UInt8 × Int := if quo (innT s) = s ∧ prnL (innT s) = true then (if 200 < (innT s).length then (0, 0, [], 5) else (2, 0, innT s, 0)) else (0, 0, [], 1)
def sNull : List UInt8 := [78, 85, 76, 76]
def sTrue : List UInt8 := [84, 82, 85, 69]
def sFalse : List UInt8 := [70, 65, 76, 83, 69]
def parP (s : List UInt8) : Int × Int × List UInt8 × Int :=
  if s = sNull then (0, 0, [], 0) else if s = sTrue then (3, 1, [], 0) else if s = sFalse then (3, 0, [], 0) else if Lib.hasPrefix s [39] then texP s else numP s
/-- A value and an error. -/
def resV (r : Int × Int × List UInt8 × Int) : Value := .tuple #[vV r.1 r.2.1 ⟨r.2.2.1.toArray⟩, .int .i64 r.2.2.2]
theorem pNumber_any (s : ByteArray) (w : World) (h : Env w) (hs : s.size ≤ 281474976710656) :
    Calls Tryz.prog 54 #[.string s] w fun e w' => e = .returned (resV (numP s.data.toList)) ∧ Below w.heap.size w w' := by
  unfold numP
  cases hg : numG s.data.toList
  · exact pNumber_no s w h hs hg
  · by_cases hr : -1125899906842624 ≤ sgnV s.data.toList ∧ sgnV s.data.toList ≤ 1125899906842624
    · rw [if_pos rfl, if_pos hr]; exact pNumber_ok s w h hs _ hg rfl hr
    · rw [if_pos rfl, if_neg hr]; exact pNumber_range s w h hs _ hg rfl hr
theorem pTexts_any (s : ByteArray) (w : World) (h : Env w) (hs : s.size ≤ 2097152) :
    Calls Tryz.prog 53 #[.string s] w fun e w' => e = .returned (resV (texP s.data.toList)) ∧ Below w.heap.size w w' := by
  unfold texP
  by_cases hq : quo (innT s.data.toList) = s.data.toList
  · cases hp : prnL (innT s.data.toList)
    · rw [if_neg (fun hh => by cases hh.2)]; exact pTexts_p s w h hs _ rfl hq hp
    · rw [if_pos ⟨hq, rfl⟩]
      by_cases hn : 200 < (innT s.data.toList).length
      · rw [if_pos hn]; exact pTexts_l s w h hs _ rfl hq hp hn
      · rw [if_neg hn]; exact pTexts_ok s w h hs _ rfl hq hp hn
  · rw [if_neg (fun hh => hq hh.1)]; exact pTexts_q s w h hs _ rfl hq
set_option maxRecDepth 100000 in
set_option maxHeartbeats 1600000 in
theorem pParse_any (s : ByteArray) (w : World) (h : Env w) (hs : s.size ≤ 2097152) :
    Calls Tryz.prog 37 #[.string s] w fun e w' => e = .returned (resV (parP s.data.toList)) ∧ Below w.heap.size w w' := by
  have hN := fun W => pNull_any W
  have hB := fun b W => pBool_any b W
  have h1 := fun W => Tryz.strings_HasPrefix s ⟨#[39]⟩ W
  have hX := fun W (hE : Env W) => pTexts_any s W hE hs
  have hY := fun W (hE : Env W) => pNumber_any s W hE (by omega)
  have oB : Own (w.alloc (.cells #[.int .i64 0, .int .i64 0, .string ⟨#[]⟩] 23)) w.heap.size 23 #[.int .i64 0, .int .i64 0, .string ⟨#[]⟩] := Own.new _ _ _
  have bW := (Below.refl w.heap.size w).alloc (Nat.le_refl _) (.cells #[.int .i64 0, .int .i64 0, .string ⟨#[]⟩] 23)
  have hE := h.step bW
  have sW : (w.alloc (.cells #[.int .i64 0, .int .i64 0, .string ⟨#[]⟩] 23)).heap.size = w.heap.size + 1 := by simp
  have ed : s.toList = s.data.toList := Lib.toList_data s
  unfold parP
  by_cases c1 : s.data.toList = sNull
  · rw [if_pos c1]
    have j1 : (s.toList == [78, 85, 76, 76]) = true := by rw [ed, c1]; rfl
    clear c1 ed hX hY hB
    unfold resV vV at *
    go_enter Tryz.func37, Tryz.ntmps37
    go_wp2_with fail
    generalize w.alloc (.cells #[.int .i64 0, .int .i64 0, .string ⟨#[]⟩] 23) = W at *
    refine (hN _).mono ?_
    rintro e w1 ⟨rfl, hb1⟩
    have z1 := hb1.size
    have o1 := oB.below hb1 (by omega)
    have b1 := bW.trans (hb1.mono (by omega))
    have d0 := o1.cell 0; have e0 := o1.free 0; have d1 := o1.cell 1; have e1 := o1.free 1; have d2 := o1.cell 2; have e2 := o1.free 2; (try simp only [List.getElem?_toArray, List.getElem?_cons_zero, List.getElem?_cons_succ] at d0 d1 d2)
    go_wp2
    (try simp only [Exit.inBlock, Exit.then]); refine bodyPost_ret_by (results_cell_row2 (by rfl) _ _ (w.heap.size) _ (by rfl) (load_val (((o1.store 0 _).store 1 _).store 2 _))) ?_ ?_; (focus rfl); refine ⟨rfl, ?_⟩
    (repeat' (first | (with_reducible exact Below.refl _ _) | (with_reducible assumption) | (with_reducible refine Below.alloc ?_ ?_ _) | (with_reducible refine Below.drew ?_) | (with_reducible refine Below.setCell ?_ ?_ _) | (with_reducible refine Below.trans ?_ (Below.mono (by assumption) ?_)) | go_size))
  rw [if_neg c1]
  have j1 : (s.toList == [78, 85, 76, 76]) = false := by rw [ed, beq_eq_false_iff_ne]; exact c1
  clear c1
  by_cases c2 : s.data.toList = sTrue
  · rw [if_pos c2]
    have j2 : (s.toList == [84, 82, 85, 69]) = true := by rw [ed, c2]; rfl
    clear c2 ed hX hY hN
    have hB2 : ∀ W, Calls Tryz.prog 18 #[.bool true] W fun e w' => e = .returned (.agg #[.int .i64 3, .int .i64 1, .string ⟨#[]⟩]) ∧ Below W.heap.size W w' := fun W => hB true W
    unfold resV vV
    go_enter Tryz.func37, Tryz.ntmps37
    go_wp2_with fail
    generalize w.alloc (.cells #[.int .i64 0, .int .i64 0, .string ⟨#[]⟩] 23) = W at *
    refine (hB2 _).mono ?_
    rintro e w1 ⟨rfl, hb1⟩
    have z1 := hb1.size
    have o1 := oB.below hb1 (by omega)
    have b1 := bW.trans (hb1.mono (by omega))
    have d0 := o1.cell 0; have e0 := o1.free 0; have d1 := o1.cell 1; have e1 := o1.free 1; have d2 := o1.cell 2; have e2 := o1.free 2; (try simp only [List.getElem?_toArray, List.getElem?_cons_zero, List.getElem?_cons_succ] at d0 d1 d2)
    go_wp2
    (try simp only [Exit.inBlock, Exit.then]); refine bodyPost_ret_by (results_cell_row2 (by rfl) _ _ (w.heap.size) _ (by rfl) (load_val (((o1.store 0 _).store 1 _).store 2 _))) ?_ ?_; (focus rfl); refine ⟨rfl, ?_⟩
    (repeat' (first | (with_reducible exact Below.refl _ _) | (with_reducible assumption) | (with_reducible refine Below.alloc ?_ ?_ _) | (with_reducible refine Below.drew ?_) | (with_reducible refine Below.setCell ?_ ?_ _) | (with_reducible refine Below.trans ?_ (Below.mono (by assumption) ?_)) | go_size))
  rw [if_neg c2]
  have j2 : (s.toList == [84, 82, 85, 69]) = false := by rw [ed, beq_eq_false_iff_ne]; exact c2
  clear c2
  by_cases c3 : s.data.toList = sFalse
  · rw [if_pos c3]
    have j2 : (s.toList == [70, 65, 76, 83, 69]) = true := by rw [ed, c3]; rfl
    clear c3 ed hX hY hN
    have hB2 : ∀ W, Calls Tryz.prog 18 #[.bool false] W fun e w' => e = .returned (.agg #[.int .i64 3, .int .i64 0, .string ⟨#[]⟩]) ∧ Below W.heap.size W w' := fun W => hB false W
    unfold resV vV
    go_enter Tryz.func37, Tryz.ntmps37
    go_wp2_with fail
    generalize w.alloc (.cells #[.int .i64 0, .int .i64 0, .string ⟨#[]⟩] 23) = W at *
    refine (hB2 _).mono ?_
    rintro e w1 ⟨rfl, hb1⟩
    have z1 := hb1.size
    have o1 := oB.below hb1 (by omega)
    have b1 := bW.trans (hb1.mono (by omega))
    have d0 := o1.cell 0; have e0 := o1.free 0; have d1 := o1.cell 1; have e1 := o1.free 1; have d2 := o1.cell 2; have e2 := o1.free 2; (try simp only [List.getElem?_toArray, List.getElem?_cons_zero, List.getElem?_cons_succ] at d0 d1 d2)
    go_wp2
    (try simp only [Exit.inBlock, Exit.then]); refine bodyPost_ret_by (results_cell_row2 (by rfl) _ _ (w.heap.size) _ (by rfl) (load_val (((o1.store 0 _).store 1 _).store 2 _))) ?_ ?_; (focus rfl); refine ⟨rfl, ?_⟩
    (repeat' (first | (with_reducible exact Below.refl _ _) | (with_reducible assumption) | (with_reducible refine Below.alloc ?_ ?_ _) | (with_reducible refine Below.drew ?_) | (with_reducible refine Below.setCell ?_ ?_ _) | (with_reducible refine Below.trans ?_ (Below.mono (by assumption) ?_)) | go_size))
  rw [if_neg c3]
  have j3 : (s.toList == [70, 65, 76, 83, 69]) = false := by rw [ed, beq_eq_false_iff_ne]; exact c3
  clear c3
  clear hN hB ed
  rw [show (ByteArray.mk #[39]).data.toList = [39] from rfl] at h1
  cases c4 : Lib.hasPrefix s.data.toList [39] <;> rw [c4] at h1
  · rw [if_neg (by simp)]
    generalize numP s.data.toList = r at *
    obtain ⟨k, n, t, er⟩ := r
    clear c4 hX
    unfold resV vV at *
    go_enter Tryz.func37, Tryz.ntmps37
    go_wp2_with fail
    generalize w.alloc (.cells #[.int .i64 0, .int .i64 0, .string ⟨#[]⟩] 23) = W at *
    refine (h1 _).mono ?_
    rintro e w1 ⟨rfl, rfl⟩
    go_wp2_with fail
    refine (hY _ hE).mono ?_
    rintro e w1 ⟨rfl, hb1⟩
    have z1 := hb1.size
    have o1 := oB.below hb1 (by omega)
    have b1 := bW.trans (hb1.mono (by omega))
    have d0 := o1.cell 0; have e0 := o1.free 0; have d1 := o1.cell 1; have e1 := o1.free 1; have d2 := o1.cell 2; have e2 := o1.free 2; (try simp only [List.getElem?_toArray, List.getElem?_cons_zero, List.getElem?_cons_succ] at d0 d1 d2)
    go_wp2
    (try simp only [Exit.inBlock, Exit.then]); refine bodyPost_ret_by (results_cell_row2 (by rfl) _ _ (w.heap.size) _ (by rfl) (load_val (((o1.store 0 _).store 1 _).store 2 _))) ?_ ?_; (focus rfl); refine ⟨rfl, ?_⟩
    (repeat' (first | (with_reducible exact Below.refl _ _) | (with_reducible assumption) | (with_reducible refine Below.alloc ?_ ?_ _) | (with_reducible refine Below.drew ?_) | (with_reducible refine Below.setCell ?_ ?_ _) | (with_reducible refine Below.trans ?_ (Below.mono (by assumption) ?_)) | go_size))
  · rw [if_pos rfl]
    generalize texP s.data.toList = r at *
    obtain ⟨k, n, t, er⟩ := r
    clear c4 hY
    unfold resV vV at *
    go_enter Tryz.func37, Tryz.ntmps37
    go_wp2_with fail
    generalize w.alloc (.cells #[.int .i64 0, .int .i64 0, .string ⟨#[]⟩] 23) = W at *
    refine (h1 _).mono ?_
    rintro e w1 ⟨rfl, rfl⟩
    go_wp2_with fail
    refine (hX _ hE).mono ?_
    rintro e w1 ⟨rfl, hb1⟩
    have z1 := hb1.size
    have o1 := oB.below hb1 (by omega)
    have b1 := bW.trans (hb1.mono (by omega))
    have d0 := o1.cell 0; have e0 := o1.free 0; have d1 := o1.cell 1; have e1 := o1.free 1; have d2 := o1.cell 2; have e2 := o1.free 2; (try simp only [List.getElem?_toArray, List.getElem?_cons_zero, List.getElem?_cons_succ] at d0 d1 d2)
    go_wp2
    (try simp only [Exit.inBlock, Exit.then]); refine bodyPost_ret_by (results_cell_row2 (by rfl) _ _ (w.heap.size) _ (by rfl) (load_val (((o1.store 0 _).store 1 _).store 2 _))) ?_ ?_; (focus rfl); refine ⟨rfl, ?_⟩
    (repeat' (first | (with_reducible exact Below.refl _ _) | (with_reducible assumption) | (with_reducible refine Below.alloc ?_ ?_ _) | (with_reducible refine Below.drew ?_) | (with_reducible refine Below.setCell ?_ ?_ _) | (with_reducible refine Below.trans ?_ (Below.mono (by assumption) ?_)) | go_size))
end Go.Proofs.YthjnkekkjjcnfaaGreatDoor
