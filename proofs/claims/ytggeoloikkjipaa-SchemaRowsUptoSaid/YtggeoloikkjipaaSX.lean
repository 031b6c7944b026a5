import Derived.Test.YtggeoloikkjipaaSA
import Derived.Lib.IndexMore
import Derived.WalkKit
import Derived.WalkSpells
import Derived.WalkLawsBesides
import Derived.Deep.QuietTactic
import Derived.BigQuiet
import Derived.Handy
import Derived.Lib.Hide
/-
  The words of the reference; that a name stands between blanks in the text of the keywords just where it is a word. Conditions: none.
-/
namespace Go.Proofs.Ytggeoloikkjipaa
set_option linter.unusedVariables false
set_option linter.unusedSimpArgs false
set_option linter.unusedVariables false
set_option linter.unusedSimpArgs false
set_option linter.unusedVariables false
set_option linter.unusedSimpArgs false
set_option linter.unusedVariables false
set_option linter.unusedSimpArgs false
set_option maxRecDepth 100000
open Go.RowKit

def wordsL : List (List UInt8) := [[97, 100, 100], [97, 102, 116, 101, 114], [97, 108, 108], [97, 108, 116, 101, 114], [97, 110, 100], [97, 115], [98, 101, 102, 111, 114, 101], [98, 101, 103, 105, 110], [98, 101, 116, 119, 101, 101, 110], [98, 111, 111, 108], [98, 121], [99, 104, 101, 99, 107], [99, 111, 97, 108, 101, 115, 99, 101], [99, 111, 109, 109, 105, 116], [99, 111, 110, 116, 97, 105, 110, 115], [99, 111, 117, 110, 116], [99, 114, 101, 97, 116, 101], [100, 101, 102, 97, 117, 108, 116], [100, 101, 108, 101, 116, 101], [100, 101, 115, 99], [100, 105, 115, 116, 105, 110, 99, 116], [100, 114, 111, 112], [100, 117, 114, 105, 110, 103], [101, 113, 117, 97, 108, 115], [101, 120, 99, 101, 112, 116], [102, 97, 108, 115, 101], [102, 105, 110, 105, 115, 104, 101, 100, 98, 121], [102, 105, 110, 105, 115, 104, 101, 115], [102, 111, 114, 101, 105, 103, 110], [102, 111, 114, 101, 118, 101, 114], [102, 114, 111, 109], [103, 114, 111, 117, 112], [104, 111, 108, 100], [105, 102], [105, 110, 115, 101, 114, 116], [105, 110, 116], [105, 110, 116, 101, 114, 115, 101, 99, 116], [105, 110, 116, 111], [105, 115], [106, 111, 105, 110], [107, 101, 121], [108, 101, 102, 116], [108, 101, 110, 103, 116, 104], [108, 105, 109, 105, 116], [109, 97, 120], [109, 101, 101, 116, 115], [109, 101, 116, 98, 121], [109, 105, 110], [110, 111, 110, 115, 101, 113, 117, 101, 110, 99, 101, 100], [110, 111, 116], [110, 111, 119], [110, 117, 108, 108], [111, 102], [111, 110], [111, 114], [111, 114, 100, 101, 114], [111, 118, 101, 114, 108, 97, 112, 112, 101, 100, 98, 121], [111, 118, 101, 114, 108, 97, 112, 115], [112, 114, 105, 109, 97, 114, 121], [112, 114, 117, 110, 101], [114, 101, 102, 101, 114, 101, 110, 99, 101, 115], [114, 101, 108, 101, 97, 115, 101], [114, 101, 110, 97, 109, 101], [114, 101, 116, 97, 105, 110], [114, 111, 108, 108, 98, 97, 99, 107], [115, 101, 108, 101, 99, 116], [115, 101, 113, 117, 101, 110, 99, 101, 100], [115, 101, 116], [115, 116, 97, 114, 116, 101, 100, 98, 121], [115, 116, 97, 114, 116, 115], [115, 117, 109], [115, 121, 115, 116, 101, 109], [115, 121, 115, 116, 101, 109, 102, 114, 111, 109], [115, 121, 115, 116, 101, 109, 116, 111], [116, 97, 98, 108, 101], [116, 101, 120, 116], [116, 111], [116, 114, 117, 101], [116, 120], [117, 110, 100, 101, 114], [117, 110, 105, 111, 110], [117, 112, 100, 97, 116, 101], [118, 97, 108, 105, 100], [118, 97, 108, 105, 100, 102, 114, 111, 109], [118, 97, 108, 105, 100, 116, 111], [118, 97, 108, 117, 101, 115], [119, 104, 101, 114, 101]]
def blanked (ws : List (List UInt8)) : List UInt8 := 32 :: ws.flatMap (fun x => x ++ [32])
theorem kw_blanked : kwL = blanked wordsL := by decide +kernel
theorem words_plain : wordsL.all (fun x => x.all (fun b => decide (b ≠ 32))) = true := by decide +kernel
/-- A word and a blank at the head. -/
theorem head_word : ∀ (l x r : List UInt8), (∀ b ∈ l, b ≠ 32) → (∀ b ∈ x, b ≠ 32) → ((l ++ [32]) <+: (x ++ 32 :: r)) → l = x
  | [], [], _, _, _, _ => rfl
  | [], b :: x, r, _, hx, h => by
    obtain ⟨t, ht⟩ := h
    injection ht with h1 _
    exact absurd h1.symm (hx b (List.mem_cons_self ..))
  | a :: l, [], r, hl, _, h => by
    obtain ⟨t, ht⟩ := h
    injection ht with h1 _
    exact absurd h1 (hl a (List.mem_cons_self ..))
  | a :: l, b :: x, r, hl, hx, h => by
    obtain ⟨t, ht⟩ := h
    injection ht with h1 h2
    rw [h1, head_word l x r (fun c hc => hl c (List.mem_cons_of_mem _ hc)) (fun c hc => hx c (List.mem_cons_of_mem _ hc)) ⟨t, h2⟩]
/-- What begins with a blank lies behind a word. -/
theorem past_word (l : List UInt8) : ∀ (x r : List UInt8), (∀ b ∈ x, b ≠ 32) → (32 :: l) <:+: (x ++ 32 :: r) → (32 :: l) <:+: (32 :: r)
  | [], _, _, h => h
  | b :: x, r, hx, h => by
    refine past_word l x r (fun c hc => hx c (List.mem_cons_of_mem _ hc)) ?_
    rcases List.infix_cons_iff.1 h with ⟨t, ht⟩ | h
    · injection ht with h1 _
      exact absurd h1.symm (hx b (List.mem_cons_self ..))
    · exact h
theorem blanked_iff (l : List UInt8) (hl : ∀ b ∈ l, b ≠ 32) (h0 : l ≠ []) : ∀ ws : List (List UInt8), (∀ x ∈ ws, ∀ b ∈ x, b ≠ 32) → ((32 :: (l ++ [32])) <:+: blanked ws ↔ l ∈ ws)
  | [], _ => by
    constructor
    · intro h
      have := h.length_le
      simp [blanked] at this
    · intro h; cases h
  | x :: ws, hw => by
    have hx := hw x (List.mem_cons_self ..)
    have ih := blanked_iff l hl h0 ws (fun y hy => hw y (List.mem_cons_of_mem _ hy))
    have e : blanked (x :: ws) = 32 :: (x ++ blanked ws) := by
      unfold blanked
      rw [List.flatMap_cons, List.append_assoc]
      rfl
    rw [e]
    constructor
    · intro h
      rcases List.infix_cons_iff.1 h with ⟨t, ht⟩ | h
      · injection ht with _ h2
        have q := head_word l x (ws.flatMap (fun x => x ++ [32])) hl hx ⟨t, h2⟩
        rw [q]
        exact List.mem_cons_self ..
      · exact List.mem_cons_of_mem _ (ih.1 (past_word _ x _ hx h))
    · intro h
      rcases List.mem_cons.1 h with rfl | h
      · refine ⟨[], ws.flatMap (fun x => x ++ [32]), ?_⟩
        unfold blanked
        simp
      · obtain ⟨a, b, hab⟩ := ih.2 h
        exact ⟨32 :: (x ++ a), b, by rw [← hab]; simp⟩
theorem occ_infix (s sub : List UInt8) : Lib.contains s sub = true ↔ sub <:+: s := by
  unfold Lib.contains
  rw [decide_eq_true_iff]
  rcases Lib.index_spec s sub with ⟨h1, h2⟩ | ⟨i, h1, h2, h3, _⟩
  · constructor
    · intro h; omega
    · rintro ⟨a, b, rfl⟩
      have h := h2 a.length (by simp)
      unfold Lib.occAt at h
      rw [List.append_assoc, List.drop_left, Bool.eq_false_iff] at h
      exact absurd (List.isPrefixOf_iff_prefix.2 (List.prefix_append sub b)) h
  · refine ⟨fun _ => ?_, fun _ => by omega⟩
    unfold Lib.occAt at h3
    exact (List.isPrefixOf_iff_prefix.1 h3).isInfix.trans (List.drop_suffix i s).isInfix
theorem kw_word (l : List UInt8) (hl : l.all okcB = true) (h0 : l ≠ []) : Lib.contains kwL ([32] ++ l ++ [32]) = decide (l ∈ wordsL) := by
  rw [Bool.eq_iff_iff, occ_infix, decide_eq_true_iff, kw_blanked]
  refine blanked_iff l (fun b hb e => ?_) h0 wordsL (fun x hx b hb e => ?_)
  · have h := List.all_eq_true.1 hl b hb
    rw [e] at h
    revert h
    decide
  · have h := List.all_eq_true.1 (List.all_eq_true.1 words_plain x hx) b hb
    rw [e] at h
    revert h
    decide
end Go.Proofs.Ytggeoloikkjipaa
/-
  The reference's Words, in and Name: what they answer. Conditions: none.
-/
namespace Go.Proofs.Ytggeoloikkjipaa
set_option linter.unusedVariables false
set_option linter.unusedSimpArgs false
set_option linter.unusedVariables false
set_option linter.unusedSimpArgs false
set_option linter.unusedVariables false
set_option linter.unusedSimpArgs false
set_option linter.unusedVariables false
set_option linter.unusedSimpArgs false
set_option maxRecDepth 100000
open Go.RowKit

def strV (l : List UInt8) : Value := .string ⟨l.toArray⟩
set_option maxRecDepth 100000 in
set_option maxHeartbeats 3200000 in
theorem words_any (w : World) : Calls Try.prog 68 #[] w fun e w' => e = .returned (.slice (some ⟨w.heap.size, 0, none⟩) 87 87) ∧ Own w' w.heap.size 9 (wordsL.map strV).toArray ∧ Below w.heap.size w w' := by
  go_enter Try.func68, Try.ntmps68
  go_wp2
  go_ret
  refine ⟨rfl, ?_, bel_mark w _⟩
  exact Own.new w _ _
set_option maxRecDepth 100000 in
set_option maxHeartbeats 3200000 in
theorem in_any (g : Nat) (ws : List (List UInt8)) (s : ByteArray) (w : World) (hl : ws.length ≤ 9223372036854775807) (ho : Own w g 9 (ws.map strV).toArray) :
    Calls Try.prog 67 #[.slice (some ⟨g, 0, none⟩) ws.length ws.length, .string s] w fun e w' => e = .returned (.bool (decide (s.data.toList ∈ ws))) ∧ Below w.heap.size w w' := by
  have HO := Lib.hid ho
  have hg := ho.lt
  clear ho
  go_enter Try.func67, Try.ntmps67
  go_wp2
  go_loopw [5] (fun i wr => ∃ k : Nat, k ≤ ws.length ∧ i = .int .i64 k ∧ Hid (decide (s.data.toList ∈ ws) = decide (s.data.toList ∈ ws.drop k)) ∧ Below w.heap.size w wr) (fun i _ => ws.length - (intOf i).toNat)
  case atStart => exact ⟨0, Nat.zero_le _, rfl, Lib.hid rfl, Below.refl _ _⟩
  case round =>
    obtain ⟨k, hk, rfl, HR, hbr⟩ := hrel
    have hbz := hbr.size
    by_cases hlt : k < ws.length
    · have hki : (k : Int) < ws.length := by omega
      have hcd : decide (s.data.toList ∈ ws) = (decide (s.data.toList = ws[k]) || decide (s.data.toList ∈ ws.drop (k + 1))) := by
        rw [HR.out, List.drop_eq_getElem_cons hlt, ← Bool.decide_or]
        exact decide_eq_decide.2 List.mem_cons
      have d0 : wr.cell? ⟨g, k, none⟩ = some (strV ws[k]) := ((HO.out.below hbr hg).cell k).trans (by simp [hlt])
      generalize ws[k] = q at *
      unfold strV at d0
      have HCD := Lib.hid hcd
      clear hcd
      by_cases hq : s.data.toList = q
      · have e0 : (q == s.toList) = true := by rw [Lib.toList_data, beq_iff_eq, hq]
        have e1 : ((⟨q.toArray⟩ : ByteArray).toList == s.toList) = true := by rw [Lib.toList_data, Lib.toList_data, beq_iff_eq, hq]
        have HF := Lib.hid (show decide (s.data.toList ∈ ws) = true by rw [HCD.out, decide_eq_true hq]; rfl)
        clear hq
        go_wp2
        go_ret
        exact ⟨by rw [HF.out]; rfl, hbr⟩
      · have e0 : (q == s.toList) = false := by rw [Lib.toList_data, beq_eq_false_iff_ne]; exact fun e => hq e.symm
        have e1 : ((⟨q.toArray⟩ : ByteArray).toList == s.toList) = false := by rw [Lib.toList_data, Lib.toList_data, beq_eq_false_iff_ne]; exact fun e => hq e.symm
        have HF := Lib.hid (show decide (s.data.toList ∈ ws) = decide (s.data.toList ∈ ws.drop (k + 1)) by rw [HCD.out, decide_eq_false hq]; rfl)
        clear hq
        go_wp2
        go_roundw
        case rel => exact ⟨k + 1, by omega, by go_num, HF, hbr⟩
        case measure => simp [intOf]; omega
    · have hki : ¬ (k : Int) < ws.length := by omega
      have HF := Lib.hid (show decide (s.data.toList ∈ ws) = false by rw [HR.out, List.drop_eq_nil_of_le (show ws.length ≤ k by omega)]; rfl)
      go_wp2
      go_ret
      exact ⟨by rw [HF.out]; rfl, hbr⟩
end Go.Proofs.Ytggeoloikkjipaa
/-
  The reference's Name: what it answers. Conditions: none.
-/
namespace Go.Proofs.Ytggeoloikkjipaa
set_option linter.unusedVariables false
set_option linter.unusedSimpArgs false
set_option linter.unusedVariables false
set_option linter.unusedSimpArgs false
set_option linter.unusedVariables false
set_option linter.unusedSimpArgs false
set_option linter.unusedVariables false
set_option linter.unusedSimpArgs false
set_option maxRecDepth 100000
open Go.RowKit

set_option maxRecDepth 100000 in
set_option maxHeartbeats 6400000 in
theorem rName_any (s : ByteArray) (w : World) : Calls Try.prog 21 #[.string s] w fun e w' => e = .returned (.bool (nameS s.data.toList)) ∧ Below w.heap.size w w' := by
  have hls := size_list s
  by_cases h0 : s.size = 0
  · have he : s.toList.isEmpty = true := by rw [Lib.toList_data]; rw [List.isEmpty_iff]; exact List.eq_nil_of_length_eq_zero (by omega)
    have HF := Lib.hid (show nameS s.data.toList = false by unfold nameS; rw [show decide (0 < s.data.toList.length) = false from decide_eq_false (by omega)]; rfl)
    clear hls h0
    go_enter Try.func21, Try.ntmps21
    go_wp2
    go_ret
    exact ⟨by rw [HF.out]; rfl, Below.refl _ _⟩
  have hne : s.data.toList ≠ [] := fun h => by rw [h] at hls; exact h0 hls.symm
  have he : s.toList.isEmpty = false := by rw [Lib.toList_data]; rw [Bool.eq_false_iff]; intro h; rw [List.isEmpty_iff] at h; exact hne h
  by_cases h1 : 24 < s.size
  · have h1i : (24 : Int) < (s.size : Int) := by omega
    have HF := Lib.hid (show nameS s.data.toList = false by unfold nameS; rw [show decide (s.data.toList.length ≤ 24) = false from decide_eq_false (by omega)]; rw [Bool.and_false]; rfl)
    clear hls h0 h1 hne
    go_enter Try.func21, Try.ntmps21
    go_wp2
    go_ret
    exact ⟨by rw [HF.out]; rfl, Below.refl _ _⟩
  have h1i : ¬ (24 : Int) < (s.size : Int) := by omega
  have hp : 0 < s.size := by omega
  have hpi : (0 : Int) < s.size := by omega
  have hg0 : s.data.toList.getD 0 0 = s[0]'hp := by rw [List.getD_eq_getElem?_getD, getS_list s 0 hp]; rfl
  have HN := Lib.hid (show nameS s.data.toList = (!(digB (s[0]'hp)) && s.data.toList.all okcB && !(Lib.contains kwL ([32] ++ s.data.toList ++ [32]))) by
    unfold nameS
    rw [hg0, show decide (0 < s.data.toList.length) = true from decide_eq_true (by omega), show decide (s.data.toList.length ≤ 24) = true from decide_eq_true (by omega), Bool.true_and, Bool.true_and])
  have HD := Lib.hid (show digB (s[0]'hp) = (decide (48 ≤ (s[0]'hp).toNat) && decide ((s[0]'hp).toNat ≤ 57)) from rfl)
  have HNE := Lib.hid hne
  clear hg0 hne
  by_cases g1 : 48 ≤ (s[0]'hp).toNat
  · have g1i : (48 : Int) ≤ ((s[0]'hp).toNat : Int) := by omega
    by_cases g2 : (s[0]'hp).toNat ≤ 57
    · have g2i : ((s[0]'hp).toNat : Int) ≤ 57 := by omega
      have HF := Lib.hid (show nameS s.data.toList = false by rw [HN.out, HD.out, decide_eq_true g1, decide_eq_true g2]; rfl)
      clear g1 g2
      go_enter Try.func21, Try.ntmps21
      go_wp2
      go_ret
      exact ⟨by rw [HF.out]; rfl, Below.refl _ _⟩
    · have g2i : ¬ ((s[0]'hp).toNat : Int) ≤ 57 := by omega
      have HDG := Lib.hid (show digB (s[0]'hp) = false by rw [HD.out]; simp only [Bool.and_eq_false_iff, decide_eq_false_iff_not]; omega)
      have HN2 := Lib.hid (show nameS s.data.toList = (s.data.toList.all okcB && !(Lib.contains kwL ([32] ++ s.data.toList ++ [32]))) by rw [HN.out, HDG.out]; rfl)
      go_enter Try.func21, Try.ntmps21
      go_wp2_with fail
      go_loopw [3] (fun i wr => ∃ k : Nat, k ≤ s.size ∧ i = .int .i64 k ∧ Hid ((s.data.toList.take k).all okcB = true) ∧ w = wr) (fun i _ => s.size - (intOf i).toNat)
      case atStart => exact ⟨0, Nat.zero_le _, rfl, Lib.hid rfl, rfl⟩
      case round =>
        obtain ⟨k, hk, rfl, HA, rfl⟩ := hrel
        by_cases hlt : k < s.size
        · have hki : (k : Int) < s.size := by omega
          have hgl := getS_list s k hlt
          have hno : okcB (s[k]'hlt) = false → nameS s.data.toList = false := fun h => by
            rw [HN2.out]
            have h2 : s.data.toList.all okcB = false := by
              rw [Bool.eq_false_iff]
              intro h3
              rw [List.all_eq_true] at h3
              have h4 := h3 _ (List.mem_of_getElem? hgl)
              rw [h] at h4
              cases h4
            rw [h2]
            rfl
          have hyes : okcB (s[k]'hlt) = true → (s.data.toList.take (k + 1)).all okcB = true := fun h => by
            rw [List.take_add_one, hgl, List.all_append, HA.out, Bool.true_and, Option.toList_some, List.all_cons, List.all_nil, Bool.and_true]
            exact h
          have hok : okcB (s[k]'hlt) = (((decide (48 ≤ (s[k]'hlt).toNat) && decide ((s[k]'hlt).toNat ≤ 57)) || (decide (97 ≤ (s[k]'hlt).toNat) && decide ((s[k]'hlt).toNat ≤ 122))) || decide ((s[k]'hlt).toNat = 95)) := rfl
          rw [hok] at hno hyes
          have HNO := Lib.hid hno
          have HYES := Lib.hid hyes
          clear hgl hno hyes hok
          generalize hbn : ((s[k]'hlt).toNat) = bn at *
          by_cases a1 : 97 ≤ bn
          · have a1i : (97 : Int) ≤ (bn : Int) := by omega
            by_cases a2 : bn ≤ 122
            · have a2i : (bn : Int) ≤ 122 := by omega
              have HY := Lib.hid (HYES.out (by simp [a1, a2]))
              clear a1 a2
              go_wp2
              go_roundw
              case rel => exact ⟨k + 1, by omega, by go_num, HY, trivial⟩
              case measure => simp [intOf]; omega
            · have a2i : ¬ (bn : Int) ≤ 122 := by omega
              have a3i : (48 : Int) ≤ (bn : Int) := by omega
              have a4i : ¬ (bn : Int) ≤ 57 := by omega
              have a5i : ((bn : Int) == 95) = false := by rw [beq_eq_false_iff_ne]; omega
              have HF := Lib.hid (HNO.out (by simp; omega))
              clear a1 a2
              go_wp2
              go_ret
              exact ⟨by rw [HF.out]; rfl, Below.refl _ _⟩
          · have a1i : ¬ (97 : Int) ≤ (bn : Int) := by omega
            by_cases a3 : 48 ≤ bn
            · have a3i : (48 : Int) ≤ (bn : Int) := by omega
              by_cases a4 : bn ≤ 57
              · have a4i : (bn : Int) ≤ 57 := by omega
                have HY := Lib.hid (HYES.out (by simp [a3, a4]))
                clear a1 a3 a4
                go_wp2
                go_roundw
                case rel => exact ⟨k + 1, by omega, by go_num, HY, trivial⟩
                case measure => simp [intOf]; omega
              · have a4i : ¬ (bn : Int) ≤ 57 := by omega
                by_cases a5 : bn = 95
                · have a5i : ((bn : Int) == 95) = true := by rw [beq_iff_eq]; omega
                  have HY := Lib.hid (HYES.out (by simp [a5]))
                  clear a1 a3 a4 a5
                  go_wp2
                  go_roundw
                  case rel => exact ⟨k + 1, by omega, by go_num, HY, trivial⟩
                  case measure => simp [intOf]; omega
                · have a5i : ((bn : Int) == 95) = false := by rw [beq_eq_false_iff_ne]; omega
                  have HF := Lib.hid (HNO.out (by simp; omega))
                  clear a1 a3 a4 a5
                  go_wp2
                  go_ret
                  exact ⟨by rw [HF.out]; rfl, Below.refl _ _⟩
            · have a3i : ¬ (48 : Int) ≤ (bn : Int) := by omega
              have a5i : ((bn : Int) == 95) = false := by rw [beq_eq_false_iff_ne]; omega
              have HF := Lib.hid (HNO.out (by simp; omega))
              clear a1 a3
              go_wp2
              go_ret
              exact ⟨by rw [HF.out]; rfl, Below.refl _ _⟩
        · have hki : ¬ (k : Int) < s.size := by omega
          have HAL := Lib.hid (show s.data.toList.all okcB = true by have h := HA.out; rw [List.take_of_length_le (by omega)] at h; exact h)
          have HF := Lib.hid (show nameS s.data.toList = !(decide (s.data.toList ∈ wordsL)) by rw [HN2.out, HAL.out, kw_word _ HAL.out HNE.out]; rfl)
          have HW := Lib.hid (words_any w)
          go_wp2_with fail
          with_reducible refine HW.out.mono ?_
          rintro e w2 ⟨rfl, ho, hb2⟩
          have h3 := in_any w.heap.size wordsL s w2 (by decide +kernel) ho
          rw [show wordsL.length = 87 from by decide +kernel] at h3
          have HB2 := Lib.hid hb2
          clear HW ho hb2
          go_wp2_with fail
          with_reducible refine h3.mono ?_
          rintro e w3 ⟨rfl, hb3⟩
          go_wp2
          go_ret
          exact ⟨by rw [HF.out]; rfl, HB2.out.trans (hb3.mono HB2.out.size)⟩
  · have g1i : ¬ (48 : Int) ≤ ((s[0]'hp).toNat : Int) := by omega
    have HDG := Lib.hid (show digB (s[0]'hp) = false by rw [HD.out]; simp only [Bool.and_eq_false_iff, decide_eq_false_iff_not]; omega)
    have HN2 := Lib.hid (show nameS s.data.toList = (s.data.toList.all okcB && !(Lib.contains kwL ([32] ++ s.data.toList ++ [32]))) by rw [HN.out, HDG.out]; rfl)
    go_enter Try.func21, Try.ntmps21
    go_wp2_with fail
    go_loopw [3] (fun i wr => ∃ k : Nat, k ≤ s.size ∧ i = .int .i64 k ∧ Hid ((s.data.toList.take k).all okcB = true) ∧ w = wr) (fun i _ => s.size - (intOf i).toNat)
    case atStart => exact ⟨0, Nat.zero_le _, rfl, Lib.hid rfl, rfl⟩
    case round =>
      obtain ⟨k, hk, rfl, HA, rfl⟩ := hrel
      by_cases hlt : k < s.size
      · have hki : (k : Int) < s.size := by omega
        have hgl := getS_list s k hlt
        have hno : okcB (s[k]'hlt) = false → nameS s.data.toList = false := fun h => by
          rw [HN2.out]
          have h2 : s.data.toList.all okcB = false := by
            rw [Bool.eq_false_iff]
            intro h3
            rw [List.all_eq_true] at h3
            have h4 := h3 _ (List.mem_of_getElem? hgl)
            rw [h] at h4
            cases h4
          rw [h2]
          rfl
        have hyes : okcB (s[k]'hlt) = true → (s.data.toList.take (k + 1)).all okcB = true := fun h => by
          rw [List.take_add_one, hgl, List.all_append, HA.out, Bool.true_and, Option.toList_some, List.all_cons, List.all_nil, Bool.and_true]
          exact h
        have hok : okcB (s[k]'hlt) = (((decide (48 ≤ (s[k]'hlt).toNat) && decide ((s[k]'hlt).toNat ≤ 57)) || (decide (97 ≤ (s[k]'hlt).toNat) && decide ((s[k]'hlt).toNat ≤ 122))) || decide ((s[k]'hlt).toNat = 95)) := rfl
        rw [hok] at hno hyes
        have HNO := Lib.hid hno
        have HYES := Lib.hid hyes
        clear hgl hno hyes hok
        generalize hbn : ((s[k]'hlt).toNat) = bn at *
        by_cases a1 : 97 ≤ bn
        · have a1i : (97 : Int) ≤ (bn : Int) := by omega
          by_cases a2 : bn ≤ 122
          · have a2i : (bn : Int) ≤ 122 := by omega
            have HY := Lib.hid (HYES.out (by simp [a1, a2]))
            clear a1 a2
            go_wp2
            go_roundw
            case rel => exact ⟨k + 1, by omega, by go_num, HY, trivial⟩
            case measure => simp [intOf]; omega
          · have a2i : ¬ (bn : Int) ≤ 122 := by omega
            have a3i : (48 : Int) ≤ (bn : Int) := by omega
            have a4i : ¬ (bn : Int) ≤ 57 := by omega
            have a5i : ((bn : Int) == 95) = false := by rw [beq_eq_false_iff_ne]; omega
            have HF := Lib.hid (HNO.out (by simp; omega))
            clear a1 a2
            go_wp2
            go_ret
            exact ⟨by rw [HF.out]; rfl, Below.refl _ _⟩
        · have a1i : ¬ (97 : Int) ≤ (bn : Int) := by omega
          by_cases a3 : 48 ≤ bn
          · have a3i : (48 : Int) ≤ (bn : Int) := by omega
            by_cases a4 : bn ≤ 57
            · have a4i : (bn : Int) ≤ 57 := by omega
              have HY := Lib.hid (HYES.out (by simp [a3, a4]))
              clear a1 a3 a4
              go_wp2
              go_roundw
              case rel => exact ⟨k + 1, by omega, by go_num, HY, trivial⟩
              case measure => simp [intOf]; omega
            · have a4i : ¬ (bn : Int) ≤ 57 := by omega
              by_cases a5 : bn = 95
              · have a5i : ((bn : Int) == 95) = true := by rw [beq_iff_eq]; omega
                have HY := Lib.hid (HYES.out (by simp [a5]))
                clear a1 a3 a4 a5
                go_wp2
                go_roundw
                case rel => exact ⟨k + 1, by omega, by go_num, HY, trivial⟩
                case measure => simp [intOf]; omega
              · have a5i : ((bn : Int) == 95) = false := by rw [beq_eq_false_iff_ne]; omega
                have HF := Lib.hid (HNO.out (by simp; omega))
                clear a1 a3 a4 a5
                go_wp2
                go_ret
                exact ⟨by rw [HF.out]; rfl, Below.refl _ _⟩
          · have a3i : ¬ (48 : Int) ≤ (bn : Int) := by omega
            have a5i : ((bn : Int) == 95) = false := by rw [beq_eq_false_iff_ne]; omega
            have HF := Lib.hid (HNO.out (by simp; omega))
            clear a1 a3
            go_wp2
            go_ret
            exact ⟨by rw [HF.out]; rfl, Below.refl _ _⟩
      · have hki : ¬ (k : Int) < s.size := by omega
        have HAL := Lib.hid (show s.data.toList.all okcB = true by have h := HA.out; rw [List.take_of_length_le (by omega)] at h; exact h)
        have HF := Lib.hid (show nameS s.data.toList = !(decide (s.data.toList ∈ wordsL)) by rw [HN2.out, HAL.out, kw_word _ HAL.out HNE.out]; rfl)
        have HW := Lib.hid (words_any w)
        go_wp2_with fail
        with_reducible refine HW.out.mono ?_
        rintro e w2 ⟨rfl, ho, hb2⟩
        have h3 := in_any w.heap.size wordsL s w2 (by decide +kernel) ho
        rw [show wordsL.length = 87 from by decide +kernel] at h3
        have HB2 := Lib.hid hb2
        clear HW ho hb2
        go_wp2_with fail
        with_reducible refine h3.mono ?_
        rintro e w3 ⟨rfl, hb3⟩
        go_wp2
        go_ret
        exact ⟨by rw [HF.out]; rfl, HB2.out.trans (hb3.mono HB2.out.size)⟩
end Go.Proofs.Ytggeoloikkjipaa
