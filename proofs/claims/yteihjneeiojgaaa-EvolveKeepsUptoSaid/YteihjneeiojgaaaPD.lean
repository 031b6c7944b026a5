import Derived.Test.YteihjneeiojgaaaPC
import Derived.Test.YteihjneeiojgaaaTI
import Derived.Test.YteihjneeiojgaaaMT
import Derived.WalkKit
import Derived.WalkSpells
import Derived.WalkLawsBesides
import Derived.Deep.QuietTactic
import Derived.BigQuiet
import Derived.Handy
import Derived.Lib.Hide
import Derived.Lib.SliceRun
import Derived.Laws.AppendOwnNone
/-
  slices.Clone over columns, foreign keys and expressions. Conditions: lengths. (Written by mkSsD.py.)
-/
namespace Go.Proofs.Yteihjneeiojgaaa
set_option maxRecDepth 100000
set_option linter.unusedVariables false
set_option linter.unusedSimpArgs false
open Go.RowKit

theorem infoCl : (Try.prog.info? 36).map (fun i => (i.zero, i.size, i.bytes)) = some (some (.agg #[.string ⟨#[]⟩, .int .i64 0, .bool false]), 3, 32) := by kernel_rfl
theorem infoFk : (Try.prog.info? 54).map (fun i => (i.zero, i.size, i.bytes)) = some (some (.agg #[.slice none 0 0, .string ⟨#[]⟩]), 2, 40) := by kernel_rfl
set_option maxRecDepth 100000 in
set_option maxHeartbeats 6400000 in
theorem pClC_raw (A : Addr) (n c : Nat) (news : List Value) (w : World) (hl : news.length = n * 3) (hn : n ≤ 1099511627776) (hnews : ∀ j u, news[j]? = some u → w.cell? (A.add j) = some u) (h1 : ∀ u ∈ news, u.oneCell' = true) :
    Calls Try.prog 27 #[.slice (some A) n c] w fun e w' => ∃ v', e = .returned v' ∧ w'.ownsRow w.heap.size 36 3 v' n news ∧ Below w.heap.size w w' := by
  obtain ⟨i0, hi, hz0, hz1, hz2⟩ := info_partsB infoCl
  have q22 : ∀ (w : World) (a : Option Addr) (n c n' c' : Nat), (binOp .eql 22 (.slice a n c) (.slice none n' c')).run Try.prog w = .ok (.bool a.isNone) w := fun w a n c n' c' => Lib.run_eql_slice_nil w _ _ a n c n' c' Try.underlying22
  have HN := Lib.hid hnews
  have HC1 := Lib.hid h1
  have HL := Lib.hid hl
  clear hnews h1 hl
  go_enter Try.func27, Try.ntmps27
  go_wp2_with (at_builtin; refine wpList_append_own _ rfl _ _ 22 rfl w.heap.size 36 i0 (.agg #[.string ⟨#[]⟩, .int .i64 0, .bool false]) 3 32 Try.underlying22 hi hz0 hz1 hz2 rfl (by decide) _ _ _ rfl (World.ownsRow_made w #[] 0 (Nat.le_refl _) (Nat.zero_le _) rfl) A n c news rfl HL.out ?qc1 HC1.out ?qc2 ?qc3 ?qc4 ?qc5)
  case qc1 => exact fun j u hj => Lib.cell?_alloc_some _ (HN.out j u hj)
  case qc2 => unfold maxLen; omega
  case qc3 => omega
  case qc4 => simp
  intro v' w1 hown hgrow hnil
  go_wp2
  go_ret
  refine ⟨v', rfl, by simpa using hown, ?_⟩
  exact ((Below.refl _ w).alloc (Nat.le_refl _) _).grown hgrow (by simp) (by intro k hk; simp [Value.ownBlock] at hk; omega)
set_option maxRecDepth 100000 in
set_option maxHeartbeats 3200000 in
theorem pClC_nil (n c : Nat) (w : World) :
    Calls Try.prog 27 #[.slice none n c] w fun e w' => e = .returned (.slice none 0 0) ∧ Below w.heap.size w w' := by
  have q22 : ∀ (w : World) (a : Option Addr) (n c n' c' : Nat), (binOp .eql 22 (.slice a n c) (.slice none n' c')).run Try.prog w = .ok (.bool a.isNone) w := fun w a n c n' c' => Lib.run_eql_slice_nil w _ _ a n c n' c' Try.underlying22
  go_enter Try.func27, Try.ntmps27
  go_wp2
  go_ret
  exact ⟨rfl, Below.refl _ _⟩
set_option maxRecDepth 100000 in
set_option maxHeartbeats 6400000 in
theorem pClF_raw (A : Addr) (n c : Nat) (news : List Value) (w : World) (hl : news.length = n * 2) (hn : n ≤ 1099511627776) (hnews : ∀ j u, news[j]? = some u → w.cell? (A.add j) = some u) (h1 : ∀ u ∈ news, u.oneCell' = true) :
    Calls Try.prog 29 #[.slice (some A) n c] w fun e w' => ∃ v', e = .returned v' ∧ w'.ownsRow w.heap.size 54 2 v' n news ∧ Below w.heap.size w w' := by
  obtain ⟨i0, hi, hz0, hz1, hz2⟩ := info_partsB infoFk
  have q22 : ∀ (w : World) (a : Option Addr) (n c n' c' : Nat), (binOp .eql 24 (.slice a n c) (.slice none n' c')).run Try.prog w = .ok (.bool a.isNone) w := fun w a n c n' c' => Lib.run_eql_slice_nil w _ _ a n c n' c' Try.underlying24
  have HN := Lib.hid hnews
  have HC1 := Lib.hid h1
  have HL := Lib.hid hl
  clear hnews h1 hl
  go_enter Try.func29, Try.ntmps29
  go_wp2_with (at_builtin; refine wpList_append_own _ rfl _ _ 24 rfl w.heap.size 54 i0 (.agg #[.slice none 0 0, .string ⟨#[]⟩]) 2 40 Try.underlying24 hi hz0 hz1 hz2 rfl (by decide) _ _ _ rfl (World.ownsRow_made w #[] 0 (Nat.le_refl _) (Nat.zero_le _) rfl) A n c news rfl HL.out ?qc1 HC1.out ?qc2 ?qc3 ?qc4 ?qc5)
  case qc1 => exact fun j u hj => Lib.cell?_alloc_some _ (HN.out j u hj)
  case qc2 => unfold maxLen; omega
  case qc3 => omega
  case qc4 => simp
  intro v' w1 hown hgrow hnil
  go_wp2
  go_ret
  refine ⟨v', rfl, by simpa using hown, ?_⟩
  exact ((Below.refl _ w).alloc (Nat.le_refl _) _).grown hgrow (by simp) (by intro k hk; simp [Value.ownBlock] at hk; omega)
set_option maxRecDepth 100000 in
set_option maxHeartbeats 3200000 in
theorem pClF_nil (n c : Nat) (w : World) :
    Calls Try.prog 29 #[.slice none n c] w fun e w' => e = .returned (.slice none 0 0) ∧ Below w.heap.size w w' := by
  have q22 : ∀ (w : World) (a : Option Addr) (n c n' c' : Nat), (binOp .eql 24 (.slice a n c) (.slice none n' c')).run Try.prog w = .ok (.bool a.isNone) w := fun w a n c n' c' => Lib.run_eql_slice_nil w _ _ a n c n' c' Try.underlying24
  go_enter Try.func29, Try.ntmps29
  go_wp2
  go_ret
  exact ⟨rfl, Below.refl _ _⟩
set_option maxRecDepth 100000 in
set_option maxHeartbeats 6400000 in
theorem pClE_raw (A : Addr) (n c : Nat) (news : List Value) (w : World) (hl : news.length = n * 7) (hn : n ≤ 1099511627776) (hnews : ∀ j u, news[j]? = some u → w.cell? (A.add j) = some u) (h1 : ∀ u ∈ news, u.oneCell' = true) :
    Calls Try.prog 30 #[.slice (some A) n c] w fun e w' => ∃ v', e = .returned v' ∧ w'.ownsRow w.heap.size 65 7 v' n news ∧ Below w.heap.size w w' := by
  obtain ⟨i0, hi, hz0, hz1, hz2⟩ := info_partsB infoX
  have q22 : ∀ (w : World) (a : Option Addr) (n c n' c' : Nat), (binOp .eql 25 (.slice a n c) (.slice none n' c')).run Try.prog w = .ok (.bool a.isNone) w := fun w a n c n' c' => Lib.run_eql_slice_nil w _ _ a n c n' c' Try.underlying25
  have HN := Lib.hid hnews
  have HC1 := Lib.hid h1
  have HL := Lib.hid hl
  clear hnews h1 hl
  go_enter Try.func30, Try.ntmps30
  go_wp2_with (at_builtin; refine wpList_append_own _ rfl _ _ 25 rfl w.heap.size 65 i0 (.agg #[.int .i64 0, .int .i64 0, .int .i64 0, .int .i64 0, .string ⟨#[]⟩, .string ⟨#[]⟩, .slice none 0 0]) 7 88 Try.underlying25 hi hz0 hz1 hz2 rfl (by decide) _ _ _ rfl (World.ownsRow_made w #[] 0 (Nat.le_refl _) (Nat.zero_le _) rfl) A n c news rfl HL.out ?qc1 HC1.out ?qc2 ?qc3 ?qc4 ?qc5)
  case qc1 => exact fun j u hj => Lib.cell?_alloc_some _ (HN.out j u hj)
  case qc2 => unfold maxLen; omega
  case qc3 => omega
  case qc4 => simp
  intro v' w1 hown hgrow hnil
  go_wp2
  go_ret
  refine ⟨v', rfl, by simpa using hown, ?_⟩
  exact ((Below.refl _ w).alloc (Nat.le_refl _) _).grown hgrow (by simp) (by intro k hk; simp [Value.ownBlock] at hk; omega)
set_option maxRecDepth 100000 in
set_option maxHeartbeats 3200000 in
theorem pClE_nil (n c : Nat) (w : World) :
    Calls Try.prog 30 #[.slice none n c] w fun e w' => e = .returned (.slice none 0 0) ∧ Below w.heap.size w w' := by
  have q22 : ∀ (w : World) (a : Option Addr) (n c n' c' : Nat), (binOp .eql 25 (.slice a n c) (.slice none n' c')).run Try.prog w = .ok (.bool a.isNone) w := fun w a n c n' c' => Lib.run_eql_slice_nil w _ _ a n c n' c' Try.underlying25
  go_enter Try.func30, Try.ntmps30
  go_wp2
  go_ret
  exact ⟨rfl, Below.refl _ _⟩
set_option maxRecDepth 100000 in
set_option maxHeartbeats 6400000 in
theorem pClI_raw (A : Addr) (n c : Nat) (news : List Value) (w : World) (hl : news.length = n * 1) (hn : n ≤ 1099511627776) (hnews : ∀ j u, news[j]? = some u → w.cell? (A.add j) = some u) (h1 : ∀ u ∈ news, u.oneCell' = true) :
    Calls Try.prog 28 #[.slice (some A) n c] w fun e w' => ∃ v', e = .returned v' ∧ w'.ownsRow w.heap.size 3 1 v' n news ∧ Below w.heap.size w w' := by
  obtain ⟨i0, hi, hz0, hz1, hz2⟩ := info_partsB infoI
  have q22 : ∀ (w : World) (a : Option Addr) (n c n' c' : Nat), (binOp .eql 23 (.slice a n c) (.slice none n' c')).run Try.prog w = .ok (.bool a.isNone) w := fun w a n c n' c' => Lib.run_eql_slice_nil w _ _ a n c n' c' Try.underlying23
  have HN := Lib.hid hnews
  have HC1 := Lib.hid h1
  have HL := Lib.hid hl
  clear hnews h1 hl
  go_enter Try.func28, Try.ntmps28
  go_wp2_with (at_builtin; refine wpList_append_own _ rfl _ _ 23 rfl w.heap.size 3 i0 (.int .i64 0) 1 8 Try.underlying23 hi hz0 hz1 hz2 rfl (by decide) _ _ _ rfl (World.ownsRow_made w #[] 0 (Nat.le_refl _) (Nat.zero_le _) rfl) A n c news rfl HL.out ?qc1 HC1.out ?qc2 ?qc3 ?qc4 ?qc5)
  case qc1 => exact fun j u hj => Lib.cell?_alloc_some _ (HN.out j u hj)
  case qc2 => unfold maxLen; omega
  case qc3 => omega
  case qc4 => simp
  intro v' w1 hown hgrow hnil
  go_wp2
  go_ret
  refine ⟨v', rfl, by simpa using hown, ?_⟩
  exact ((Below.refl _ w).alloc (Nat.le_refl _) _).grown hgrow (by simp) (by intro k hk; simp [Value.ownBlock] at hk; omega)
set_option maxRecDepth 100000 in
set_option maxHeartbeats 3200000 in
theorem pClI_nil (n c : Nat) (w : World) :
    Calls Try.prog 28 #[.slice none n c] w fun e w' => e = .returned (.slice none 0 0) ∧ Below w.heap.size w w' := by
  have q22 : ∀ (w : World) (a : Option Addr) (n c n' c' : Nat), (binOp .eql 23 (.slice a n c) (.slice none n' c')).run Try.prog w = .ok (.bool a.isNone) w := fun w a n c n' c' => Lib.run_eql_slice_nil w _ _ a n c n' c' Try.underlying23
  go_enter Try.func28, Try.ntmps28
  go_wp2
  go_ret
  exact ⟨rfl, Below.refl _ _⟩
end Go.Proofs.Yteihjneeiojgaaa
/-
  Rows of expressions to which one or many are appended. Conditions: lengths.
-/
namespace Go.Proofs.Yteihjneeiojgaaa
set_option maxRecDepth 100000
set_option linter.unusedVariables false
set_option linter.unusedSimpArgs false
open Go.RowKit Go.Joins Go.Deep

/-- append of one expression that was just laid. -/
theorem append_ex1 {ops : Array Oper} {rest : List Oper} {o : Oper} {a : Act} {Q : Exit → Act → World → Prop} (W : World) (hgd : o.guard = none) (s x : Operand)
    (ho : o.op = .call { callee := .builtin .append, args := #[s, x], argTypes := #[25, 25] }) (base : Nat) (v : Value) (l : List ExU) (hs : a.eval s = v)
    (hown : W.ownsRow base 65 7 v l.length (flatE l)) (g c : Nat) (p : ExU) (hp : ∃ A4 n4 c4, p.2 = .slice A4 n4 c4) (hx : a.eval x = .slice (some ⟨g, 0, none⟩) 1 c)
    (hnew : ∀ j u, (exL p)[j]? = some u → W.cell? ((⟨g, 0, none⟩ : Addr).add j) = some u) (hl : l.length ≤ 1099511627776) (hbase : base ≤ W.heap.size)
    (h : ∀ g' cap w', w'.ownsRow base 65 7 (.slice (some ⟨g', 0, none⟩) (l.length + 1) cap) (l ++ [p]).length (flatE (l ++ [p])) → W.grownBy w' v.ownBlock → (v.ownBlock = some g' ∨ g' = W.heap.size) → wpList Try.prog ops Q rest (a.put o.dst (.slice (some ⟨g', 0, none⟩) (l.length + 1) cap)) w') :
    wpList Try.prog ops Q (o :: rest) a W := by
  obtain ⟨i0, hi, hz0, hz1, hz2⟩ := info_partsB infoX
  obtain ⟨A4, n4, c4, hp⟩ := hp
  refine wpList_append_lies W hgd s x 25 ho base 65 i0 (.agg #[.int .i64 0, .int .i64 0, .int .i64 0, .int .i64 0, .string ⟨#[]⟩, .string ⟨#[]⟩, .slice none 0 0]) 7 88 Try.underlying25 hi hz0 hz1 hz2 rfl (by decide) v l.length (flatE l) hs hown ⟨g, 0, none⟩ 1 c (exL p) hx rfl hnew (fun u hu => ?_) (by decide) (by unfold maxLen; omega) (by omega) hbase W.heap.size rfl ?_
  · simp only [exL, List.mem_cons, List.not_mem_nil, or_false, hp] at hu
    rcases hu with rfl | rfl | rfl | rfl | rfl | rfl | rfl <;> rfl
  · intro g' cap w' h1 h2 h3 h4
    refine h g' cap w' ?_ h2 h3
    rw [flatE_append, List.length_append]
    show w'.ownsRow base _ 7 _ (l.length + 1) (flatE l ++ (exL p ++ []))
    rw [List.append_nil]
    exact h1
/-- What a slice of expressions holds, cell by cell. -/
theorem rdE_flat {w : World} {L B d c : Nat} {ad : Addr} {es : List Ex} (h : RdE w L B (d + 1) (.slice (some ad) es.length c) es) :
    ∃ ps : List ExU, ps.map (·.1) = es ∧ (∀ p ∈ ps, RdE w L B d p.2 p.1.args) ∧ ∀ j u, (flatE ps)[j]? = some u → w.cell? (ad.add j) = some u := by
  obtain ⟨A, c2, hv, hl, hc⟩ := h
  injection hv with hA
  have each : ∀ i, i < es.length → ∃ q : Value, ∀ e, es[i]? = some e → ExC w (ad.add (i * 7)) e q ∧ RdE w L B d q e.args := fun i hi => by
    obtain ⟨a2, u, h1, _, _, h4, h5⟩ := hc i _ (List.getElem?_eq_getElem hi)
    rw [← hA] at h1
    injection h1 with h1
    subst h1
    refine ⟨u, fun e he => ?_⟩
    rw [List.getElem?_eq_getElem hi] at he
    injection he with he
    subst he
    exact ⟨h4, h5⟩
  haveI : Inhabited Value := ⟨undef⟩
  obtain ⟨q, hq⟩ := choose_lt each
  refine ⟨es.zipIdx.map fun x => (x.1, q x.2), ?_, ?_, ?_⟩
  · rw [List.map_map]
    show es.zipIdx.map Prod.fst = es
    exact List.zipIdx_map_fst 0 es
  · intro p hp
    obtain ⟨x, hx, rfl⟩ := List.mem_map.1 hp
    obtain ⟨e, i⟩ := x
    rw [List.mk_mem_zipIdx_iff_getElem?] at hx
    exact (hq i (List.getElem?_eq_some_iff.1 hx).1 e hx).2
  · intro j u hj
    have hlen : (es.zipIdx.map fun x => ((x.1, q x.2) : ExU)).length = es.length := by rw [List.length_map, List.length_zipIdx]
    have hj1 : j < es.length * 7 := by have := (List.getElem?_eq_some_iff.1 hj).1; rwa [flatE_len, hlen] at this
    have hk : j / 7 < es.length := by omega
    have hp : (es.zipIdx.map fun x => ((x.1, q x.2) : ExU))[j / 7]? = some (es[j / 7], q (j / 7)) := by
      rw [List.getElem?_map, List.getElem?_zipIdx, List.getElem?_eq_getElem hk]
      simp
    have hg := flatE_get _ (j / 7) _ hp (j % 7) (Nat.mod_lt _ (by decide))
    rw [show j / 7 * 7 + j % 7 = j by omega, hj] at hg
    obtain ⟨⟨c0, c1, c2, c3, c4, c5, c6⟩, _⟩ := hq (j / 7) hk _ (List.getElem?_eq_getElem hk)
    have hadd : ∀ r, r ≠ 0 → j % 7 = r → ad.add j = ⟨(ad.add (j / 7 * 7)).block, (ad.add (j / 7 * 7)).off + r, none⟩ := fun r hr he => by
      rw [add_blk]
      unfold Addr.add
      rw [if_neg (by omega)]
      split <;> simp <;> omega
    have hm : j % 7 < 7 := Nat.mod_lt _ (by decide)
    rcases (by omega : j % 7 = 0 ∨ j % 7 = 1 ∨ j % 7 = 2 ∨ j % 7 = 3 ∨ j % 7 = 4 ∨ j % 7 = 5 ∨ j % 7 = 6) with e | e | e | e | e | e | e
    · rw [e] at hg
      rw [show j = j / 7 * 7 by omega, c0]
      exact hg.symm
    all_goals
      rw [hadd _ (by decide) e]
      rw [e] at hg
      first
        | (rw [c1]; exact hg.symm)
        | (rw [c2]; exact hg.symm)
        | (rw [c3]; exact hg.symm)
        | (rw [c4]; exact hg.symm)
        | (rw [c5]; exact hg.symm)
        | (rw [c6]; exact hg.symm)
theorem flatE_mem {ps : List ExU} {u : Value} (h : u ∈ flatE ps) : ∃ p ∈ ps, u ∈ exL p := by
  induction ps with
  | nil => simp [flatE] at h
  | cons p t ih =>
    rcases List.mem_append.1 h with h | h
    · exact ⟨p, List.mem_cons_self, h⟩
    · obtain ⟨q, hq, h⟩ := ih h
      exact ⟨q, List.mem_cons_of_mem _ hq, h⟩
/-- append of many expressions that lie in memory. -/
theorem append_exM {ops : Array Oper} {rest : List Oper} {o : Oper} {a : Act} {Q : Exit → Act → World → Prop} (W : World) (hgd : o.guard = none) (s x : Operand)
    (ho : o.op = .call { callee := .builtin .append, args := #[s, x], argTypes := #[25, 25] }) (base : Nat) (v : Value) (l : List ExU) (hs : a.eval s = v)
    (hown : W.ownsRow base 65 7 v l.length (flatE l)) (ad : Addr) (c : Nat) (ps : List ExU) (hps : ∀ p ∈ ps, ∃ A4 n4 c4, p.2 = .slice A4 n4 c4) (hx : a.eval x = .slice (some ad) ps.length c)
    (hnew : ∀ j u, (flatE ps)[j]? = some u → W.cell? (ad.add j) = some u) (hl : l.length + ps.length ≤ 1099511627776) (hpos : 0 < ps.length) (hbase : base ≤ W.heap.size)
    (h : ∀ g' cap w', w'.ownsRow base 65 7 (.slice (some ⟨g', 0, none⟩) (l.length + ps.length) cap) (l ++ ps).length (flatE (l ++ ps)) → W.grownBy w' v.ownBlock → (v.ownBlock = some g' ∨ g' = W.heap.size) → wpList Try.prog ops Q rest (a.put o.dst (.slice (some ⟨g', 0, none⟩) (l.length + ps.length) cap)) w') :
    wpList Try.prog ops Q (o :: rest) a W := by
  obtain ⟨i0, hi, hz0, hz1, hz2⟩ := info_partsB infoX
  refine wpList_append_lies W hgd s x 25 ho base 65 i0 (.agg #[.int .i64 0, .int .i64 0, .int .i64 0, .int .i64 0, .string ⟨#[]⟩, .string ⟨#[]⟩, .slice none 0 0]) 7 88 Try.underlying25 hi hz0 hz1 hz2 rfl (by decide) v l.length (flatE l) hs hown ad ps.length c (flatE ps) hx (flatE_len ps) hnew (fun u hu => ?_) (by omega) (by unfold maxLen; omega) (by omega) hbase W.heap.size rfl ?_
  · obtain ⟨p, hp, hu⟩ := flatE_mem hu
    obtain ⟨A4, n4, c4, hp⟩ := hps p hp
    simp only [exL, List.mem_cons, List.not_mem_nil, or_false, hp] at hu
    rcases hu with rfl | rfl | rfl | rfl | rfl | rfl | rfl <;> rfl
  · intro g' cap w' h1 h2 h3 h4
    refine h g' cap w' ?_ h2 h3
    rw [flatE_append, List.length_append]
    exact h1
end Go.Proofs.Yteihjneeiojgaaa
/-
  Tables' lists in rows of a call's own; slices.Clone of each. Conditions: lengths. (Written by mkSsE.py.)
-/
namespace Go.Proofs.Yteihjneeiojgaaa
set_option maxRecDepth 100000
set_option linter.unusedVariables false
set_option linter.unusedSimpArgs false
open Go.RowKit Go.Joins Go.Deep

theorem fm_len {α : Type} {f : α → List Value} {s : Nat} (hs : ∀ a, (f a).length = s) : ∀ l : List α, (l.flatMap f).length = l.length * s
  | [] => by simp
  | a :: l => by rw [List.flatMap_cons, List.length_append, hs, fm_len hs l, List.length_cons, Nat.succ_mul]; omega
theorem fm_get {α : Type} {f : α → List Value} {s : Nat} (hs : ∀ a, (f a).length = s) : ∀ (l : List α) (k : Nat) (a : α), l[k]? = some a → ∀ j, j < s → (l.flatMap f)[k * s + j]? = (f a)[j]?
  | [], k, a, h, _, _ => by simp at h
  | b :: l, 0, a, h, j, hj => by
    injection h with h
    subst h
    rw [List.flatMap_cons, Nat.zero_mul, Nat.zero_add, List.getElem?_append_left (by rw [hs]; exact hj)]
  | b :: l, k + 1, a, h, j, hj => by
    rw [List.flatMap_cons, List.getElem?_append_right (by rw [hs, Nat.succ_mul]; omega), hs, show (k + 1) * s + j - s = k * s + j by rw [Nat.succ_mul]; omega]
    exact fm_get hs l k a h j hj
theorem fm_idx {α : Type} {f : α → List Value} {s : Nat} (hs : ∀ a, (f a).length = s) (hp : 0 < s) {l : List α} {i : Nat} {u : Value} (h : (l.flatMap f)[i]? = some u) : ∃ a, l[i / s]? = some a ∧ (f a)[i % s]? = some u := by
  have h1 := (List.getElem?_eq_some_iff.1 h).1
  rw [fm_len hs] at h1
  have hk : i / s < l.length := Nat.div_lt_of_lt_mul (by rwa [Nat.mul_comm])
  have hg := fm_get hs l (i / s) _ (List.getElem?_eq_getElem hk) (i % s) (Nat.mod_lt _ hp)
  rw [Nat.mul_comm, Nat.div_add_mod, h] at hg
  exact ⟨_, List.getElem?_eq_getElem hk, hg.symm⟩
theorem fm_set {α : Type} {f : α → List Value} {s : Nat} (hs : ∀ a, (f a).length = s) (j : Nat) (u : Value) (hj : j < s) : ∀ (l : List α) (k : Nat) (a b : α), l[k]? = some a → f b = (f a).set j u → (l.flatMap f).set (k * s + j) u = (l.set k b).flatMap f
  | [], k, a, b, h, _ => by simp at h
  | c :: l, 0, a, b, h, hb => by
    injection h with h
    subst h
    rw [List.flatMap_cons, Nat.zero_mul, Nat.zero_add, List.set_cons_zero, List.flatMap_cons, hb, List.set_append_left _ _ (by rw [hs]; exact hj)]
  | c :: l, k + 1, a, b, h, hb => by
    rw [List.flatMap_cons, List.set_cons_succ, List.flatMap_cons, List.set_append_right _ _ (by rw [hs, Nat.succ_mul]; omega), hs, show (k + 1) * s + j - s = k * s + j by rw [Nat.succ_mul]; omega, fm_set hs j u hj l k a b h hb]
theorem add_pair (a : Addr) (k s r : Nat) (hr : r ≠ 0) : a.add (k * s + r) = ⟨(a.add (k * s)).block, (a.add (k * s)).off + r, none⟩ := by
  rw [add_blk]
  unfold Addr.add
  rw [if_neg (by omega)]
  split <;> simp <;> omega
/-- The cells of columns, of foreign keys with the slices of their columns, of numbers. -/
def fC (c : Cl) : List Value := [.string c.1, .int .i64 c.2.1, .bool c.2.2]
abbrev FkU := Fk × Value
def fF (q : FkU) : List Value := [q.2, .string q.1.2]
def fI (z : Int) : List Value := [.int .i64 z]
theorem fC_len (c : Cl) : (fC c).length = 3 := rfl
theorem fF_len (q : FkU) : (fF q).length = 2 := rfl
theorem fI_len (z : Int) : (fI z).length = 1 := rfl
theorem RdI.far {w : World} {L B : Nat} {v : Value} {zs : List Int} (h : RdI w L B v zs) {p : Addr} (hp : p.block < L) (u : Value) : RdI (w.setCell p u) L B v zs := by
  obtain ⟨A, c, hv, hl, hc⟩ := h
  refine ⟨A, c, hv, hl, fun k z hk => ?_⟩
  obtain ⟨ad, h1, h2, h3, h4⟩ := hc k z hk
  exact ⟨ad, h1, h2, h3, (World.cell?_setCell_far w p (ad.add k) u (by rw [add_blk]; omega)).trans h4⟩
theorem RdI.low {w : World} {L L' B : Nat} {v : Value} {zs : List Int} (h : RdI w L B v zs) (hL : L' ≤ L) : RdI w L' B v zs := by
  obtain ⟨A, c, hv, hl, hc⟩ := h
  exact ⟨A, c, hv, hl, fun k z hk => let ⟨ad, h1, h2, h3, h4⟩ := hc k z hk; ⟨ad, h1, Nat.le_trans hL h2, h3, h4⟩⟩
/-- A row of one's own is empty, or its cells lie in one block. -/
theorem own_row {w : World} {base n s : Nat} {t : TypeId} {v : Value} {xs : List Value} (h : w.ownsRow base t s v n xs) : (v = .slice none 0 0 ∧ n = 0) ∨ ∃ g c, v = .slice (some ⟨g, 0, none⟩) n c ∧ base ≤ g ∧ g < w.heap.size ∧ ∀ j u, xs[j]? = some u → w.cell? ((⟨g, 0, none⟩ : Addr).add j) = some u := by
  have h2 := h
  rcases h.2 with ⟨rfl, h0⟩ | ⟨g, cap, cur, rfl, hb, _⟩
  · exact .inl ⟨rfl, h0⟩
  · exact .inr ⟨g, cap, rfl, hb, (h2.lt g rfl).2, World.ownsRow.cells h2 rfl⟩
theorem rdI_ownL {w : World} {base : Nat} {v : Value} {zs : List Int} (h : w.ownsRow base 3 1 v zs.length (zs.flatMap fI)) (hl : zs.length ≤ 1099511627776) : RdI w base w.heap.size v zs := by
  rcases own_row h with ⟨rfl, h0⟩ | ⟨g, c, rfl, hb, hg, hc⟩
  · obtain rfl := List.eq_nil_of_length_eq_zero h0
    exact ⟨none, 0, rfl, by simp, by simp⟩
  · refine ⟨_, c, rfl, by omega, fun k z hk => ⟨_, rfl, hb, hg, hc k _ ?_⟩⟩
    have := fm_get fI_len zs k z hk 0 (by decide)
    rw [Nat.mul_one, Nat.add_zero] at this
    exact this
theorem rdK_ownL {w : World} {base : Nat} {v : Value} {cs : List Cl} (h : w.ownsRow base 36 3 v cs.length (cs.flatMap fC)) (hl : cs.length ≤ 1099511627776) : RdK w base w.heap.size v cs := by
  rcases own_row h with ⟨rfl, h0⟩ | ⟨g, c, rfl, hb, hg, hc⟩
  · obtain rfl := List.eq_nil_of_length_eq_zero h0
    exact ⟨none, 0, rfl, by simp, by simp⟩
  · refine ⟨_, c, rfl, by omega, fun k z hk => ⟨_, rfl, hb, hg, ?_, ?_, ?_⟩⟩
    · exact hc (k * 3 + 0) _ (fm_get fC_len cs k z hk 0 (by decide))
    · rw [← add_pair _ k 3 1 (by decide)]; exact hc _ _ (fm_get fC_len cs k z hk 1 (by decide))
    · rw [← add_pair _ k 3 2 (by decide)]; exact hc _ _ (fm_get fC_len cs k z hk 2 (by decide))
theorem rdF_ownL {w : World} {base L : Nat} {v : Value} {qs : List FkU} (h : w.ownsRow base 54 2 v qs.length (qs.flatMap fF)) (hL : L ≤ base) (hl : qs.length ≤ 1099511627776) (hk : ∀ q ∈ qs, RdI w L w.heap.size q.2 q.1.1) : RdF w L w.heap.size v (qs.map (·.1)) := by
  rcases own_row h with ⟨rfl, h0⟩ | ⟨g, c, rfl, hb, hg, hc⟩
  · obtain rfl := List.eq_nil_of_length_eq_zero h0
    exact ⟨none, 0, rfl, by simp, by simp⟩
  · refine ⟨_, c, by rw [List.length_map], by rw [List.length_map]; omega, fun k f hf => ?_⟩
    rw [List.getElem?_map] at hf
    obtain ⟨q, hq, rfl⟩ := Option.map_eq_some_iff.1 hf
    refine ⟨_, q.2, rfl, Nat.le_trans hL hb, hg, ?_, ?_, hk q (List.mem_of_getElem? hq)⟩
    · exact hc (k * 2 + 0) _ (fm_get fF_len qs k q hq 0 (by decide))
    · rw [← add_pair _ k 2 1 (by decide)]; exact hc _ _ (fm_get fF_len qs k q hq 1 (by decide))
/-- What a slice of numbers, of columns, of foreign keys holds, cell by cell. -/
theorem rdI_flat {w : World} {L B c : Nat} {ad : Addr} {zs : List Int} (h : RdI w L B (.slice (some ad) zs.length c) zs) : ∀ j u, (zs.flatMap fI)[j]? = some u → w.cell? (ad.add j) = some u := by
  obtain ⟨A, c2, hv, hl, hc⟩ := h
  injection hv with hA
  intro j u hj
  obtain ⟨z, hz, hu⟩ := fm_idx fI_len (by decide) hj
  rw [Nat.div_one] at hz
  obtain ⟨a2, h1, _, _, h4⟩ := hc j z hz
  rw [← hA] at h1
  injection h1 with h1
  subst h1
  rw [Nat.mod_one] at hu
  rw [h4]
  exact hu
theorem rdK_flat {w : World} {L B c : Nat} {ad : Addr} {cs : List Cl} (h : RdK w L B (.slice (some ad) cs.length c) cs) : ∀ j u, (cs.flatMap fC)[j]? = some u → w.cell? (ad.add j) = some u := by
  obtain ⟨A, c2, hv, hl, hc⟩ := h
  injection hv with hA
  intro j u hj
  obtain ⟨z, hz, hu⟩ := fm_idx fC_len (by decide) hj
  obtain ⟨a2, h1, _, _, h4, h5, h6⟩ := hc (j / 3) z hz
  rw [← hA] at h1
  injection h1 with h1
  subst h1
  have hm : j % 3 < 3 := Nat.mod_lt _ (by decide)
  have hd : j = j / 3 * 3 + j % 3 := by omega
  rcases (by omega : j % 3 = 0 ∨ j % 3 = 1 ∨ j % 3 = 2) with e | e | e
  · rw [e] at hu hd
    rw [hd, Nat.add_zero, h4]
    exact hu
  · rw [e] at hu hd
    rw [hd, add_pair _ _ _ _ (by decide), h5]
    exact hu
  · rw [e] at hu hd
    rw [hd, add_pair _ _ _ _ (by decide), h6]
    exact hu
theorem rdF_flat {w : World} {L B c : Nat} {ad : Addr} {fs : List Fk} (h : RdF w L B (.slice (some ad) fs.length c) fs) :
    ∃ qs : List FkU, qs.map (·.1) = fs ∧ (∀ q ∈ qs, RdI w L B q.2 q.1.1) ∧ ∀ j u, (qs.flatMap fF)[j]? = some u → w.cell? (ad.add j) = some u := by
  obtain ⟨A, c2, hv, hl, hc⟩ := h
  injection hv with hA
  have each : ∀ i, i < fs.length → ∃ q : Value, ∀ f, fs[i]? = some f → w.cell? (ad.add (i * 2)) = some q ∧ w.cell? ⟨(ad.add (i * 2)).block, (ad.add (i * 2)).off + 1, none⟩ = some (.string f.2) ∧ RdI w L B q f.1 := fun i hi => by
    obtain ⟨a2, u, h1, _, _, h4, h5, h6⟩ := hc i _ (List.getElem?_eq_getElem hi)
    rw [← hA] at h1
    injection h1 with h1
    subst h1
    refine ⟨u, fun f hf => ?_⟩
    rw [List.getElem?_eq_getElem hi] at hf
    injection hf with hf
    subst hf
    exact ⟨h4, h5, h6⟩
  haveI : Inhabited Value := ⟨undef⟩
  obtain ⟨q, hq⟩ := choose_lt each
  refine ⟨fs.zipIdx.map fun x => (x.1, q x.2), ?_, ?_, ?_⟩
  · rw [List.map_map]
    show fs.zipIdx.map Prod.fst = fs
    exact List.zipIdx_map_fst 0 fs
  · intro p hp
    obtain ⟨x, hx, rfl⟩ := List.mem_map.1 hp
    obtain ⟨e, i⟩ := x
    rw [List.mk_mem_zipIdx_iff_getElem?] at hx
    exact (hq i (List.getElem?_eq_some_iff.1 hx).1 e hx).2.2
  · intro j u hj
    obtain ⟨z, hz, hu⟩ := fm_idx fF_len (by decide) hj
    rw [List.getElem?_map, List.getElem?_zipIdx] at hz
    obtain ⟨x, hx, rfl⟩ := Option.map_eq_some_iff.1 hz
    obtain ⟨f, hf, rfl⟩ := Option.map_eq_some_iff.1 hx
    have hk := (List.getElem?_eq_some_iff.1 hf).1
    obtain ⟨h4, h5, _⟩ := hq (j / 2) hk f hf
    have hm : j % 2 < 2 := Nat.mod_lt _ (by decide)
    have hd : j = j / 2 * 2 + j % 2 := by omega
    rcases (by omega : j % 2 = 0 ∨ j % 2 = 1) with e | e
    · rw [e] at hu hd
      rw [hd, Nat.add_zero, h4]
      simpa [fF] using hu
    · rw [e] at hu hd
      rw [hd, add_pair _ _ _ _ (by decide), h5]
      simpa [fF] using hu
theorem flatE_fm : ∀ ps : List ExU, flatE ps = ps.flatMap exL
  | [] => rfl
  | p :: ps => by rw [List.flatMap_cons, ← flatE_fm ps]; rfl
theorem pClI_any (v : Value) (zs : List Int) (w : World) (L : Nat) (h : RdI w L w.heap.size v zs) (hl : zs.length ≤ 1099511627776) :
    Calls Try.prog 28 #[v] w fun e w' => ∃ v', e = .returned v' ∧ RdI w' w.heap.size w'.heap.size v' zs ∧ Below w.heap.size w w' := by
  have h0 := h
  obtain ⟨A, c, rfl, _, _⟩ := h
  cases A with
  | none =>
    have hz : zs = [] := by
      cases zs with
      | nil => rfl
      | cons z zs => obtain ⟨_, _, hv, _, hc⟩ := h0; injection hv with hA; obtain ⟨ad, h1, _⟩ := hc 0 z rfl; rw [← hA] at h1; cases h1
    subst hz
    exact (pClI_nil _ c w).mono fun e w' ⟨h1, h2⟩ => ⟨_, h1, ⟨none, 0, rfl, by simp, by simp⟩, h2⟩
  | some ad =>
    exact (pClI_raw ad zs.length c (zs.flatMap fI) w (fm_len fI_len zs) hl (rdI_flat h0) (fun u hu => by obtain ⟨z, _, hz⟩ := List.mem_flatMap.1 hu; simp [fI] at hz; subst hz; rfl)).mono fun e w' ⟨v', h1, h2, h3⟩ => ⟨v', h1, rdI_ownL h2 hl, h3⟩
theorem pClC_any (v : Value) (cs : List Cl) (w : World) (L : Nat) (h : RdK w L w.heap.size v cs) (hl : cs.length ≤ 1099511627776) :
    Calls Try.prog 27 #[v] w fun e w' => ∃ v', e = .returned v' ∧ RdK w' w.heap.size w'.heap.size v' cs ∧ Below w.heap.size w w' := by
  have h0 := h
  obtain ⟨A, c, rfl, _, _⟩ := h
  cases A with
  | none =>
    have hz : cs = [] := by
      cases cs with
      | nil => rfl
      | cons z zs => obtain ⟨_, _, hv, _, hc⟩ := h0; injection hv with hA; obtain ⟨ad, h1, _⟩ := hc 0 z rfl; rw [← hA] at h1; cases h1
    subst hz
    exact (pClC_nil _ c w).mono fun e w' ⟨h1, h2⟩ => ⟨_, h1, ⟨none, 0, rfl, by simp, by simp⟩, h2⟩
  | some ad =>
    exact (pClC_raw ad cs.length c (cs.flatMap fC) w (fm_len fC_len cs) hl (rdK_flat h0) (fun u hu => by obtain ⟨z, _, hz⟩ := List.mem_flatMap.1 hu; simp [fC] at hz; rcases hz with rfl | rfl | rfl <;> rfl)).mono fun e w' ⟨v', h1, h2, h3⟩ => ⟨v', h1, rdK_ownL h2 hl, h3⟩
theorem pClF_any (v : Value) (fs : List Fk) (w : World) (L B : Nat) (h : RdF w L B v fs) (hl : fs.length ≤ 1099511627776) :
    Calls Try.prog 29 #[v] w fun e w' => ∃ (v' : Value) (qs : List FkU), e = .returned v' ∧ qs.map (·.1) = fs ∧ (∀ q ∈ qs, RdI w L B q.2 q.1.1) ∧ w'.ownsRow w.heap.size 54 2 v' qs.length (qs.flatMap fF) ∧ Below w.heap.size w w' := by
  have h0 := h
  obtain ⟨A, c, rfl, _, _⟩ := h
  cases A with
  | none =>
    have hz : fs = [] := by
      cases fs with
      | nil => rfl
      | cons z zs => obtain ⟨_, _, hv, _, hc⟩ := h0; injection hv with hA; obtain ⟨ad, _, h1, _⟩ := hc 0 z rfl; rw [← hA] at h1; cases h1
    subst hz
    exact (pClF_nil _ c w).mono fun e w' ⟨h1, h2⟩ => ⟨_, [], h1, rfl, by simp, World.ownsRow_nil w' w.heap.size 54 2, h2⟩
  | some ad =>
    obtain ⟨qs, h1, h2, h3⟩ := rdF_flat h0
    have hq : qs.length = fs.length := by rw [← h1, List.length_map]
    exact (pClF_raw ad fs.length c (qs.flatMap fF) w (by rw [fm_len fF_len, hq]) hl h3 (fun u hu => by obtain ⟨z, hzq, hz⟩ := List.mem_flatMap.1 hu; obtain ⟨A2, c2, h5, _⟩ := h2 z hzq; simp [fF, h5] at hz; rcases hz with rfl | rfl <;> rfl)).mono fun e w' ⟨v', k1, k2, k3⟩ => ⟨v', qs, k1, h1, h2, by rw [hq]; exact k2, k3⟩
theorem pClE_any (d : Nat) (v : Value) (es : List Ex) (w : World) (L B : Nat) (h : RdE w L B (d + 1) v es) :
    Calls Try.prog 30 #[v] w fun e w' => ∃ (v' : Value) (ps : List ExU), e = .returned v' ∧ ps.map (·.1) = es ∧ (∀ p ∈ ps, RdE w L B d p.2 p.1.args) ∧ w'.ownsRow w.heap.size 65 7 v' ps.length (flatE ps) ∧ Below w.heap.size w w' := by
  have h0 := h
  obtain ⟨A, c, rfl, hl, _⟩ := h
  cases A with
  | none =>
    have hz : es = [] := by
      cases es with
      | nil => rfl
      | cons z zs => obtain ⟨_, _, hv, _, hc⟩ := h0; injection hv with hA; obtain ⟨ad, _, h1, _⟩ := hc 0 z rfl; rw [← hA] at h1; cases h1
    subst hz
    exact (pClE_nil _ c w).mono fun e w' ⟨h1, h2⟩ => ⟨_, [], h1, rfl, by simp, World.ownsRow_nil w' w.heap.size 65 7, h2⟩
  | some ad =>
    obtain ⟨ps, h1, h2, h3⟩ := rdE_flat h0
    have hq : ps.length = es.length := by rw [← h1, List.length_map]
    exact (pClE_raw ad es.length c (flatE ps) w (by rw [flatE_len, hq]) hl h3 (fun u hu => by obtain ⟨p, hp, hu⟩ := flatE_mem hu; obtain ⟨A2, c2, h5, _⟩ := (h2 p hp).slice; simp [exL, h5] at hu; rcases hu with rfl | rfl | rfl | rfl | rfl | rfl | rfl <;> rfl)).mono fun e w' ⟨v', k1, k2, k3⟩ => ⟨v', ps, k1, h1, h2, by rw [hq]; exact k2, k3⟩
end Go.Proofs.Yteihjneeiojgaaa
