import Derived.Test.YteihjneeiojgaaaSEoO
import Derived.Test.YteihjneeiojgaaaGL
import Derived.WalkKit
import Derived.WalkSpells
import Derived.WalkLawsBesides
import Derived.Deep.QuietTactic
import Derived.BigQuiet
import Derived.Handy
import Derived.Lib.Hide
/-
  What a definition that is valid says of its sizes; definitions and changes opened. Conditions: the arguments are small.
-/
namespace Go.Proofs.Yteihjneeiojgaaa
set_option maxRecDepth 100000
set_option linter.unusedVariables false
set_option linter.unusedSimpArgs false
open Go.ChangeShapes Go.WideShapes Go.ChangeAt Go.RowKit Go.Joins Go.Deep

theorem nameS_all {l : List UInt8} (h : nameS l = true) : l.all okcB = true := by
  unfold nameS at h
  simp only [Bool.and_eq_true] at h
  exact h.1.2
theorem keyT_ok {cs : List Cl} : ∀ (ks : List Int) (y : Int), -1 ≤ y → keyT cs y ks = 0 → ∀ i ∈ ks, 0 ≤ i ∧ i < (cs.length : Int)
  | [], _, _, _, i, h => by simp at h
  | k :: ks, y, hy, h, i, hi => by
    unfold keyT at h
    by_cases h1 : k ≤ y ∨ (cs.length : Int) ≤ k
    · rw [if_pos h1] at h; exact absurd h (by decide)
    rw [if_neg h1] at h
    split at h
    · exact absurd h (by decide)
    rcases List.mem_cons.1 hi with rfl | hi
    · omega
    · exact keyT_ok ks k (by omega) h i hi
theorem difL_ok {n : Int} : ∀ (l pre : List Int), difL n pre l = true → ∀ i ∈ l, 0 ≤ i ∧ i < n
  | [], _, _, i, h => by simp at h
  | k :: l, pre, h, i, hi => by
    unfold difL at h
    by_cases h1 : k < 0 ∨ n ≤ k ∨ k ∈ pre
    · rw [if_pos h1] at h; cases h
    rw [if_neg h1] at h
    rcases List.mem_cons.1 hi with rfl | hi
    · have h2 : ¬ i < 0 := fun e => h1 (.inl e)
      have h3 : ¬ n ≤ i := fun e => h1 (.inr (.inl e))
      omega
    · exact difL_ok l _ h i hi
theorem frgL_ok {n : Int} : ∀ (fs : List Fk), frgL n fs = 0 → ∀ f ∈ fs, ∀ i ∈ f.1, 0 ≤ i ∧ i < n
  | [], _, f, h => by simp at h
  | g :: fs, h, f, hf => by
    unfold frgL at h
    split at h
    · exact absurd h (by decide)
    by_cases h1 : g.1.length = 0 ∨ difL n [] g.1 = false
    · rw [if_pos h1] at h; exact absurd h (by decide)
    rw [if_neg h1] at h
    rcases List.mem_cons.1 hf with rfl | hf
    · exact difL_ok _ _ (by cases hd : difL n [] f.1; exact absurd (.inr hd) h1; rfl)
    · exact frgL_ok fs h f hf
theorem okX_col : ∀ (d : Nat) (e : Ex), okX d e → ∀ z ∈ colE d e, (Lit.int .i64 z).wf = true
  | 0, _, _, z, h => by simp [colE] at h
  | d + 1, e, ho, z, h => by
    have h2 : z ∈ colH e ++ e.args.flatMap (colE d) := h
    rcases List.mem_append.1 h2 with h2 | h2
    · unfold colH at h2
      split at h2
      · rw [List.mem_singleton.1 h2]; exact ho.1
      · simp at h2
    · obtain ⟨a, ha, hz⟩ := List.mem_flatMap.1 h2
      exact okX_col d a (ho.2 a ha) z hz
theorem len_flat {α β : Type} (f : α → List β) : ∀ (l : List α) (a : α), a ∈ l → (f a).length ≤ (l.flatMap f).length
  | x :: l, a, h => by
    rw [List.flatMap_cons, List.length_append]
    rcases List.mem_cons.1 h with rfl | h
    · omega
    · have := len_flat f l a h; omega
theorem gd_of {nm : List UInt8} {cs : List Cl} {zs : List Int} {fs : List Fk} {d : Nat} {es : List Ex} (h : chkA nm cs zs fs d es = 0) (lz : zs.length ≤ 1048576) (lf1 : ∀ f ∈ fs, f.1.length ≤ 1048576) (hok : ∀ m, ∀ e ∈ es, okX m e) (hc : ∀ m, (es.flatMap (colE m)).length ≤ 1048576) : GdT ⟨cs, zs, fs, d, es⟩ := by
  obtain ⟨h1, h2, h3⟩ := chkA_ok h
  have h0 := h
  unfold chkA at h
  rw [if_neg (by rw [h1]; decide), if_neg (fun e => e h2), if_neg (fun e => e h3)] at h
  have h4 : frgE (cs.length : Nat) fs = 0 := by
    by_cases e : frgE (cs.length : Nat) fs ≠ 0
    · rw [if_pos e] at h; exact h
    · simpa using e
  rw [if_neg (fun e => e h4)] at h
  have hlc : cs.length ≤ 12 := by
    unfold clsE at h2
    by_cases e : cs.length = 0 ∨ 12 < cs.length
    · rw [if_pos e] at h2; exact absurd h2 (by decide)
    · omega
  have hkz : ∀ i ∈ zs, 0 ≤ i ∧ i < (cs.length : Int) := by
    unfold keyE at h3
    split at h3
    · exact absurd h3 (by decide)
    · exact keyT_ok zs (-1) (by omega) h3
  have hff : fs.length ≤ 4 ∧ ∀ f ∈ fs, ∀ i ∈ f.1, 0 ≤ i ∧ i < (cs.length : Int) := by
    unfold frgE at h4
    by_cases e : 4 < fs.length
    · rw [if_pos e] at h4; exact absurd h4 (by decide)
    · rw [if_neg e] at h4; exact ⟨by omega, frgL_ok fs h4⟩
  have hle : es.length ≤ 4 := by
    unfold ckxE at h
    by_cases e : 4 < es.length
    · rw [if_pos e] at h; exact absurd h (by decide)
    · omega
  refine ⟨⟨fun c hc' => ?_, by show cs.length ≤ _; omega, by show zs.length ≤ _; omega, hff.1, fun f hf => by have := lf1 f hf; omega, hle, fun e he => ?_, fun z hz => ?_⟩, by show cs.length ≤ _; omega, fun z hz => ?_, fun f hf z hz => ?_⟩
  · obtain ⟨k, hk⟩ := List.mem_iff_getElem?.1 hc'
    exact nameS_all (colE_ok h2 k c hk).1
  · have := len_flat (colE d) es e he
    have := hc d
    show (colE d e).length ≤ _
    omega
  · have hz2 : z ∈ (zs ++ fs.flatMap (·.1)) ++ es.flatMap (fun e => colS (colE d e)) := hz
    rcases List.mem_append.1 hz2 with hz3 | hz3
    · rcases List.mem_append.1 hz3 with hz4 | hz4
      · have := hkz z hz4; exact wf_int (by omega) (by omega)
      · obtain ⟨f, hf, hz5⟩ := List.mem_flatMap.1 hz4
        have := hff.2 f hf z hz5
        exact wf_int (by omega) (by omega)
    · obtain ⟨e, he, hz4⟩ := List.mem_flatMap.1 hz3
      exact okX_col d e (hok d e he) z (((colS_asc _).2 z).1 hz4)
  · have := hkz z hz; omega
  · have := hff.2 f hf z hz; omega
section
variable {H : Type} {enc : TypeId × Value → H} {W : World} {base : Nat}
set_option maxRecDepth 100000 in
theorem open_tabM {v : Value} {d : DataW H} {p : List MemPlace} (hv : Value.okWide Try.prog W .any base 27 v) (h : DataW.Trod enc Try.prog W 0 (fun _ => true) true 27 v d p) (hN : Rows.uptoBulk d ≤ 1048576) :
    ∃ (nm : ByteArray) (v1 v2 v3 v4 : Value) (cs : List Cl) (zs : List Int) (fs : List Fk) (es : List Ex), v = .agg #[.string nm, v1, v2, v3, v4] ∧ RdK W 0 W.heap.size v1 cs ∧ RdI W 0 W.heap.size v2 zs ∧ RdF W 0 W.heap.size v3 fs ∧ RdE W 0 W.heap.size (1048575 + 1) v4 es ∧ cs.length ≤ Rows.uptoBulk d ∧ zs.length ≤ Rows.uptoBulk d ∧ fs.length ≤ Rows.uptoBulk d ∧ (∀ f ∈ fs, f.1.length ≤ Rows.uptoBulk d) ∧ (∀ m, ∀ e ∈ es, okX m e) ∧ ∀ m, (es.flatMap (colE m)).length ≤ Rows.uptoBulk d := by
  obtain ⟨cs, rfl, hsz⟩ := okWide_struct Try.underlying27 hv
  rw [cellsTab] at hsz
  obtain ⟨l⟩ := cs
  match l, hsz with
  | [c0, c1, c2, c3, c4], _ =>
    obtain ⟨fuel, hf⟩ := h
    obtain ⟨xs, n', _, hxy, _, hxl, hfl⟩ := DataW.trod_struct Try.underlying27 hf
    match xs, hxl with
    | [y0, y1, y2, y3, y4], _ =>
      have g0 := hfl 0 _ rfl
      have g1 := hfl 1 _ rfl
      have g2 := hfl 2 _ rfl
      have g3 := hfl 3 _ rfl
      have g4 := hfl 4 _ rfl
      simp [cellsCols1, cellsInts1, cellsFors1, cellsStrT, cellsExps1, Value.cells] at g0 g1 g2 g3 g4
      obtain ⟨y1a, y1b⟩ := y1
      obtain ⟨y2a, y2b⟩ := y2
      obtain ⟨y3a, y3b⟩ := y3
      obtain ⟨y4a, y4b⟩ := y4
      obtain ⟨nm, e0, _⟩ := DataW.trod_string Try.underlying9 g0
      simp at e0
      subst e0
      obtain ⟨v1, ps, e1, h1, k1⟩ := open_colsB g1
      obtain ⟨v2, zs, e2, h2, k2⟩ := open_intsB g2
      obtain ⟨v3, fs, e3, h3, k3, k4⟩ := open_forsL g3
      injection e1 with e1 _
      injection e2 with e2 _
      injection e3 with e3 _
      subst e1 e2 e3
      have hd : d = .agg [y0.1, y1a, y2a, y3a, y4a] := by simpa using congrArg Prod.fst hxy
      have hy4 : Rows.uptoBulk y4a ≤ 1048575 := by rw [hd] at hN; simp only [Rows.uptoBulk, Rows.uptoBulkAll] at hN; omega
      obtain ⟨es, h4, h5, h6⟩ := open_exprsC (Rows.uptoBulk y4a) n' c4 y4a y4b (Nat.le_refl _) (by omega) g4
      refine ⟨nm, c1, c2, c3, c4, ps, zs, fs, es, rfl, h1, h2, h3, h4.up (by omega), ?_, ?_, ?_, fun f hf => ?_, h5, fun m => ?_⟩
      · rw [hd]; simp only [Rows.uptoBulk, Rows.uptoBulkAll]; omega
      · rw [hd]; simp only [Rows.uptoBulk, Rows.uptoBulkAll]; omega
      · rw [hd]; simp only [Rows.uptoBulk, Rows.uptoBulkAll]; omega
      · have := k4 f hf
        rw [hd]; simp only [Rows.uptoBulk, Rows.uptoBulkAll]; omega
      · have := h6 m
        rw [hd]; simp only [Rows.uptoBulk, Rows.uptoBulkAll]; omega
end
end Go.Proofs.Yteihjneeiojgaaa
