import Derived.Test.YteihjneeiojgaaaSA
import Derived.Maps.Keyed
import Derived.WalkKit
import Derived.WalkSpells
import Derived.WalkLawsBesides
import Derived.Deep.QuietTactic
import Derived.BigQuiet
import Derived.Handy
import Derived.Lib.Hide
import Derived.Lib.IndexMore
import Derived.Test.YteihjneeiojgaaaMT
import Derived.Test.YteihjneeiojgaaaMB
import Derived.Test.YteihjneeiojgaaaSExUa
import Derived.Test.YteihjneeiojgaaaSExUb
import Derived.Laws.OwnMore
/-
  A set of numbers that a call keeps (map[int]bool); schema.areDifferent. Conditions: the numbers are those of an int.
-/
namespace Go.Proofs.Yteihjneeiojgaaa
set_option maxRecDepth 100000
set_option linter.unusedVariables false
set_option linter.unusedSimpArgs false
open Go.RowKit Go.ChangeShapes Go.WideShapes Go.MapKept Go.ChangeMaps Go.WideElems
open Go.Maps (Keyed int_keyed keyOf_int_mk)

/-- The map in block b holds just the numbers ns, each true. -/
def MapZ (w : World) (b : Nat) (ns : List Int) : Prop :=
  ∃ (es : Array MapEntry) (clock : Nat), w.heap[b]? = some (.map es clock) ∧ (∀ x ∈ es.toList, ∃ s : Int, x.key = .int .i64 s ∧ (Lit.int .i64 s).wf = true ∧ s ∈ ns ∧ x.val = .bool true) ∧ ∀ s ∈ ns, ∃ x ∈ es.toList, x.key = .int .i64 s
theorem MapZ.lt {w : World} {b : Nat} {ns : List Int} (h : MapZ w b ns) : b < w.heap.size := by
  obtain ⟨es, c, h1, _⟩ := h
  exact (Array.getElem?_eq_some_iff.1 h1).1
theorem MapZ.below {B : Nat} {w w' : World} {b : Nat} {ns : List Int} (h : MapZ w b ns) (hb : Below B w w') (hg : b < B) : MapZ w' b ns := by
  obtain ⟨es, c, h1, h2⟩ := h
  exact ⟨es, c, (hb.block b hg).trans h1, h2⟩
theorem MapZ.new (w : World) : MapZ (w.alloc (.map #[] 0)) w.heap.size [] := ⟨#[], 0, heap_alloc_new w _, fun x h => by simp at h, fun s h => by simp at h⟩
theorem lawZ : Keyed Try.prog 3 := int_keyed Try.underlying3
theorem wf_int {s : Int} (h1 : -9223372036854775808 ≤ s) (h2 : s ≤ 9223372036854775807) : (Lit.int .i64 s).wf = true := by
  have a : IntKind.min .i64 = -9223372036854775808 := by decide
  have b : IntKind.max .i64 = 9223372036854775807 := by decide
  simp only [Lit.wf, a, b, Bool.and_eq_true, decide_eq_true_eq]
  exact ⟨h1, h2⟩
theorem MapZ.look {w : World} {b : Nat} {ns : List Int} (h : MapZ w b ns) (s : Int) (hs : (Lit.int .i64 s).wf = true) :
    (Instr.lookup 68 (.map (some b)) (.int .i64 s) false).run Try.prog w = .ok (.bool (decide (s ∈ ns))) w := by
  obtain ⟨es, c, hb, h1, h2⟩ := h
  have hkey := keyOf_int_mk (P := Try.prog) Try.underlying3 hs
  have hz : (zeroValue 4).run Try.prog w = .ok (.bool false) w := rfl
  have hks : ∀ e ∈ es.toList, ∃ l, keyOf Try.prog 3 e.key = some l := fun e he => by
    obtain ⟨s2, e1, e2, _⟩ := h1 e he
    rw [e1]
    exact ⟨_, keyOf_int_mk Try.underlying3 e2⟩
  rcases lawZ.find w hkey es.toList hks with ⟨f1, f2⟩ | ⟨j, e0, f1, f2, f3⟩
  · have hn : decide (s ∈ ns) = false := decide_eq_false (fun hm => by
      obtain ⟨x, hx, hx2⟩ := h2 _ hm
      exact f2 x hx hx2)
    rw [hn]
    simp [Instr.lookup, run_underlying Try.underlying68, MapKept.run_getObj_map hb, lawZ.check w _ hkey, f1, hz, Result.andThen]
  · have hm0 : e0 ∈ es.toList := List.mem_of_getElem? f2
    obtain ⟨s2, e1, e2, e3, e4⟩ := h1 e0 hm0
    rw [f3] at e1
    injection e1 with _ e1
    subst e1
    rw [decide_eq_true e3]
    simp [Instr.lookup, run_underlying Try.underlying68, MapKept.run_getObj_map hb, lawZ.check w _ hkey, f1, e4, Result.andThen]
theorem MapZ.put {w : World} {b : Nat} {ns : List Int} (h : MapZ w b ns) (s : Int) (hs : (Lit.int .i64 s).wf = true) (hn : s ∉ ns) :
    ∃ w', (Instr.mapUpdate 68 (.map (some b)) (.int .i64 s) (.bool true)).run Try.prog w = .ok () w' ∧ MapZ w' b (ns ++ [s]) ∧ w.grownBy w' (some b) ∧ w'.heap.size = w.heap.size := by
  have hlt := h.lt
  obtain ⟨es, c, hb, h1, h2⟩ := h
  have hkey := keyOf_int_mk (P := Try.prog) Try.underlying3 hs
  have hks : ∀ e ∈ es.toList, ∃ l, keyOf Try.prog 3 e.key = some l := fun e he => by
    obtain ⟨s2, e1, e2, _⟩ := h1 e he
    rw [e1]
    exact ⟨_, keyOf_int_mk Try.underlying3 e2⟩
  rcases lawZ.find w hkey es.toList hks with ⟨f1, f2⟩ | ⟨j, e0, f1, f2, f3⟩
  · refine ⟨setBlock w b (.map (es.push ⟨.int .i64 s, .bool true, c⟩) (c + 1)), ?_, ⟨es.push ⟨.int .i64 s, .bool true, c⟩, c + 1, ?_, ?_, ?_⟩, ⟨rfl, rfl, rfl, ?_, ?_⟩, ?_⟩
    · simp [Instr.mapUpdate, run_underlying Try.underlying68, MapKept.run_getObj_map hb, lawZ.check w false hkey, f1, MapKept.run_setObj_map _ hb, Result.andThen, setBlock]
    · unfold setBlock
      simp [hlt]
    · intro x hx
      simp only [Array.toList_push, List.mem_append, List.mem_singleton] at hx
      rcases hx with hx | rfl
      · obtain ⟨s2, e1, e2, e3, e4⟩ := h1 x hx
        exact ⟨s2, e1, e2, List.mem_append_left _ e3, e4⟩
      · exact ⟨s, rfl, hs, by simp, rfl⟩
    · intro s2 hs2
      rcases List.mem_append.1 hs2 with hs2 | hs2
      · obtain ⟨x, hx, hx2⟩ := h2 s2 hs2
        exact ⟨x, by simp [hx], hx2⟩
      · exact ⟨⟨.int .i64 s, .bool true, c⟩, by simp, by rw [List.mem_singleton.1 hs2]⟩
    · unfold setBlock; simp
    · intro i hi hne
      have hne2 : b ≠ i := fun e => hne (by rw [e])
      unfold setBlock
      simp [hne2]
    · unfold setBlock; simp
  · have hm0 : e0 ∈ es.toList := List.mem_of_getElem? f2
    obtain ⟨s2, e1, e2, e3, e4⟩ := h1 e0 hm0
    rw [f3] at e1
    injection e1 with _ e1
    subst e1
    exact absurd e3 hn
def difL (n : Int) (pre : List Int) : List Int → Bool
  | [] => true
  | i :: l => if i < 0 ∨ n ≤ i ∨ i ∈ pre then false else difL n (pre ++ [i]) l
theorem difL_drop {n : Int} {zs : List Int} {k : Nat} {i : Int} (h : zs[k]? = some i) : difL n (zs.take k) (zs.drop k) = if i < 0 ∨ n ≤ i ∨ i ∈ zs.take k then false else difL n (zs.take (k + 1)) (zs.drop (k + 1)) := by
  have h0 := h
  obtain ⟨h1, rfl⟩ := List.getElem?_eq_some_iff.1 h
  rw [List.drop_eq_getElem_cons h1, List.take_add_one, h0]
  rfl
set_option maxRecDepth 100000 in
set_option maxHeartbeats 6400000 in
theorem areDif_any (v : Value) (zs : List Int) (n : Int) (w : World) (L : Nat) (hz : RdI w L w.heap.size v zs) (hn : n ≤ 9223372036854775807) :
    Calls Try.prog 47 #[v, .int .i64 n] w fun e w' => e = .returned (.bool (difL n [] zs)) ∧ Below w.heap.size w w' := by
  obtain ⟨A, c, rfl, hl1, hc1⟩ := hz
  have HC := Lib.hid hc1
  have HB1 := Lib.hid (bel_mark w (.map #[] 0))
  have HS1 := Lib.hid (MapZ.new w)
  have HE := Lib.hid (show difL n [] zs = difL n (zs.take 0) (zs.drop 0) from rfl)
  clear hc1
  have hmk : (Instr.makeMap 68 none).run Try.prog w = .ok (.map (some w.heap.size)) (w.alloc (.map #[] 0)) := rfl
  go_enter Try.func47, Try.ntmps47
  go_wp2_with fail
  go_loopw [11] (fun i wr => ∃ k : Nat, k ≤ zs.length ∧ i = .int .i64 k ∧ Hid (difL n [] zs = difL n (zs.take k) (zs.drop k)) ∧ Hid (MapZ wr w.heap.size (zs.take k)) ∧ Below w.heap.size w wr) (fun i _ => zs.length - (intOf i).toNat)
  case atStart => exact ⟨0, Nat.zero_le _, rfl, HE, HS1, HB1.out⟩
  case round =>
    obtain ⟨k, hk, rfl, HR, HS, hbr⟩ := hrel
    have hbz := hbr.size
    by_cases hlt : k < zs.length
    · have hki : (k : Int) < zs.length := by omega
      obtain ⟨ad, rfl, _, hab, a0⟩ := HC.out k _ (List.getElem?_eq_getElem hlt)
      have hcd := difL_drop (n := n) (List.getElem?_eq_getElem hlt)
      rw [← HR.out] at hcd
      have htk : zs.take (k + 1) = zs.take k ++ [zs[k]] := by rw [List.take_add_one, List.getElem?_eq_getElem hlt]; rfl
      generalize zs[k] = i at *
      have e0 := (hbr.cell (p := ad.add k) (by rw [add_block]; exact hab)).trans a0
      have HCD := Lib.hid hcd
      have HTK := Lib.hid htk
      clear a0 hcd htk hmk
      by_cases h0 : i < 0
      · have HF := Lib.hid (HCD.out.trans (if_pos (.inl h0)))
        go_wp2
        go_ret
        exact ⟨(by rw [HF.out]; try rfl), hbr⟩
      by_cases h1 : n ≤ i
      · have HF := Lib.hid (HCD.out.trans (if_pos (.inr (.inl h1))))
        go_wp2
        go_ret
        exact ⟨(by rw [HF.out]; try rfl), hbr⟩
      have hwf : (Lit.int .i64 i).wf = true := wf_int (by omega) (by omega)
      by_cases hmem : i ∈ zs.take k
      · have HF := Lib.hid (HCD.out.trans (if_pos (.inr (.inr hmem))))
        have hlk := HS.out.look i hwf
        rw [decide_eq_true hmem] at hlk
        clear hmem hwf
        go_wp2
        go_ret
        exact ⟨(by rw [HF.out]; try rfl), hbr⟩
      · have HF := Lib.hid (HCD.out.trans (if_neg (fun h => h.elim h0 (fun h => h.elim h1 hmem))))
        have hlk := HS.out.look i hwf
        rw [decide_eq_false hmem] at hlk
        obtain ⟨w3, hpt, hs3, hg3, hz3⟩ := HS.out.put i hwf hmem
        rw [← HTK.out] at hs3
        have HS3 := Lib.hid hs3
        have G4 := Lib.hid (hbr.grown hg3 hbr.size (fun k hk => by injection hk with hk; omega))
        clear hs3 hg3 hz3 hmem hwf
        go_wp2
        go_roundw
        case rel => exact ⟨k + 1, by omega, by go_num, HF, HS3, G4.out⟩
        case measure => simp [intOf]; omega
    · have hki : ¬ (k : Int) < zs.length := by omega
      have HF := Lib.hid (show difL n [] zs = true by rw [HR.out, List.drop_eq_nil_of_le (show zs.length ≤ k by omega)]; rfl)
      go_wp2
      go_ret
      exact ⟨(by rw [HF.out]; try rfl), hbr⟩
end Go.Proofs.Yteihjneeiojgaaa
/-
  Foreign keys that lie in memory; schema.checkForeigns: what it answers. Conditions: the search's variable holds some number.
-/
namespace Go.Proofs.Yteihjneeiojgaaa
set_option maxRecDepth 100000
set_option linter.unusedVariables false
set_option linter.unusedSimpArgs false
open Go.RowKit

/-- A foreign key: its columns, its table. -/
abbrev Fk := List Int × ByteArray
def RdF (w : World) (L B : Nat) (v : Value) (fs : List Fk) : Prop :=
  ∃ A c, v = .slice A fs.length c ∧ fs.length ≤ 9223372036854775807 ∧ ∀ (k : Nat) (f : Fk), fs[k]? = some f → ∃ (ad : Addr) (u : Value), A = some ad ∧ L ≤ ad.block ∧ ad.block < B ∧
    w.cell? (ad.add (k * 2)) = some u ∧ w.cell? ⟨(ad.add (k * 2)).block, (ad.add (k * 2)).off + 1, none⟩ = some (.string f.2) ∧ RdI w L B u f.1
theorem RdF.below {w w' : World} {L B : Nat} {v : Value} {fs : List Fk} (h : RdF w L B v fs) (hb : Below B w w') : RdF w' L B v fs := by
  obtain ⟨A, c, hv, hl, hc⟩ := h
  refine ⟨A, c, hv, hl, fun k n hk => ?_⟩
  obtain ⟨ad, u, h1, h0, h2, h3, h4, h5⟩ := hc k n hk
  exact ⟨ad, u, h1, h0, h2, (hb.cell (p := ad.add (k * 2)) (by rw [add_block]; exact h2)).trans h3, (hb.cell (p := ⟨(ad.add (k * 2)).block, (ad.add (k * 2)).off + 1, none⟩) (by show (ad.add (k * 2)).block < _; rw [add_block]; exact h2)).trans h4, h5.below hb⟩
theorem RdF.more {w : World} {L B B' : Nat} {v : Value} {fs : List Fk} (h : RdF w L B v fs) (hB : B ≤ B') : RdF w L B' v fs := by
  obtain ⟨A, c, hv, hl, hc⟩ := h
  exact ⟨A, c, hv, hl, fun k n hk => let ⟨ad, u, h1, h0, h2, h3, h4, h5⟩ := hc k n hk; ⟨ad, u, h1, h0, Nat.lt_of_lt_of_le h2 hB, h3, h4, h5.more hB⟩⟩
theorem RdF.step {w w' : World} {L B : Nat} {v : Value} {fs : List Fk} (h : RdF w L B v fs) (hb : Below w.heap.size w w') (hB : B ≤ w.heap.size) : RdF w' L w'.heap.size v fs :=
  ((h.more hB).below hb).more hb.size
def frgL (n : Int) : List Fk → Int
  | [] => 0
  | f :: fs => if nameS f.2.data.toList = false then 1 else if f.1.length = 0 ∨ difL n [] f.1 = false then 25 else frgL n fs
def frgE (n : Int) (fs : List Fk) : Int := if 4 < fs.length then 5 else frgL n fs
theorem frgL_drop (n : Int) {fs : List Fk} {k : Nat} {f : Fk} (h : fs[k]? = some f) : frgL n (fs.drop k) = if nameS f.2.data.toList = false then 1 else if f.1.length = 0 ∨ difL n [] f.1 = false then 25 else frgL n (fs.drop (k + 1)) := by
  obtain ⟨h1, rfl⟩ := List.getElem?_eq_some_iff.1 h
  rw [List.drop_eq_getElem_cons h1]
  rfl
set_option maxRecDepth 100000 in
set_option maxHeartbeats 12800000 in
theorem checkForeigns_any (nm vk vf vx : Value) (A0 : Option Addr) (c0 n : Nat) (fs : List Fk) (m : Int) (w : World) (L : Nat) (hm : w.cell? ⟨0, 0, none⟩ = some (.int .i64 m)) (hn : n ≤ 9223372036854775807) (hf : RdF w L w.heap.size vf fs) :
    Calls Try.prog 25 #[.agg #[nm, .slice A0 n c0, vk, vf, vx]] w fun e w' => e = .returned (.int .i64 (frgE n fs)) ∧ Below w.heap.size w w' := by
  have HM := Lib.hid hm
  have hm0 := World.block_lt_of_cell? w _ hm
  obtain ⟨A, c, rfl, hl1, hc1⟩ := hf
  have HC := Lib.hid hc1
  have HB1 := Lib.hid (bel_mark w (.cells #[nm, .slice A0 n c0, vk, .slice A fs.length c, vx] 27))
  have HO1 := Lib.hid (Own.new w 27 #[nm, .slice A0 n c0, vk, .slice A fs.length c, vx])
  have d3 := HO1.out.cell 3
  clear hc1 hm
  by_cases hx : 4 < fs.length
  · have hxi : (4 : Int) < fs.length := by omega
    have HF := Lib.hid (show frgE n fs = 5 from if_pos hx)
    go_enter Try.func25, Try.ntmps25
    go_wp2
    go_ret
    exact ⟨(by rw [HF.out]; try rfl), HB1.out⟩
  have hxi : ¬ (4 : Int) < fs.length := by omega
  have HE := Lib.hid (show frgE n fs = frgL n (fs.drop 0) from if_neg hx)
  clear hx
  go_enter Try.func25, Try.ntmps25
  go_wp2_with fail
  go_loopw [12] (fun i wr => ∃ k : Nat, k ≤ fs.length ∧ i = .int .i64 k ∧ Hid (frgE n fs = frgL n (fs.drop k)) ∧ Hid (Own wr w.heap.size 27 #[nm, .slice A0 n c0, vk, .slice A fs.length c, vx]) ∧ Below w.heap.size w wr) (fun i _ => fs.length - (intOf i).toNat)
  case atStart => exact ⟨0, Nat.zero_le _, rfl, HE, HO1, HB1.out⟩
  case round =>
    obtain ⟨k, hk, rfl, HR, HO, hbr⟩ := hrel
    have hbz := hbr.size
    clear d3
    by_cases hlt : k < fs.length
    · have hki : (k : Int) < fs.length := by omega
      obtain ⟨ad, u, rfl, _, hab, a0, a1, hu⟩ := HC.out k _ (List.getElem?_eq_getElem hlt)
      have hcd := frgL_drop n (List.getElem?_eq_getElem hlt)
      rw [← HR.out] at hcd
      generalize fs[k] = q at *
      obtain ⟨zs, s⟩ := q
      dsimp only at a1 hu hcd
      have HU := Lib.hid hu
      obtain ⟨Au, cu, rfl, hlu, _⟩ := hu
      have e0 := (hbr.cell (p := ad.add (k * 2)) (by rw [add_block]; exact hab)).trans a0
      have e1 := (hbr.cell (p := ⟨(ad.add (k * 2)).block, (ad.add (k * 2)).off + 1, none⟩) (by show (ad.add (k * 2)).block < _; rw [add_block]; exact hab)).trans a1
      have b2 := bel_mark wr (.cells #[.slice Au zs.length cu, .string s] 54)
      have ow2 := Own.new wr 54 #[.slice Au zs.length cu, .string s]
      have g1 := ow2.cell 1
      have HW2 := Lib.hid ow2
      have HO2 := Lib.hid (HO.out.alloc (.cells #[.slice Au zs.length cu, .string s] 54))
      have HB2 := Lib.hid (hbr.trans (b2.mono hbz))
      have HN := Lib.hid (pName_any s m (wr.alloc (.cells #[.slice Au zs.length cu, .string s] 54)) ((HB2.out.cell (p := ⟨0, 0, none⟩) hm0).trans HM.out))
      have HD := Lib.hid (fun (W : World) (hb : Below w.heap.size w W) => areDif_any _ zs n W L (HU.out.step hb (Nat.le_refl _)) (by omega))
      have HCD := Lib.hid hcd
      clear a0 a1 b2 ow2 hcd HU HO
      cases hn : nameS s.data.toList
      · rw [hn] at HN
        have HF := Lib.hid (HCD.out.trans (if_pos hn))
        clear hn
        go_wp2_with fail
        with_reducible refine HN.out.mono ?_
        rintro e w2 ⟨rfl, hb⟩
        go_wp2
        go_ret
        exact ⟨(by rw [HF.out]; try rfl), HB2.out.trans (hb.mono HB2.out.size)⟩
      rw [hn] at HN
      have HCD := Lib.hid (HCD.out.trans (if_neg (fun h => by rw [hn] at h; cases h)))
      clear hn g1
      by_cases hz : zs.length = 0
      · have hzi : ((zs.length : Int) == 0) = true := by rw [beq_iff_eq]; omega
        have HF := Lib.hid (HCD.out.trans (if_pos (.inl hz)))
        have g1 := HW2.out.cell 1
        clear hz HD HCD
        go_wp2_with fail
        with_reducible refine HN.out.mono ?_
        rintro e w2 ⟨rfl, hb⟩
        have g0 := (HW2.out.below hb HW2.out.lt).cell 0
        have HB3 := Lib.hid (HB2.out.trans (hb.mono HB2.out.size))
        clear hb g1
        go_wp2
        go_ret
        exact ⟨(by rw [HF.out]; try rfl), HB3.out⟩
      have hzi : ((zs.length : Int) == 0) = false := by rw [beq_eq_false_iff_ne]; omega
      have g1 := HW2.out.cell 1
      go_wp2_with fail
      with_reducible refine HN.out.mono ?_
      rintro e w2 ⟨rfl, hb⟩
      have HW3 := Lib.hid (HW2.out.below hb HW2.out.lt)
      have HO3 := Lib.hid (HO2.out.below hb HO2.out.lt)
      have HB3 := Lib.hid (HB2.out.trans (hb.mono HB2.out.size))
      have hd := HD.out w2 HB3.out
      generalize hdd : difL n [] zs = dd at *
      have HDD := Lib.hid hdd
      have HD2 := Lib.hid hd
      have g0 := HW3.out.cell 0
      have t1 := HO3.out.cell 1
      clear hb g1 hd HD HW2 HO2 HN hdd
      cases dd
      · have HF := Lib.hid (HCD.out.trans (if_pos (.inr rfl)))
        clear HCD hz
        go_wp2_with fail
        with_reducible refine HD2.out.mono ?_
        rintro e w3 ⟨rfl, hb⟩
        go_wp2
        go_ret
        exact ⟨(by rw [HF.out]; try rfl), HB3.out.trans (hb.mono HB3.out.size)⟩
      · have HF := Lib.hid (HCD.out.trans (if_neg (fun h => h.elim hz (by decide))))
        clear HCD hz
        go_wp2_with fail
        with_reducible refine HD2.out.mono ?_
        rintro e w3 ⟨rfl, hb⟩
        have HO4 := Lib.hid (HO3.out.below hb HO3.out.lt)
        have HB4 := Lib.hid (HB3.out.trans (hb.mono HB3.out.size))
        clear hb
        go_wp2
        go_roundw
        case rel => exact ⟨k + 1, by omega, by go_num, HF, HO4, HB4.out⟩
        case measure => simp [intOf]; omega
    · have hki : ¬ (k : Int) < fs.length := by omega
      have HF := Lib.hid (show frgE n fs = 0 by rw [HR.out, List.drop_eq_nil_of_le (show fs.length ≤ k by omega)]; rfl)
      go_wp2
      go_ret
      exact ⟨(by rw [HF.out]; try rfl), hbr⟩
end Go.Proofs.Yteihjneeiojgaaa
/-
  The words of the reference; that a name stands between blanks in the text of the keywords just where it is a word. Conditions: none.
-/
namespace Go.Proofs.Yteihjneeiojgaaa
set_option maxRecDepth 100000
set_option linter.unusedVariables false
set_option linter.unusedSimpArgs false
open Go.RowKit

def wordsL : List (List UInt8) := [[97, 100, 100], [97, 102, 116, 101, 114], [97, 108, 108], [97, 108, 116, 101, 114], [97, 110, 100], [97, 115], [98, 101, 102, 111, 114, 101], [98, 101, 103, 105, 110], [98, 101, 116, 119, 101, 101, 110], [98, 111, 111, 108], [98, 121], [99, 104, 101, 99, 107], [99, 111, 97, 108, 101, 115, 99, 101], [99, 111, 109, 109, 105, 116], [99, 111, 110, 116, 97, 105, 110, 115], [99, 111, 117, 110, 116], [99, 114, 101, 97, 116, 101], [100, 101, 102, 97, 117, 108, 116], [100, 101, 108, 101, 116, 101], [100, 101, 115, 99], [100, 105, 115, 116, 105, 110, 99, 116], [100, 114, 111, 112], [100, 117, 114, 105, 110, 103], [101, 113, 117, 97, 108, 115], [101, 120, 99, 101, 112, 116], [102, 97, 108, 115, 101], [102, 105, 110, 105, 115, 104, 101, 100, 98, 121], [102, 105, 110, 105, 115, 104, 101, 115], [102, 111, 114, 101, 105, 103, 110], [102, 111, 114, 101, 118, 101, 114], [102, 114, 111, 109], [103, 114, 111, 117, 112], [104, 111, 108, 100], [105, 102], [105, 110, 115, 101, 114, 116], [105, 110, 116], [105, 110, 116, 101, 114, 115, 101, 99, 116], [105, 110, 116, 111], [105, 115], [106, 111, 105, 110], [107, 101, 121], [108, 101, 102, 116], [108, 101, 110, 103, 116, 104], [108, 105, 109, 105, 116], [109, 97, 120], [109, 101, 101, 116, 115], [109, 101, 116, 98, 121], [109, 105, 110], [110, 111, 110, 115, 101, 113, 117, 101, 110, 99, 101, 100], [110, 111, 116], [110, 111, 119], [110, 117, 108, 108], [111, 102], [111, 110], [111, 114], [111, 114, 100, 101, 114], [111, 118, 101, 114, 108, 97, 112, 112, 101, 100, 98, 121], [111, 118, 101, 114, 108, 97, 112, 115], [112, 114, 105, 109, 97, 114, 121], [112, 114, 117, 110, 101], [114, 101, 102, 101, 114, 101, 110, 99, 101, 115], [114, 101, 108, 101, 97, 115, 101], [114, 101, 110, 97, 109, 101], [114, 101, 116, 97, 105, 110], [114, 111, 108, 108, 98, 97, 99, 107], [115, 101, 108, 101, 99, 116], [115, 101, 113, 117, 101, 110, 99, 101, 100], [115, 101, 116], [115, 116, 97, 114, 116, 101, 100, 98, 121], [115, 116, 97, 114, 116, 115], [115, 117, 109], [115, 121, 115, 116, 101, 109], [115, 121, 115, 116, 101, 109, 102, 114, 111, 109], [115, 121, 115, 116, 101, 109, 116, 111], [116, 97, 98, 108, 101], [116, 101, 120, 116], [116, 111], [116, 114, 117, 101], [116, 120], [117, 110, 100, 101, 114], [117, 110, 105, 111, 110], [117, 112, 100, 97, 116, 101], [118, 97, 108, 105, 100], [118, 97, 108, 105, 100, 102, 114, 111, 109], [118, 97, 108, 105, 100, 116, 111], [118, 97, 108, 117, 101, 115], [119, 104, 101, 114, 101]]
def blanked (ws : List (List UInt8)) : List UInt8 := 32 :: ws.flatMap (fun x => x ++ [32])
theorem kw_blanked : kwL = blanked wordsL := by decide +kernel
theorem words_plain : wordsL.all (fun x => x.all (fun b => decide (b ≠ 32))) = true := by decide +kernel
/-- A word and a blank at the head. -/
theorem head_word : ∀ (l x r : List UInt8), (∀ b ∈ l, b ≠ 32) → (∀ b ∈ x, b ≠ 32) → ((l ++ [32]) <+: (x ++ 32 :: r)) → l = x
  | [], [], _, _, _, _ => rfl
  | [], b :: x, r, _, hx, h => by
    obtain ⟨t, ht⟩ := h
    injection ht with h1 _
    exact absurd h1.symm (hx b (List.mem_cons_self ..))
  | a :: l, [], r, hl, _, h => by
    obtain ⟨t, ht⟩ := h
    injection ht with h1 _
    exact absurd h1 (hl a (List.mem_cons_self ..))
  | a :: l, b :: x, r, hl, hx, h => by
    obtain ⟨t, ht⟩ := h
    injection ht with h1 h2
    rw [h1, head_word l x r (fun c hc => hl c (List.mem_cons_of_mem _ hc)) (fun c hc => hx c (List.mem_cons_of_mem _ hc)) ⟨t, h2⟩]
/-- What begins with a blank lies behind a word. -/
theorem past_word (l : List UInt8) : ∀ (x r : List UInt8), (∀ b ∈ x, b ≠ 32) → (32 :: l) <:+: (x ++ 32 :: r) → (32 :: l) <:+: (32 :: r)
  | [], _, _, h => h
  | b :: x, r, hx, h => by
    refine past_word l x r (fun c hc => hx c (List.mem_cons_of_mem _ hc)) ?_
    rcases List.infix_cons_iff.1 h with ⟨t, ht⟩ | h
    · injection ht with h1 _
      exact absurd h1.symm (hx b (List.mem_cons_self ..))
    · exact h
theorem blanked_iff (l : List UInt8) (hl : ∀ b ∈ l, b ≠ 32) (h0 : l ≠ []) : ∀ ws : List (List UInt8), (∀ x ∈ ws, ∀ b ∈ x, b ≠ 32) → ((32 :: (l ++ [32])) <:+: blanked ws ↔ l ∈ ws)
  | [], _ => by
    constructor
    · intro h
      have := h.length_le
      simp [blanked] at this
    · intro h; cases h
  | x :: ws, hw => by
    have hx := hw x (List.mem_cons_self ..)
    have ih := blanked_iff l hl h0 ws (fun y hy => hw y (List.mem_cons_of_mem _ hy))
    have e : blanked (x :: ws) = 32 :: (x ++ blanked ws) := by
      unfold blanked
      rw [List.flatMap_cons, List.append_assoc]
      rfl
    rw [e]
    constructor
    · intro h
      rcases List.infix_cons_iff.1 h with ⟨t, ht⟩ | h
      · injection ht with _ h2
        have q := head_word l x (ws.flatMap (fun x => x ++ [32])) hl hx ⟨t, h2⟩
        rw [q]
        exact List.mem_cons_self ..
      · exact List.mem_cons_of_mem _ (ih.1 (past_word _ x _ hx h))
    · intro h
      rcases List.mem_cons.1 h with rfl | h
      · refine ⟨[], ws.flatMap (fun x => x ++ [32]), ?_⟩
        unfold blanked
        simp
      · obtain ⟨a, b, hab⟩ := ih.2 h
        exact ⟨32 :: (x ++ a), b, by rw [← hab]; simp⟩
theorem occ_infix (s sub : List UInt8) : Lib.contains s sub = true ↔ sub <:+: s := by
  unfold Lib.contains
  rw [decide_eq_true_iff]
  rcases Lib.index_spec s sub with ⟨h1, h2⟩ | ⟨i, h1, h2, h3, _⟩
  · constructor
    · intro h; omega
    · rintro ⟨a, b, rfl⟩
      have h := h2 a.length (by simp)
      unfold Lib.occAt at h
      rw [List.append_assoc, List.drop_left, Bool.eq_false_iff] at h
      exact absurd (List.isPrefixOf_iff_prefix.2 (List.prefix_append sub b)) h
  · refine ⟨fun _ => ?_, fun _ => by omega⟩
    unfold Lib.occAt at h3
    exact (List.isPrefixOf_iff_prefix.1 h3).isInfix.trans (List.drop_suffix i s).isInfix
theorem kw_word (l : List UInt8) (hl : l.all okcB = true) (h0 : l ≠ []) : Lib.contains kwL ([32] ++ l ++ [32]) = decide (l ∈ wordsL) := by
  rw [Bool.eq_iff_iff, occ_infix, decide_eq_true_iff, kw_blanked]
  refine blanked_iff l (fun b hb e => ?_) h0 wordsL (fun x hx b hb e => ?_)
  · have h := List.all_eq_true.1 hl b hb
    rw [e] at h
    revert h
    decide
  · have h := List.all_eq_true.1 (List.all_eq_true.1 words_plain x hx) b hb
    rw [e] at h
    revert h
    decide
end Go.Proofs.Yteihjneeiojgaaa
/-
  tuple.Pick: what it answers. Conditions: lengths.
-/
namespace Go.Proofs.Yteihjneeiojgaaa
set_option maxRecDepth 100000
set_option linter.unusedVariables false
set_option linter.unusedSimpArgs false
open Go.RowKit

theorem made_vals (n : Nat) : madeCells (Value.agg #[.int .i64 0, .int .i64 0, .string ⟨#[]⟩]).cells (n * 3) = rowC [] n := by
  unfold madeCells rowC
  have hz : (Value.agg #[.int .i64 0, .int .i64 0, .string ⟨#[]⟩]).cells = #[.int .i64 0, .int .i64 0, .string ⟨#[]⟩] := by kernel_rfl
  rw [hz]
  apply Array.ext
  · simp [flatV_len]
  · intro i h1 h2
    have hi : i < n * 3 := by simpa using h1
    have hk : i / 3 < n := by omega
    have hg : (List.replicate n zV)[i / 3]? = some zV := by rw [List.getElem?_replicate, if_pos hk]
    obtain ⟨g0, g1, g2⟩ := flatV_get _ _ _ hg
    simp only [List.length_nil, Nat.sub_zero, List.nil_append, Array.getElem_map, Array.getElem_range, List.getElem_toArray]
    have h3 : i = i / 3 * 3 ∨ i = i / 3 * 3 + 1 ∨ i = i / 3 * 3 + 2 := by omega
    have e : ∀ j u, (flatV (List.replicate n zV))[j]? = some u → ∀ h : j < (flatV (List.replicate n zV)).length, (flatV (List.replicate n zV))[j] = u := by
      intro j u hu h
      rw [List.getElem?_eq_getElem h] at hu
      exact Option.some.inj hu
    generalize i / 3 = k at *
    rcases h3 with rfl | rfl | rfl
    · rw [e _ _ g0]; simp; rfl
    · rw [e _ _ g1]; simp [Nat.add_mod]; rfl
    · rw [e _ _ g2]; simp [Nat.add_mod]; rfl
theorem made_rowC (W : World) (n : Nat) (hn : n ≤ 1099511627776) :
    (Instr.makeSlice 90 (.int .i64 (n : Nat)) (.int .i64 (n : Nat))).run Try.prog W = .ok (.slice (some ⟨W.heap.size, 0, none⟩) n n) (W.alloc (.cells (rowC [] n) 38)) := by
  obtain ⟨i0, hi, hz0, hz1, hz2⟩ := info_partsB infoV
  have h := run_make (P := Try.prog) (w := W) 90 38 i0 (.agg #[.int .i64 0, .int .i64 0, .string ⟨#[]⟩]) Try.underlying90 hi hz0 .i64 .i64 (n : Int) (n : Int) (by omega) (Int.le_refl _) (by rw [hz2]; omega) (by omega)
  rw [h, Int.toNat_natCast, hz1, made_vals]
end Go.Proofs.Yteihjneeiojgaaa
/-
  The shelf (a name alone). Conditions: none.
-/
namespace Go.Proofs
set_option linter.unusedVariables false
set_option linter.unusedSimpArgs false
end Go.Proofs
/-
  Columns of the program: the visit, sorted, its runs made single. Conditions: lengths, a bounded depth.
-/
namespace Go.Proofs.Yteihjneeiojgaaa
set_option maxRecDepth 100000
set_option linter.unusedVariables false
set_option linter.unusedSimpArgs false
open Go.RowKit Go.Sort Go.Lib

theorem own_get {w : World} {base : Nat} {e : TypeId} {sz n : Nat} {v : Value} {xs : List Value} (h : w.ownsRow base e sz v n xs) : (v = .slice none 0 0 ∧ n = 0) ∨ ∃ g c, v = .slice (some ⟨g, 0, none⟩) n c ∧ base ≤ g ∧ g < w.heap.size ∧ n ≤ c ∧ ∀ j u, xs[j]? = some u → w.cell? ⟨g, j, none⟩ = some u := by
  have hlen := h.1
  rcases h.2 with ⟨rfl, h0⟩ | ⟨g, cap, cur, rfl, hb, hh, hn, hc, hs, ht⟩
  · exact .inl ⟨rfl, h0⟩
  · have hg : g < w.heap.size := by
      rcases Nat.lt_or_ge g w.heap.size with h1 | h1
      · exact h1
      · rw [Array.getElem?_eq_none h1] at hh; cases hh
    refine .inr ⟨g, cap, rfl, hb, hg, hn, fun j u hj => ?_⟩
    have e : w.cell? ⟨g, j, none⟩ = cur[j]? := cell_of_row w g j cur _ _ hh
    have hjl : j < xs.length := (List.getElem?_eq_some_iff.1 hj).1
    rw [e, ← hj, ← ht, ← Array.getElem?_toList, List.getElem?_take, if_pos (by omega)]
theorem plain_add (g j : Nat) : (⟨g, 0, none⟩ : Addr).add j = ⟨g, j, none⟩ := by
  unfold Addr.add
  split
  · rename_i h; subst h; rfl
  · simp
theorem holdsI_of_own {w : World} {base g c : Nat} {l : List Int} (h : w.ownsRow base 3 1 (.slice (some ⟨g, 0, none⟩) l.length c) l.length (intsV l)) : Holds (Value.int .i64) w g 0 l.toArray := by
  intro j hj
  have hjl : j < l.length * 1 := by simpa using hj
  have h1 := World.ownsRow.cellAt h j hjl
  have h2 := World.ownsRow.frozenAt h j
  rw [Nat.zero_add]
  refine ⟨?_, h2⟩
  have hk : j < l.length := by omega
  rw [h1]
  unfold intsV
  rw [List.getElem?_map, List.getElem?_eq_getElem hk, getElem!_pos l.toArray j (by simpa using hk)]
  simp
theorem below_putRow {α : Type} [Inhabited α] (enc : α → Value) (w : World) (blk off n : Nat) (d : Array α) (os : Array Obj) (hblk : blk < w.heap.size) : Below blk w (grow (putRow enc (Sort.ahead w n) blk off d) os) := by
  refine ⟨rfl, rfl, rfl, ?_, fun j hj => ?_⟩
  · unfold putRow mapBlock grow Sort.ahead
    show w.heap.size ≤ (w.heap.modify blk _ ++ os).size
    rw [Array.size_append, Array.size_modify]; omega
  · unfold putRow mapBlock grow Sort.ahead
    show (w.heap.modify blk _ ++ os)[j]? = _
    rw [Array.getElem?_append_left (by rw [Array.size_modify]; omega), Array.getElem?_modify, if_neg (by omega)]
theorem rdI_of_holds {w : World} {base g c : Nat} {l : List Int} {d : Array Int} (h : Holds (Value.int .i64) w g 0 d) (hl : ∀ (k : Nat) (x : Int), l[k]? = some x → d[k]? = some x) (hb : base ≤ g) (hg : g < w.heap.size) (hll : l.length ≤ 9223372036854775807) : RdI w base w.heap.size (.slice (some ⟨g, 0, none⟩) l.length c) l := by
  refine ⟨some ⟨g, 0, none⟩, c, rfl, hll, fun k x hk => ⟨⟨g, 0, none⟩, rfl, hb, hg, ?_⟩⟩
  have h1 := hl k x hk
  obtain ⟨hk1, hk2⟩ := Array.getElem?_eq_some_iff.1 h1
  have h2 := (h k hk1).1
  rw [getElem!_pos d k hk1, hk2, Nat.zero_add] at h2
  rw [plain_add]
  exact h2

theorem own_two2Y (W : World) (g : Nat) (hg : W.heap.size = g) (v : Value) : Own (W.alloc (.cells #[v] 23)) g 23 #[v] := by
  subst hg
  exact Own.new W _ _
def RetCol (w : World) (l : List Int) (e : Ending) (w' : World) : Prop := ∃ v, e = .returned v ∧ RdI w' w.heap.size w'.heap.size v l ∧ Below w.heap.size w w'
set_option maxRecDepth 100000 in
set_option maxHeartbeats 6400000 in
theorem pColumns_any (d : Nat) (e : Ex) (u : Value) (w : World) (L : Nat) (h : RdE w L w.heap.size d u e.args) (hlen : (colE d e).length ≤ 1099511627776) :
    Calls Try.prog 56 #[exV e u] w (RetCol w (colS (colE d e))) := by
  obtain ⟨A, c, rfl, _⟩ := h.slice
  have b1 := bel_mk w (.cells (exA e (.slice A e.args.length c)) 65)
  have b2 := bel_mk (w.alloc (.cells (exA e (.slice A e.args.length c)) 65)) (.cells #[.slice none 0 0] 23)
  have HB := Lib.hid (b1.trans (b2.mono b1.size))
  have HE := Lib.hid ((Own.new w 65 (exA e (.slice A e.args.length c))).alloc (.cells #[.slice none 0 0] 23))
  have HG := Lib.hid (own_two2Y (w.alloc (.cells (exA e (.slice A e.args.length c)) 65)) (w.heap.size + 1) (by rw [World.size_alloc]) (.slice none 0 0))
  have HV := Lib.hid (pVisit_any d e (.slice A e.args.length c) (w.heap.size + 1) (w.heap.size + 2) (.slice none 0 0) [] _ L (by have h3 := (h.step b1 (Nat.le_refl _)).below b2; simp only [World.size_alloc] at h3; exact h3) HG.out (by omega) (by simp only [World.size_alloc]; omega) (World.ownsRow_nil _ _ _ 1) (by simpa using hlen))
  have HL := Lib.hid hlen
  clear b1 b2 h hlen
  rw [List.nil_append] at HV
  generalize hzs : colE d e = zs at *
  clear hzs
  unfold exV exA at *
  have e0 := HE.out.cell 0
  have e1 := HE.out.cell 1
  have e2 := HE.out.cell 2
  have e3 := HE.out.cell 3
  have e4 := HE.out.cell 4
  have e5 := HE.out.cell 5
  have e6 := HE.out.cell 6
  go_enter Try.func56, Try.ntmps56
  go_wp2_with fail
  with_reducible refine HV.out.mono ?_
  rintro e' w2 ⟨rfl, v2, hg2, hr2, hb2⟩
  have HB2 := Lib.hid (HB.out.trans (hb2.mono (by omega)))
  clear e0 e1 e2 e3 e4 e5 e6 HV HE HG HB hb2
  have c0 := hg2.cell 0
  have HG2 := Lib.hid hg2
  have HSP := colS_len zs
  have hdef : Lib.compact (zs.mergeSort fun x y => decide (x ≤ y)) = colS zs := rfl
  have HSPh := Lib.hid hdef
  have hML : ((zs.mergeSort fun x y => decide (x ≤ y))).length = zs.length := List.length_mergeSort _
  rcases own_get hr2 with ⟨rfl, h0⟩ | ⟨g, cc, rfl, hbg, hg, hnc, _⟩
  · obtain rfl := List.eq_nil_of_length_eq_zero h0
    have hE := Lib.hid (show colS [] = [] from List.eq_nil_of_length_eq_zero (by have := colS_len []; simpa using this))
    clear hML h0 HSP hdef HSPh hr2 hg2
    go_wp2_with (first
      | (go_at_call 67; refine (Try.slices_Sort_int_none none 0 _).mono ?_; rintro e w3 ⟨rfl, rfl⟩)
      | (go_at_call 68; refine (Try.slices_Compact_int_empty none 0 _).mono ?_; rintro e w3 ⟨rfl, rfl⟩))
    go_ret
    rw [hE.out]
    exact ⟨_, rfl, ⟨none, 0, rfl, by simp, by simp⟩, HB2.out⟩
  · have hH := holdsI_of_own hr2
    have HLL := HL.out
    have hcon := Lib.hid (Try.slices_Sort_int g 0 cc zs w2 hH hg (by omega))
    generalize hms : (zs.mergeSort fun x y => decide (x ≤ y)) = ms at *
    clear hms
    have HH := Lib.hid hH
    have hML3 := Lib.hid (show zs.length = ms.length from hML.symm)
    have HHG := Lib.hid hg
    have HNC := Lib.hid hnc
    have HBG := Lib.hid hbg
    have HSZ := Lib.hid HSP
    clear hML hH hr2 hdef hg hnc hbg HSP hg2 HLL
    go_wp2_with fail
    with_reducible refine hcon.out.mono ?_
    rintro e w3 ⟨rfl, n2, os2, rfl⟩
    have hbS := below_putRow (Value.int .i64) w2 g 0 n2 ms.toArray os2 HHG.out
    have hH2 : Holds (Value.int .i64) (grow (putRow (Value.int .i64) (Sort.ahead w2 n2) g 0 ms.toArray) os2) g 0 ms.toArray := by
      refine holds_grow _ _ _ _ _ _ ?_ (holds_putRow _ _ _ _ zs.toArray _ HH.out (by have := hML3.out; simpa using this.symm))
      unfold putRow mapBlock Sort.ahead
      show g < (w2.heap.modify g _).size
      rw [Array.size_modify]; exact HHG.out
    have hg3 := Nat.lt_of_lt_of_le HHG.out hbS.size
    generalize grow (putRow (Value.int .i64) (Sort.ahead w2 n2) g 0 ms.toArray) os2 = w3 at *
    have hgx := HG2.out.below hbS (by have := HBG.out; omega)
    replace c0 := hgx.cell 0
    have hcon2 := Try.slices_Compact_int g 0 cc ms w3 hH2 (by have := hML3.out; have := HL.out; omega) (by have := hML3.out; have := HNC.out; omega)
    rw [HSPh.out, ← hML3.out] at hcon2
    have HC2 := Lib.hid hcon2
    have HH2 := Lib.hid hH2
    have HG3 := Lib.hid hg3
    have HBS := Lib.hid hbS
    clear hH2 hcon2 hg3 hbS hgx hcon HG2
    go_wp2_with fail
    with_reducible refine HC2.out.mono ?_
    rintro e w4 ⟨rfl, n3, rfl⟩
    go_wp2
    go_ret
    have hML2 := hML3.out
    have hcl := HSZ.out
    have hbC := below_putRow (Value.int .i64) w3 g 0 n3 (colS zs ++ List.replicate (zs.length - (colS zs).length) 0).toArray #[] HG3.out
    rw [grow_empty] at hbC
    have hH3 : Holds (Value.int .i64) (putRow (Value.int .i64) (Sort.ahead w3 n3) g 0 (colS zs ++ List.replicate (zs.length - (colS zs).length) 0).toArray) g 0 (colS zs ++ List.replicate (zs.length - (colS zs).length) 0).toArray :=
      holds_putRow _ _ _ _ ms.toArray _ HH2.out (by simp; omega)
    have hbg := HBG.out
    have hll := HL.out
    refine ⟨_, rfl, (rdI_of_holds (c := cc) hH3 (fun k x hk => ?_) (by omega) (Nat.lt_of_lt_of_le HG3.out hbC.size) (by omega)), HB2.out.trans ((HBS.out.mono (by omega)).trans (hbC.mono (by omega)))⟩
    have hk1 := (List.getElem?_eq_some_iff.1 hk).1
    rw [List.getElem?_toArray, List.getElem?_append_left hk1]; exact hk
end Go.Proofs.Yteihjneeiojgaaa
/-
  The reference's insert: a number into an ascending list. Conditions: lengths.
-/
namespace Go.Proofs.Yteihjneeiojgaaa
set_option maxRecDepth 100000
set_option linter.unusedVariables false
set_option linter.unusedSimpArgs false
open Go.RowKit

theorem own_empty (w : World) : (w.alloc (.cells #[] 3)).ownsRow w.heap.size 3 1 (.slice (some ⟨w.heap.size, 0, none⟩) 0 0) ([] : List Int).length (intsV []) :=
  ⟨rfl, .inr ⟨w.heap.size, 0, #[], rfl, Nat.le_refl _, heap_alloc_new w _, Nat.le_refl _, Nat.zero_le _, rfl, rfl⟩⟩
theorem lowI_take {l : List Int} {n : Int} : ∀ {k : Nat}, k ≤ (lowI l n).length → lowI (l.take k) n = l.take k := by
  induction l with
  | nil => intro k _; simp [lowI]
  | cons x l ih =>
    intro k hk
    rw [lowI_cons] at hk
    by_cases hx : x < n
    · rw [if_pos hx] at hk
      cases k with
      | zero => simp [lowI]
      | succ k =>
        rw [List.take_succ_cons, lowI_cons, if_pos hx, ih (by simpa using hk)]
    · rw [if_neg hx] at hk
      have : k = 0 := by simpa using hk
      subst this
      simp [lowI]
theorem lowI_step : ∀ {l : List Int} {n x : Int} {k : Nat}, l[k]? = some x → k ≤ (lowI l n).length → (if x < n then k + 1 ≤ (lowI l n).length else (lowI l n).length = k)
  | y :: l, n, x, 0, h, _ => by
    have e : y = x := by simpa using h
    subst e
    rw [lowI_cons]
    by_cases hx : y < n
    · rw [if_pos hx, if_pos hx]; simp
    · rw [if_neg hx, if_neg hx]; rfl
  | y :: l, n, x, k + 1, h, hk => by
    have h2 : l[k]? = some x := by simpa using h
    rw [lowI_cons] at hk ⊢
    by_cases hy : y < n
    · rw [if_pos hy] at hk ⊢
      have h3 := lowI_step h2 (by simpa using hk)
      by_cases hx : x < n
      · rw [if_pos hx] at h3 ⊢; simpa using h3
      · rw [if_neg hx] at h3 ⊢; simpa using h3
    · rw [if_neg hy] at hk
      simp at hk
theorem lowI_le (l : List Int) (n : Int) : (lowI l n).length ≤ l.length := List.Sublist.length_le (List.takeWhile_sublist _)
theorem lowI_eq (l : List Int) (n : Int) : lowI l n = l.take (lowI l n).length := by
  have h : lowI l n <+: l := List.takeWhile_prefix _
  exact List.prefix_iff_eq_take.1 h
/-- What stands after the first k elements, k not below the smaller ones' number. -/
def insK (l : List Int) (n : Int) (k : Nat) : List Int := lowI l n ++ n :: (((l.take k).drop (lowI l n).length).filter fun x => decide (x ≠ n))
theorem insK_full (l : List Int) (n : Int) (k : Nat) (h : l.length ≤ k) : insK l n k = insI l n := by
  unfold insK insI
  rw [List.take_of_length_le h]
theorem insK_first (l : List Int) (n : Int) : insK l n (lowI l n).length = lowI l n ++ [n] := by
  unfold insK
  rw [List.drop_of_length_le (by rw [List.length_take]; omega)]
  rfl
theorem insK_step {l : List Int} {n x : Int} {k : Nat} (h : l[k]? = some x) (hk : (lowI l n).length ≤ k) : insK l n (k + 1) = if x = n then insK l n k else insK l n k ++ [x] := by
  unfold insK
  have hkl := (List.getElem?_eq_some_iff.1 h).1
  rw [List.take_add_one, h, List.drop_append_of_le_length (by rw [List.length_take]; omega), List.filter_append]
  by_cases e : x = n
  · rw [if_pos e]
    simp [e]
  · rw [if_neg e]
    simp [e]
theorem insK_len (l : List Int) (n : Int) (k : Nat) (hk : (lowI l n).length ≤ k) (hkl : k ≤ l.length) : (insK l n k).length ≤ k + 1 := by
  unfold insK
  rw [List.length_append, List.length_cons]
  have h := List.length_filter_le (fun x => decide (x ≠ n)) ((l.take k).drop (lowI l n).length)
  rw [List.length_drop, List.length_take] at h
  omega
def RetIn (w : World) (l : List Int) (e : Ending) (w' : World) : Prop := ∃ v, e = .returned v ∧ w'.ownsRow w.heap.size 3 1 v l.length (intsV l) ∧ Below w.heap.size w w'
end Go.Proofs.Yteihjneeiojgaaa
