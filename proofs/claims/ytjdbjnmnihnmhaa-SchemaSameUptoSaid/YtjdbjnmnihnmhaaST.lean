import Derived.Test.YtjdbjnmnihnmhaaSA
import Derived.Maps.Keyed
import Derived.WalkKit
import Derived.WalkSpells
import Derived.WalkLawsBesides
import Derived.Deep.QuietTactic
import Derived.BigQuiet
import Derived.Handy
import Derived.Lib.Hide
/-
  A set of numbers that a call keeps (map[int]bool); schema.areDifferent. Conditions: the numbers are those of an int.
-/
namespace Go.Proofs.Ytjdbjnmnihnmhaa
set_option maxRecDepth 100000
set_option linter.unusedVariables false
set_option linter.unusedSimpArgs false
open Go.RowKit Go.ChangeShapes Go.WideShapes Go.MapKept Go.ChangeMaps Go.WideElems
open Go.Maps (Keyed int_keyed keyOf_int_mk)

/-- The map in block b holds just the numbers ns, each true. -/
def MapZ (w : World) (b : Nat) (ns : List Int) : Prop :=
  ∃ (es : Array MapEntry) (clock : Nat), w.heap[b]? = some (.map es clock) ∧ (∀ x ∈ es.toList, ∃ s : Int, x.key = .int .i64 s ∧ (Lit.int .i64 s).wf = true ∧ s ∈ ns ∧ x.val = .bool true) ∧ ∀ s ∈ ns, ∃ x ∈ es.toList, x.key = .int .i64 s
theorem MapZ.lt {w : World} {b : Nat} {ns : List Int} (h : MapZ w b ns) : b < w.heap.size := by
  obtain ⟨es, c, h1, _⟩ := h
  exact (Array.getElem?_eq_some_iff.1 h1).1
theorem MapZ.below {B : Nat} {w w' : World} {b : Nat} {ns : List Int} (h : MapZ w b ns) (hb : Below B w w') (hg : b < B) : MapZ w' b ns := by
  obtain ⟨es, c, h1, h2⟩ := h
  exact ⟨es, c, (hb.block b hg).trans h1, h2⟩
theorem MapZ.new (w : World) : MapZ (w.alloc (.map #[] 0)) w.heap.size [] := ⟨#[], 0, heap_alloc_new w _, fun x h => by simp at h, fun s h => by simp at h⟩
theorem lawZ : Keyed Try.prog 3 := int_keyed Try.underlying3
theorem wf_int {s : Int} (h1 : -9223372036854775808 ≤ s) (h2 : s ≤ 9223372036854775807) : (Lit.int .i64 s).wf = true := by
  have a : IntKind.min .i64 = -9223372036854775808 := by decide
  have b : IntKind.max .i64 = 9223372036854775807 := by decide
  simp only [Lit.wf, a, b, Bool.and_eq_true, decide_eq_true_eq]
  exact ⟨h1, h2⟩
theorem MapZ.look {w : World} {b : Nat} {ns : List Int} (h : MapZ w b ns) (s : Int) (hs : (Lit.int .i64 s).wf = true) :
    (Instr.lookup 79 (.map (some b)) (.int .i64 s) false).run Try.prog w = .ok (.bool (decide (s ∈ ns))) w := by
  obtain ⟨es, c, hb, h1, h2⟩ := h
  have hkey := keyOf_int_mk (P := Try.prog) Try.underlying3 hs
  have hz : (zeroValue 4).run Try.prog w = .ok (.bool false) w := rfl
  have hks : ∀ e ∈ es.toList, ∃ l, keyOf Try.prog 3 e.key = some l := fun e he => by
    obtain ⟨s2, e1, e2, _⟩ := h1 e he
    rw [e1]
    exact ⟨_, keyOf_int_mk Try.underlying3 e2⟩
  rcases lawZ.find w hkey es.toList hks with ⟨f1, f2⟩ | ⟨j, e0, f1, f2, f3⟩
  · have hn : decide (s ∈ ns) = false := decide_eq_false (fun hm => by
      obtain ⟨x, hx, hx2⟩ := h2 _ hm
      exact f2 x hx hx2)
    rw [hn]
    simp [Instr.lookup, run_underlying Try.underlying79, MapKept.run_getObj_map hb, lawZ.check w _ hkey, f1, hz, Result.andThen]
  · have hm0 : e0 ∈ es.toList := List.mem_of_getElem? f2
    obtain ⟨s2, e1, e2, e3, e4⟩ := h1 e0 hm0
    rw [f3] at e1
    injection e1 with _ e1
    subst e1
    rw [decide_eq_true e3]
    simp [Instr.lookup, run_underlying Try.underlying79, MapKept.run_getObj_map hb, lawZ.check w _ hkey, f1, e4, Result.andThen]
theorem MapZ.put {w : World} {b : Nat} {ns : List Int} (h : MapZ w b ns) (s : Int) (hs : (Lit.int .i64 s).wf = true) (hn : s ∉ ns) :
    ∃ w', (Instr.mapUpdate 79 (.map (some b)) (.int .i64 s) (.bool true)).run Try.prog w = .ok () w' ∧ MapZ w' b (ns ++ [s]) ∧ w.grownBy w' (some b) ∧ w'.heap.size = w.heap.size := by
  have hlt := h.lt
  obtain ⟨es, c, hb, h1, h2⟩ := h
  have hkey := keyOf_int_mk (P := Try.prog) Try.underlying3 hs
  have hks : ∀ e ∈ es.toList, ∃ l, keyOf Try.prog 3 e.key = some l := fun e he => by
    obtain ⟨s2, e1, e2, _⟩ := h1 e he
    rw [e1]
    exact ⟨_, keyOf_int_mk Try.underlying3 e2⟩
  rcases lawZ.find w hkey es.toList hks with ⟨f1, f2⟩ | ⟨j, e0, f1, f2, f3⟩
  · refine ⟨setBlock w b (.map (es.push ⟨.int .i64 s, .bool true, c⟩) (c + 1)), ?_, ⟨es.push ⟨.int .i64 s, .bool true, c⟩, c + 1, ?_, ?_, ?_⟩, ⟨rfl, rfl, rfl, ?_, ?_⟩, ?_⟩
    · simp [Instr.mapUpdate, run_underlying Try.underlying79, MapKept.run_getObj_map hb, lawZ.check w false hkey, f1, MapKept.run_setObj_map _ hb, Result.andThen, setBlock]
    · unfold setBlock
      simp [hlt]
    · intro x hx
      simp only [Array.toList_push, List.mem_append, List.mem_singleton] at hx
      rcases hx with hx | rfl
      · obtain ⟨s2, e1, e2, e3, e4⟩ := h1 x hx
        exact ⟨s2, e1, e2, List.mem_append_left _ e3, e4⟩
      · exact ⟨s, rfl, hs, by simp, rfl⟩
    · intro s2 hs2
      rcases List.mem_append.1 hs2 with hs2 | hs2
      · obtain ⟨x, hx, hx2⟩ := h2 s2 hs2
        exact ⟨x, by simp [hx], hx2⟩
      · exact ⟨⟨.int .i64 s, .bool true, c⟩, by simp, by rw [List.mem_singleton.1 hs2]⟩
    · unfold setBlock; simp
    · intro i hi hne
      have hne2 : b ≠ i := fun e => hne (by rw [e])
      unfold setBlock
      simp [hne2]
    · unfold setBlock; simp
  · have hm0 : e0 ∈ es.toList := List.mem_of_getElem? f2
    obtain ⟨s2, e1, e2, e3, e4⟩ := h1 e0 hm0
    rw [f3] at e1
    injection e1 with _ e1
    subst e1
    exact absurd e3 hn
def difL (n : Int) (pre : List Int) : List Int → Bool
  | [] => true
  | i :: l => if i < 0 ∨ n ≤ i ∨ i ∈ pre then false else difL n (pre ++ [i]) l
theorem difL_drop {n : Int} {zs : List Int} {k : Nat} {i : Int} (h : zs[k]? = some i) : difL n (zs.take k) (zs.drop k) = if i < 0 ∨ n ≤ i ∨ i ∈ zs.take k then false else difL n (zs.take (k + 1)) (zs.drop (k + 1)) := by
  have h0 := h
  obtain ⟨h1, rfl⟩ := List.getElem?_eq_some_iff.1 h
  rw [List.drop_eq_getElem_cons h1, List.take_add_one, h0]
  rfl
set_option maxRecDepth 100000 in
set_option maxHeartbeats 6400000 in
theorem areDif_any (v : Value) (zs : List Int) (n : Int) (w : World) (L : Nat) (hz : RdI w L w.heap.size v zs) (hn : n ≤ 9223372036854775807) :
    Calls Try.prog 47 #[v, .int .i64 n] w fun e w' => e = .returned (.bool (difL n [] zs)) ∧ Below w.heap.size w w' := by
  obtain ⟨A, c, rfl, hl1, hc1⟩ := hz
  have HC := Lib.hid hc1
  have HB1 := Lib.hid (bel_mark w (.map #[] 0))
  have HS1 := Lib.hid (MapZ.new w)
  have HE := Lib.hid (show difL n [] zs = difL n (zs.take 0) (zs.drop 0) from rfl)
  clear hc1
  have hmk : (Instr.makeMap 79 none).run Try.prog w = .ok (.map (some w.heap.size)) (w.alloc (.map #[] 0)) := rfl
  go_enter Try.func47, Try.ntmps47
  go_wp2_with fail
  go_loopw [11] (fun i wr => ∃ k : Nat, k ≤ zs.length ∧ i = .int .i64 k ∧ Hid (difL n [] zs = difL n (zs.take k) (zs.drop k)) ∧ Hid (MapZ wr w.heap.size (zs.take k)) ∧ Below w.heap.size w wr) (fun i _ => zs.length - (intOf i).toNat)
  case atStart => exact ⟨0, Nat.zero_le _, rfl, HE, HS1, HB1.out⟩
  case round =>
    obtain ⟨k, hk, rfl, HR, HS, hbr⟩ := hrel
    have hbz := hbr.size
    by_cases hlt : k < zs.length
    · have hki : (k : Int) < zs.length := by omega
      obtain ⟨ad, rfl, _, hab, a0⟩ := HC.out k _ (List.getElem?_eq_getElem hlt)
      have hcd := difL_drop (n := n) (List.getElem?_eq_getElem hlt)
      rw [← HR.out] at hcd
      have htk : zs.take (k + 1) = zs.take k ++ [zs[k]] := by rw [List.take_add_one, List.getElem?_eq_getElem hlt]; rfl
      generalize zs[k] = i at *
      have e0 := (hbr.cell (p := ad.add k) (by rw [add_block]; exact hab)).trans a0
      have HCD := Lib.hid hcd
      have HTK := Lib.hid htk
      clear a0 hcd htk hmk
      by_cases h0 : i < 0
      · have HF := Lib.hid (HCD.out.trans (if_pos (.inl h0)))
        go_wp2
        go_ret
        exact ⟨(by rw [HF.out]; try rfl), hbr⟩
      by_cases h1 : n ≤ i
      · have HF := Lib.hid (HCD.out.trans (if_pos (.inr (.inl h1))))
        go_wp2
        go_ret
        exact ⟨(by rw [HF.out]; try rfl), hbr⟩
      have hwf : (Lit.int .i64 i).wf = true := wf_int (by omega) (by omega)
      by_cases hmem : i ∈ zs.take k
      · have HF := Lib.hid (HCD.out.trans (if_pos (.inr (.inr hmem))))
        have hlk := HS.out.look i hwf
        rw [decide_eq_true hmem] at hlk
        clear hmem hwf
        go_wp2
        go_ret
        exact ⟨(by rw [HF.out]; try rfl), hbr⟩
      · have HF := Lib.hid (HCD.out.trans (if_neg (fun h => h.elim h0 (fun h => h.elim h1 hmem))))
        have hlk := HS.out.look i hwf
        rw [decide_eq_false hmem] at hlk
        obtain ⟨w3, hpt, hs3, hg3, hz3⟩ := HS.out.put i hwf hmem
        rw [← HTK.out] at hs3
        have HS3 := Lib.hid hs3
        have G4 := Lib.hid (hbr.grown hg3 hbr.size (fun k hk => by injection hk with hk; omega))
        clear hs3 hg3 hz3 hmem hwf
        go_wp2
        go_roundw
        case rel => exact ⟨k + 1, by omega, by go_num, HF, HS3, G4.out⟩
        case measure => simp [intOf]; omega
    · have hki : ¬ (k : Int) < zs.length := by omega
      have HF := Lib.hid (show difL n [] zs = true by rw [HR.out, List.drop_eq_nil_of_le (show zs.length ≤ k by omega)]; rfl)
      go_wp2
      go_ret
      exact ⟨(by rw [HF.out]; try rfl), hbr⟩
end Go.Proofs.Ytjdbjnmnihnmhaa
/-
  Foreign keys that lie in memory; schema.checkForeigns: what it answers. Conditions: the search's variable holds some number.
-/
namespace Go.Proofs.Ytjdbjnmnihnmhaa
set_option maxRecDepth 100000
set_option linter.unusedVariables false
set_option linter.unusedSimpArgs false
open Go.RowKit

/-- A foreign key: its columns, its table. -/
abbrev Fk := List Int × ByteArray
def RdF (w : World) (L B : Nat) (v : Value) (fs : List Fk) : Prop :=
  ∃ A c, v = .slice A fs.length c ∧ fs.length ≤ 9223372036854775807 ∧ ∀ (k : Nat) (f : Fk), fs[k]? = some f → ∃ (ad : Addr) (u : Value), A = some ad ∧ L ≤ ad.block ∧ ad.block < B ∧
    w.cell? (ad.add (k * 2)) = some u ∧ w.cell? ⟨(ad.add (k * 2)).block, (ad.add (k * 2)).off + 1, none⟩ = some (.string f.2) ∧ RdI w L B u f.1
theorem RdF.below {w w' : World} {L B : Nat} {v : Value} {fs : List Fk} (h : RdF w L B v fs) (hb : Below B w w') : RdF w' L B v fs := by
  obtain ⟨A, c, hv, hl, hc⟩ := h
  refine ⟨A, c, hv, hl, fun k n hk => ?_⟩
  obtain ⟨ad, u, h1, h0, h2, h3, h4, h5⟩ := hc k n hk
  exact ⟨ad, u, h1, h0, h2, (hb.cell (p := ad.add (k * 2)) (by rw [add_block]; exact h2)).trans h3, (hb.cell (p := ⟨(ad.add (k * 2)).block, (ad.add (k * 2)).off + 1, none⟩) (by show (ad.add (k * 2)).block < _; rw [add_block]; exact h2)).trans h4, h5.below hb⟩
theorem RdF.more {w : World} {L B B' : Nat} {v : Value} {fs : List Fk} (h : RdF w L B v fs) (hB : B ≤ B') : RdF w L B' v fs := by
  obtain ⟨A, c, hv, hl, hc⟩ := h
  exact ⟨A, c, hv, hl, fun k n hk => let ⟨ad, u, h1, h0, h2, h3, h4, h5⟩ := hc k n hk; ⟨ad, u, h1, h0, Nat.lt_of_lt_of_le h2 hB, h3, h4, h5.more hB⟩⟩
theorem RdF.step {w w' : World} {L B : Nat} {v : Value} {fs : List Fk} (h : RdF w L B v fs) (hb : Below w.heap.size w w') (hB : B ≤ w.heap.size) : RdF w' L w'.heap.size v fs :=
  ((h.more hB).below hb).more hb.size
def frgL (n : Int) : List Fk → Int
  | [] => 0
  | f :: fs => if nameS f.2.data.toList = false then 1 else if f.1.length = 0 ∨ difL n [] f.1 = false then 25 else frgL n fs
def frgE (n : Int) (fs : List Fk) : Int := if 4 < fs.length then 5 else frgL n fs
theorem frgL_drop (n : Int) {fs : List Fk} {k : Nat} {f : Fk} (h : fs[k]? = some f) : frgL n (fs.drop k) = if nameS f.2.data.toList = false then 1 else if f.1.length = 0 ∨ difL n [] f.1 = false then 25 else frgL n (fs.drop (k + 1)) := by
  obtain ⟨h1, rfl⟩ := List.getElem?_eq_some_iff.1 h
  rw [List.drop_eq_getElem_cons h1]
  rfl
set_option maxRecDepth 100000 in
set_option maxHeartbeats 12800000 in
theorem checkForeigns_any (nm vk vf vx : Value) (A0 : Option Addr) (c0 n : Nat) (fs : List Fk) (m : Int) (w : World) (L : Nat) (hm : w.cell? ⟨0, 0, none⟩ = some (.int .i64 m)) (hn : n ≤ 9223372036854775807) (hf : RdF w L w.heap.size vf fs) :
    Calls Try.prog 40 #[.agg #[nm, .slice A0 n c0, vk, vf, vx]] w fun e w' => e = .returned (.int .i64 (frgE n fs)) ∧ Below w.heap.size w w' := by
  have HM := Lib.hid hm
  have hm0 := World.block_lt_of_cell? w _ hm
  obtain ⟨A, c, rfl, hl1, hc1⟩ := hf
  have HC := Lib.hid hc1
  have HB1 := Lib.hid (bel_mark w (.cells #[nm, .slice A0 n c0, vk, .slice A fs.length c, vx] 27))
  have HO1 := Lib.hid (Own.new w 27 #[nm, .slice A0 n c0, vk, .slice A fs.length c, vx])
  have d3 := HO1.out.cell 3
  clear hc1 hm
  by_cases hx : 4 < fs.length
  · have hxi : (4 : Int) < fs.length := by omega
    have HF := Lib.hid (show frgE n fs = 5 from if_pos hx)
    go_enter Try.func40, Try.ntmps40
    go_wp2
    go_ret
    exact ⟨(by rw [HF.out]; try rfl), HB1.out⟩
  have hxi : ¬ (4 : Int) < fs.length := by omega
  have HE := Lib.hid (show frgE n fs = frgL n (fs.drop 0) from if_neg hx)
  clear hx
  go_enter Try.func40, Try.ntmps40
  go_wp2_with fail
  go_loopw [12] (fun i wr => ∃ k : Nat, k ≤ fs.length ∧ i = .int .i64 k ∧ Hid (frgE n fs = frgL n (fs.drop k)) ∧ Hid (Own wr w.heap.size 27 #[nm, .slice A0 n c0, vk, .slice A fs.length c, vx]) ∧ Below w.heap.size w wr) (fun i _ => fs.length - (intOf i).toNat)
  case atStart => exact ⟨0, Nat.zero_le _, rfl, HE, HO1, HB1.out⟩
  case round =>
    obtain ⟨k, hk, rfl, HR, HO, hbr⟩ := hrel
    have hbz := hbr.size
    clear d3
    by_cases hlt : k < fs.length
    · have hki : (k : Int) < fs.length := by omega
      obtain ⟨ad, u, rfl, _, hab, a0, a1, hu⟩ := HC.out k _ (List.getElem?_eq_getElem hlt)
      have hcd := frgL_drop n (List.getElem?_eq_getElem hlt)
      rw [← HR.out] at hcd
      generalize fs[k] = q at *
      obtain ⟨zs, s⟩ := q
      dsimp only at a1 hu hcd
      have HU := Lib.hid hu
      obtain ⟨Au, cu, rfl, hlu, _⟩ := hu
      have e0 := (hbr.cell (p := ad.add (k * 2)) (by rw [add_block]; exact hab)).trans a0
      have e1 := (hbr.cell (p := ⟨(ad.add (k * 2)).block, (ad.add (k * 2)).off + 1, none⟩) (by show (ad.add (k * 2)).block < _; rw [add_block]; exact hab)).trans a1
      have b2 := bel_mark wr (.cells #[.slice Au zs.length cu, .string s] 37)
      have ow2 := Own.new wr 37 #[.slice Au zs.length cu, .string s]
      have g1 := ow2.cell 1
      have HW2 := Lib.hid ow2
      have HO2 := Lib.hid (HO.out.alloc (.cells #[.slice Au zs.length cu, .string s] 37))
      have HB2 := Lib.hid (hbr.trans (b2.mono hbz))
      have HN := Lib.hid (pName_any s m (wr.alloc (.cells #[.slice Au zs.length cu, .string s] 37)) ((HB2.out.cell (p := ⟨0, 0, none⟩) hm0).trans HM.out))
      have HD := Lib.hid (fun (W : World) (hb : Below w.heap.size w W) => areDif_any _ zs n W L (HU.out.step hb (Nat.le_refl _)) (by omega))
      have HCD := Lib.hid hcd
      clear a0 a1 b2 ow2 hcd HU HO
      cases hn : nameS s.data.toList
      · rw [hn] at HN
        have HF := Lib.hid (HCD.out.trans (if_pos hn))
        clear hn
        go_wp2_with fail
        with_reducible refine HN.out.mono ?_
        rintro e w2 ⟨rfl, hb⟩
        go_wp2
        go_ret
        exact ⟨(by rw [HF.out]; try rfl), HB2.out.trans (hb.mono HB2.out.size)⟩
      rw [hn] at HN
      have HCD := Lib.hid (HCD.out.trans (if_neg (fun h => by rw [hn] at h; cases h)))
      clear hn g1
      by_cases hz : zs.length = 0
      · have hzi : ((zs.length : Int) == 0) = true := by rw [beq_iff_eq]; omega
        have HF := Lib.hid (HCD.out.trans (if_pos (.inl hz)))
        have g1 := HW2.out.cell 1
        clear hz HD HCD
        go_wp2_with fail
        with_reducible refine HN.out.mono ?_
        rintro e w2 ⟨rfl, hb⟩
        have g0 := (HW2.out.below hb HW2.out.lt).cell 0
        have HB3 := Lib.hid (HB2.out.trans (hb.mono HB2.out.size))
        clear hb g1
        go_wp2
        go_ret
        exact ⟨(by rw [HF.out]; try rfl), HB3.out⟩
      have hzi : ((zs.length : Int) == 0) = false := by rw [beq_eq_false_iff_ne]; omega
      have g1 := HW2.out.cell 1
      go_wp2_with fail
      with_reducible refine HN.out.mono ?_
      rintro e w2 ⟨rfl, hb⟩
      have HW3 := Lib.hid (HW2.out.below hb HW2.out.lt)
      have HO3 := Lib.hid (HO2.out.below hb HO2.out.lt)
      have HB3 := Lib.hid (HB2.out.trans (hb.mono HB2.out.size))
      have hd := HD.out w2 HB3.out
      generalize hdd : difL n [] zs = dd at *
      have HDD := Lib.hid hdd
      have HD2 := Lib.hid hd
      have g0 := HW3.out.cell 0
      have t1 := HO3.out.cell 1
      clear hb g1 hd HD HW2 HO2 HN hdd
      cases dd
      · have HF := Lib.hid (HCD.out.trans (if_pos (.inr rfl)))
        clear HCD hz
        go_wp2_with fail
        with_reducible refine HD2.out.mono ?_
        rintro e w3 ⟨rfl, hb⟩
        go_wp2
        go_ret
        exact ⟨(by rw [HF.out]; try rfl), HB3.out.trans (hb.mono HB3.out.size)⟩
      · have HF := Lib.hid (HCD.out.trans (if_neg (fun h => h.elim hz (by decide))))
        clear HCD hz
        go_wp2_with fail
        with_reducible refine HD2.out.mono ?_
        rintro e w3 ⟨rfl, hb⟩
        have HO4 := Lib.hid (HO3.out.below hb HO3.out.lt)
        have HB4 := Lib.hid (HB3.out.trans (hb.mono HB3.out.size))
        clear hb
        go_wp2
        go_roundw
        case rel => exact ⟨k + 1, by omega, by go_num, HF, HO4, HB4.out⟩
        case measure => simp [intOf]; omega
    · have hki : ¬ (k : Int) < fs.length := by omega
      have HF := Lib.hid (show frgE n fs = 0 by rw [HR.out, List.drop_eq_nil_of_le (show fs.length ≤ k by omega)]; rfl)
      go_wp2
      go_ret
      exact ⟨(by rw [HF.out]; try rfl), hbr⟩
end Go.Proofs.Ytjdbjnmnihnmhaa
