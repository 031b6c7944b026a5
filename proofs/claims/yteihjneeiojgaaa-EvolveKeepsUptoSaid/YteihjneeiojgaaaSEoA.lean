import Derived.Test.YteihjneeiojgaaaSA
import Derived.WalkKit
import Derived.WalkSpells
import Derived.WalkLawsBesides
import Derived.Deep.QuietTactic
import Derived.BigQuiet
import Derived.Handy
import Derived.Lib.Hide
import Derived.Test.YteihjneeiojgaaaMC
import Derived.Test.YteihjneeiojgaaaMW
import Derived.Test.YteihjneeiojgaaaMA
import Derived.Laws.OwnMore
import Derived.Test.YteihjneeiojgaaaME
import Derived.Test.YteihjneeiojgaaaSExUc
import Derived.Test.YteihjneeiojgaaaQM
/-
  The table of the examples. Conditions: none.
-/
namespace Go.Proofs.Yteihjneeiojgaaa
set_option maxRecDepth 100000
set_option linter.unusedVariables false
set_option linter.unusedSimpArgs false
open Go.RowKit

def smC : List Cl := [(⟨#[97]⟩, 1, false), (⟨#[98]⟩, 2, true)]
def smV (h g : Nat) : Value := .agg #[.string ⟨#[116]⟩, .slice (some ⟨h, 0, none⟩) 2 2, .slice (some ⟨g, 0, none⟩) 1 1, .slice none 0 0, .slice none 0 0]
theorem load_tab {w : World} {g : Nat} {a b c d e : Value} (h : Own w g 27 #[a, b, c, d, e]) : (loadVar 27 ⟨g, 0, none⟩).run Try.prog w = .ok (.agg #[a, b, c, d, e]) w :=
  run_loadVar_row w g 27 27 #[a, b, c, d, e] (0, 0) _ h Try.underlying27 rfl (by kernel_rfl)
end Go.Proofs.Yteihjneeiojgaaa
/-
  The examples of the chapter hold. Conditions: the search's variable holds some number.
-/
namespace Go.Proofs.Yteihjneeiojgaaa
set_option maxRecDepth 100000
set_option linter.unusedVariables false
set_option linter.unusedSimpArgs false
open Go.RowKit

theorem rdK_sm {w : World} {h : Nat} (ho : Own w h 36 #[.string ⟨#[97]⟩, .int .i64 1, .bool false, .string ⟨#[98]⟩, .int .i64 2, .bool true]) : RdK w 0 w.heap.size (.slice (some ⟨h, 0, none⟩) 2 2) smC := by
  refine ⟨_, _, rfl, by simp [smC], fun k q hk => ⟨_, rfl, Nat.zero_le _, ho.lt, ?_⟩⟩
  rw [addZ13]
  have hk2 : k = 0 ∨ k = 1 := by have := (List.getElem?_eq_some_iff.1 hk).1; simp [smC] at this; omega
  rcases hk2 with rfl | rfl
  · obtain rfl := Option.some.inj hk
    exact ⟨ho.cell 0, ho.cell 1, ho.cell 2⟩
  · obtain rfl := Option.some.inj hk
    exact ⟨ho.cell 3, ho.cell 4, ho.cell 5⟩
theorem rdV_two {w : World} {g : Nat} {p q : Vl} (h : Own w g 38 #[.int .i64 p.1, .int .i64 p.2.1, .string p.2.2, .int .i64 q.1, .int .i64 q.2.1, .string q.2.2]) : RdV w 0 w.heap.size (.slice (some ⟨g, 0, none⟩) 2 2) [p, q] := by
  refine ⟨_, _, rfl, by simp, fun k r hk => ⟨_, rfl, Nat.zero_le _, h.lt, ?_⟩⟩
  rw [addZ13]
  have hk2 : k = 0 ∨ k = 1 := by have := (List.getElem?_eq_some_iff.1 hk).1; simp at this; omega
  rcases hk2 with rfl | rfl
  · obtain rfl := Option.some.inj hk
    exact ⟨h.cell 0, h.cell 1, h.cell 2⟩
  · obtain rfl := Option.some.inj hk
    exact ⟨h.cell 3, h.cell 4, h.cell 5⟩
theorem rdI_one {w : World} {g : Nat} {z : Int} (h : Own w g 3 #[.int .i64 z]) : RdI w 0 w.heap.size (.slice (some ⟨g, 0, none⟩) 1 1) [z] := by
  refine ⟨_, _, rfl, by simp, fun k r hk => ⟨_, rfl, Nat.zero_le _, h.lt, ?_⟩⟩
  rw [addZ13]
  have hk2 : k = 0 := by have := (List.getElem?_eq_some_iff.1 hk).1; simp at this; omega
  subst hk2
  obtain rfl := Option.some.inj hk
  exact h.cell 0
theorem ex_n1 : nameS [120, 95, 49] = true := by decide +kernel
theorem ex_n2 : nameS [115, 101, 108, 101, 99, 116] = false := by decide +kernel
theorem ex_n3 : nameS [83, 101, 108, 101, 99, 116] = false := by decide +kernel
theorem ex_c1 : chkS [116] smC [0] = 0 := by decide +kernel
theorem ex_c2 : chkS [116] smC [1] = 12 := by decide +kernel
theorem ex_a1 : accS smC [(1, 1, ⟨#[]⟩), (0, 0, ⟨#[]⟩)] = 0 := by decide +kernel
theorem ex_a2 : accS smC [(0, 0, ⟨#[]⟩), (2, 0, ⟨#[120]⟩)] = 12 := by decide +kernel
theorem ex_a3 : accS smC [(2, 0, ⟨#[120]⟩), (2, 0, ⟨#[120]⟩)] = 7 := by decide +kernel
theorem ex_v1 : Va.nrm 1 1 ⟨#[]⟩ = .agg #[.int .i64 1, .int .i64 1, .string ⟨#[]⟩] := by kernel_rfl
theorem ex_v2 : Va.nrm 2 0 ⟨#[120]⟩ = .agg #[.int .i64 2, .int .i64 0, .string ⟨#[120]⟩] := by kernel_rfl
end Go.Proofs.Yteihjneeiojgaaa
/-
  How tables are opened; the walk of the statement SchemaAccepts. Conditions: none.
-/
namespace Go.Proofs.Yteihjneeiojgaaa
set_option maxRecDepth 100000
set_option linter.unusedVariables false
set_option linter.unusedSimpArgs false
open Go.ChangeShapes Go.WideShapes Go.ChangeAt Go.RowKit Go.Joins Go.Deep

theorem cellsCol : Try.prog.cellsOf 36 = 3 := by kernel_rfl
theorem cellsTab : Try.prog.cellsOf 27 = 5 := by kernel_rfl
theorem cellsBool1 : Try.prog.cellsOf 4 = 1 := by kernel_rfl
theorem cellsCols1 : Try.prog.cellsOf 22 = 1 := by kernel_rfl
section
variable {H : Type} {enc : TypeId × Value → H} {W : World} {base : Nat}
set_option maxRecDepth 100000 in
theorem open_cols {fuel : Nat} {cs : List Value} {d : DataW H} {p : List MemPlace} (hf : DataW.trod enc Try.prog W 0 (fun _ => true) true fuel 22 cs = some (d, p)) :
    ∃ (v : Value) (ps : List Cl), cs = [v] ∧ RdK W 0 W.heap.size v ps := by
  rcases open_slice Try.underlying22 hf with ⟨hcs, _⟩ | ⟨a, len, cap, m, n, D, Pl, hcs, _, hl, hm, hmm, hxx, hx⟩
  · subst hcs
    exact ⟨_, [], rfl, none, 0, rfl, by simp, by simp⟩
  · subst hcs
    rw [if_pos rfl] at hmm
    subst hmm
    have hml := maxLen_le
    have each : ∀ i, i < len → ∃ q : Cl, W.cell? (a.add (i * 3)) = some (.string q.1) ∧ W.cell? ⟨(a.add (i * 3)).block, (a.add (i * 3)).off + 1, none⟩ = some (.int .i64 q.2.1) ∧ W.cell? ⟨(a.add (i * 3)).block, (a.add (i * 3)).off + 2, none⟩ = some (.bool q.2.2) := by
      intro i hi
      obtain ⟨cs', hc, ht⟩ := hx i (by omega)
      rw [cellsCol] at hc
      obtain ⟨_, hcl, hat⟩ := World.cells?_some hc
      obtain ⟨xs, n', _, hxy, _, hxl, hfl⟩ := DataW.trod_struct Try.underlying36 ht
      match xs, hxl, cs', hcl with
      | [y0, y1, y2], _, [v0, v1, v2], _ =>
        have g0 := hfl 0 _ rfl
        have g1 := hfl 1 _ rfl
        have g2 := hfl 2 _ rfl
        simp [cellsInt1, cellsStr1, cellsBool1] at g0 g1 g2
        have e0 := hat 0 (by omega)
        have e1 := hat 1 (by omega)
        have e2 := hat 2 (by omega)
        rw [addr_add1] at e1
        rw [addr_add2] at e2
        obtain ⟨s, f0, hy0, _⟩ := DataW.trod_string Try.underlying9 g0
        obtain ⟨y, f1, hy1, _⟩ := DataW.trod_int Try.underlying3 g1
        obtain ⟨b, f2, hy2⟩ := DataW.trod_bool Try.underlying4 g2
        simp at f0 f1 f2
        subst f0 f1 f2
        exact ⟨(s, y, b), by simpa [show (a.add (i * 3)).add 0 = a.add (i * 3) by unfold Addr.add; simp] using e0, by simpa using e1, by simpa using e2⟩
    obtain ⟨q, hq⟩ := choose_lt each
    refine ⟨_, (List.range len).map q, rfl, some a, _, by rw [List.length_map, List.length_range], by rw [List.length_map, List.length_range]; omega, fun k p hk => ?_⟩
    obtain ⟨hk1, hk2⟩ := List.getElem?_eq_some_iff.1 hk
    simp at hk1 hk2
    subst hk2
    obtain ⟨g0, g1, g2⟩ := hq k hk1
    have hb := cell_lt g0
    rw [add_block] at hb
    exact ⟨a, rfl, Nat.zero_le _, hb, g0, g1, g2⟩
set_option maxRecDepth 100000 in
theorem open_tab {v : Value} {d : DataW H} {p : List MemPlace} (hv : Value.okWide Try.prog W .any base 27 v) (h : DataW.Trod enc Try.prog W 0 (fun _ => true) true 27 v d p) :
    ∃ (nm v1 v2 v3 v4 : Value) (cs : List Cl), v = .agg #[nm, v1, v2, v3, v4] ∧ RdK W 0 W.heap.size v1 cs := by
  obtain ⟨cs, rfl, hsz⟩ := okWide_struct Try.underlying27 hv
  rw [cellsTab] at hsz
  obtain ⟨l⟩ := cs
  match l, hsz with
  | [c0, c1, c2, c3, c4], _ =>
    obtain ⟨fuel, hf⟩ := h
    obtain ⟨xs, n', _, hxy, _, hxl, hfl⟩ := DataW.trod_struct Try.underlying27 hf
    match xs, hxl with
    | [y0, y1, y2, y3, y4], _ =>
      have g1 := hfl 1 _ rfl
      simp [cellsCols1, Value.cells] at g1
      obtain ⟨y1a, y1b⟩ := y1
      obtain ⟨v1, ps, e1, h1⟩ := open_cols g1
      injection e1 with e1 _
      subst e1
      exact ⟨c0, c1, c2, c3, c4, ps, rfl, h1⟩
end
theorem maxLen_cell {w : World} (h : w.ShapedOpen Try.prog) : ∃ m : Int, w.cell? ⟨0, 0, none⟩ = some (.int .i64 m) := Try.laysM144.s1_3 w h
end Go.Proofs.Yteihjneeiojgaaa
/-
  Find of both, the reference's Ints and Kinds. Conditions: lengths.
-/
namespace Go.Proofs.Yteihjneeiojgaaa
set_option maxRecDepth 100000
set_option linter.unusedVariables false
set_option linter.unusedSimpArgs false
open Go.RowKit

/-- The first column of a name, counted from k; or -1. -/
def findK (s : ByteArray) : Nat → List Cl → Int
  | _, [] => -1
  | k, c :: cs => if (c.1.toList == s.toList) = true then (k : Int) else findK s (k + 1) cs
theorem findK_drop (s : ByteArray) {cs : List Cl} {k : Nat} {c : Cl} (h : cs[k]? = some c) : findK s k (cs.drop k) = if (c.1.toList == s.toList) = true then (k : Int) else findK s (k + 1) (cs.drop (k + 1)) := by
  obtain ⟨h1, rfl⟩ := List.getElem?_eq_some_iff.1 h
  rw [List.drop_eq_getElem_cons h1]
  rfl
end Go.Proofs.Yteihjneeiojgaaa
/-
  find of evolve: the index of a column whose name consists of letters, digits and underscores. Conditions: the definition's names are such.
-/
namespace Go.Proofs.Yteihjneeiojgaaa
set_option maxRecDepth 100000
set_option linter.unusedVariables false
set_option linter.unusedSimpArgs false
open Go.RowKit

theorem okc_ascii {b : UInt8} (h : okcB b = true) : b.toNat < 128 := by
  unfold okcB digB lowB at h
  simp only [Bool.or_eq_true, Bool.and_eq_true, decide_eq_true_eq] at h
  omega
theorem list_eq_size {a b : ByteArray} (h : a.toList = b.toList) : a.size = b.size := by
  rw [Lib.toList_data, Lib.toList_data] at h
  rw [← size_list, ← size_list, h]
theorem take_step {s : ByteArray} {pos : Nat} (h : pos < s.size) : s.data.toList.take (pos + 1) = s.data.toList.take pos ++ [s[pos]'h] := by
  rw [List.take_add_one, getS_list s pos h]; rfl
set_option maxRecDepth 100000 in
set_option maxHeartbeats 6400000 in
theorem isCalled_any (qn : ByteArray) (qk : Int) (qb : Bool) (s : ByteArray) (w : World) (hn : qn.data.toList.all okcB = true) :
    Calls Try.prog 41 #[.agg #[.string qn, .int .i64 qk, .bool qb], .string s] w fun e w' => e = .returned (.bool (qn.toList == s.toList)) ∧ Below w.heap.size w w' := by
  have b1 := bel_mk w (.cells #[.string qn, .int .i64 qk, .bool qb] 36)
  have oc := (Own.new w 36 #[.string qn, .int .i64 qk, .bool qb])
  have d0 := oc.cell 0
  by_cases hs : qn.size = s.size
  rotate_left
  · have hne : ((qn.size : Int) != (s.size : Int)) = true := by simp; omega
    have HF := Lib.hid (show (qn.toList == s.toList) = false from by rw [beq_eq_false_iff_ne]; intro h; exact hs (list_eq_size h))
    have B1 := Lib.hid b1
    clear hs b1 hn
    go_enter Try.func41, Try.ntmps41
    go_wp2
    go_ret
    exact ⟨by rw [HF.out]; rfl, B1.out⟩
  have hne : ((qn.size : Int) != (s.size : Int)) = false := by simp; omega
  have HS := Lib.hid hs
  have HN := Lib.hid hn
  have B1 := Lib.hid b1
  clear hs b1 hn
  go_enter Try.func41, Try.ntmps41
  go_wp2_with fail
  have hVz : (w.alloc (.cells #[.string qn, .int .i64 qk, .bool qb] 36)).heap.size = w.heap.size + 1 := World.size_alloc ..
  generalize w.alloc (.cells #[.string qn, .int .i64 qk, .bool qb] 36) = V at *
  have HVZ := Lib.hid hVz
  clear hVz
  go_loopw [5, 6] (fun i r wr => ∃ pos : Nat, wr = V.iter qn pos ∧ pos ≤ qn.size ∧ Hid (qn.data.toList.take pos = s.data.toList.take pos)) (fun _ _ wr => qn.size - wr.iterPos (w.heap.size + 1))
  case atStart => exact ⟨0, rfl, Nat.zero_le _, Lib.hid rfl⟩
  case round =>
    obtain ⟨pos, rfl, hpl, HA⟩ := hrel
    have BI := Lib.hid (bel_mark V (.stringIter qn pos))
    by_cases hlt : pos < qn.size
    · have hnx : ∀ ty, (Instr.next (.pointer (some ⟨V.heap.size, 0, none⟩)) true ty).run Try.prog (V.iter qn pos) = _ := fun ty => run_next_any V qn pos ty hlt
      rw [HVZ.out] at hnx
      have hls : pos < s.size := by rw [← HS.out]; exact hlt
      have hok := List.all_eq_true.1 HN.out _ (List.mem_of_getElem? (getS_list qn pos hlt))
      rw [decode_ascii qn pos hlt (okc_ascii hok)] at hnx
      have hw := wrap32_byte (s[pos]'hls)
      have BN := Lib.hid (bel_mark V (.stringIter qn (pos + 1)))
      have T1 := Lib.hid (take_step hlt)
      have T2 := Lib.hid (take_step hls)
      have HQ := Lib.hid (getS_list qn pos hlt)
      have HSQ := Lib.hid (getS_list s pos hls)
      have hli : (pos : Int) < s.size := by omega
      dsimp only at hnx
      generalize hb1 : qn[pos]'hlt = x at *
      by_cases hxy : x = s[pos]'hls
      · have hc : (((s[pos]'hls).toNat : Int) != (x.toNat : Int)) = false := by rw [hxy]; simp
        go_wp2
        go_roundw
        case rel => exact ⟨pos + 1, rfl, hlt, Lib.hid (by rw [T1.out, T2.out, HA.out, hxy])⟩
        case measure => rw [← HVZ.out]; simp; omega
      · have hc : (((s[pos]'hls).toNat : Int) != (x.toNat : Int)) = true := by
          simp only [bne_iff_ne, ne_eq]
          intro h
          exact hxy (UInt8.toNat_inj.1 (by omega))
        have HF := Lib.hid (show (qn.toList == s.toList) = false from by
          rw [beq_eq_false_iff_ne]
          intro h
          rw [Lib.toList_data, Lib.toList_data] at h
          have h1 := HQ.out
          rw [h, HSQ.out] at h1
          injection h1 with h1
          exact hxy h1.symm)
        go_wp2
        go_ret
        exact ⟨by rw [HF.out]; rfl, B1.out.trans (BN.out.mono B1.out.size)⟩
    · have hnx : ∀ ty, (Instr.next (.pointer (some ⟨V.heap.size, 0, none⟩)) true ty).run Try.prog (V.iter qn pos) = _ := fun ty => run_next_end V qn pos ty hlt
      rw [HVZ.out] at hnx
      have HF := Lib.hid (show (qn.toList == s.toList) = true from by
        have hp : pos = qn.size := by omega
        have h := HA.out
        rw [hp, List.take_of_length_le (by rw [size_list]; omega), HS.out, List.take_of_length_le (by rw [size_list]; omega)] at h
        rw [Lib.toList_data, Lib.toList_data, h]
        simp)
      go_wp2
      go_ret
      exact ⟨by rw [HF.out]; rfl, B1.out.trans (BI.out.mono B1.out.size)⟩
end Go.Proofs.Yteihjneeiojgaaa
/-
  find of evolve, by its closure. Conditions: as isCalled's.
-/
namespace Go.Proofs.Yteihjneeiojgaaa
set_option maxRecDepth 100000
set_option linter.unusedVariables false
set_option linter.unusedSimpArgs false
open Go.RowKit

set_option maxRecDepth 100000 in
set_option maxHeartbeats 1600000 in
theorem eFind1_any (qn : ByteArray) (qk : Int) (qb : Bool) (s : ByteArray) (g : Nat) (w : World) (hn : qn.data.toList.all okcB = true) (hs : w.cell? ⟨g, 0, none⟩ = some (.string s)) :
    Calls Try.prog 40 #[.agg #[.string qn, .int .i64 qk, .bool qb], .pointer (some ⟨g, 0, none⟩)] w fun e w' => e = .returned (.bool (qn.toList == s.toList)) ∧ Below w.heap.size w w' := by
  have b1 := bel_mk w (.cells #[.string qn, .int .i64 qk, .bool qb] 36)
  have oc := Own.new w 36 #[.string qn, .int .i64 qk, .bool qb]
  have d0 := oc.cell 0
  have d1 := oc.cell 1
  have d2 := oc.cell 2
  have e0 := (b1.cell (p := ⟨g, 0, none⟩) (World.block_lt_of_cell? w _ hs)).trans hs
  have B1 := Lib.hid b1
  have HI := Lib.hid (fun W => isCalled_any qn qk qb s W hn)
  clear b1 hs hn oc
  go_enter Try.func40, Try.ntmps40
  go_wp2_with fail
  with_reducible refine (HI.out _).mono ?_
  rintro e w2 ⟨rfl, hb2⟩
  go_wp2
  go_ret
  exact ⟨rfl, B1.out.trans (hb2.mono B1.out.size)⟩
set_option maxRecDepth 100000 in
set_option maxHeartbeats 3200000 in
theorem eIndexFunc_any (vc : Value) (cs : List Cl) (s : ByteArray) (g : Nat) (w : World) (L : Nat) (hc : RdK w L w.heap.size vc cs) (hs : w.cell? ⟨g, 0, none⟩ = some (.string s)) (hnm : ∀ c ∈ cs, (nmC c).all okcB = true) :
    Calls Try.prog 39 #[vc, .func (.func 40) #[] #[.pointer (some ⟨g, 0, none⟩)]] w fun e w' => e = .returned (.int .i64 (findK s 0 cs)) ∧ Below w.heap.size w w' := by
  obtain ⟨A, c, rfl, hl1, hc1⟩ := hc
  have HC := Lib.hid hc1
  have HS := Lib.hid hs
  have HNM := Lib.hid hnm
  clear hnm
  have hg0 := World.block_lt_of_cell? w _ hs
  clear hc1 hs
  go_enter Try.func39, Try.ntmps39
  go_wp2
  go_loopw [8] (fun i wr => ∃ k : Nat, k ≤ cs.length ∧ i = .int .i64 k ∧ Hid (findK s 0 cs = findK s k (cs.drop k)) ∧ Below w.heap.size w wr) (fun i _ => cs.length - (intOf i).toNat)
  case atStart => exact ⟨0, Nat.zero_le _, rfl, Lib.hid rfl, Below.refl _ _⟩
  case round =>
    obtain ⟨k, hk, rfl, HR, hbr⟩ := hrel
    have hbz := hbr.size
    by_cases hlt : k < cs.length
    · have hki : (k : Int) < cs.length := by omega
      obtain ⟨ad, rfl, _, hab, a0, a1, a2⟩ := HC.out k _ (List.getElem?_eq_getElem hlt)
      have hcd := findK_drop s (List.getElem?_eq_getElem hlt)
      rw [← HR.out] at hcd
      have hq := HNM.out _ (List.getElem_mem hlt)
      generalize cs[k] = q at *
      obtain ⟨qn, qk, qb⟩ := q
      dsimp only at a0 a1 a2 hcd
      change (qn.data.toList).all okcB = true at hq
      have e0 := (hbr.cell (p := ad.add (k * 3)) (by rw [add_block]; exact hab)).trans a0
      have e1 := (hbr.cell (p := ⟨(ad.add (k * 3)).block, (ad.add (k * 3)).off + 1, none⟩) (by show (ad.add (k * 3)).block < _; rw [add_block]; exact hab)).trans a1
      have e2 := (hbr.cell (p := ⟨(ad.add (k * 3)).block, (ad.add (k * 3)).off + 2, none⟩) (by show (ad.add (k * 3)).block < _; rw [add_block]; exact hab)).trans a2
      have H1 := Lib.hid (eFind1_any qn qk qb s g wr hq ((hbr.cell (p := ⟨g, 0, none⟩) hg0).trans HS.out))
      clear a0 a1 a2 hq
      cases hb : (qn.toList == s.toList)
      · rw [hb] at H1
        have HF := Lib.hid (hcd.trans (if_neg (by rw [hb]; decide)))
        clear hb hcd
        go_wp2_with fail
        with_reducible refine H1.out.mono ?_
        rintro e w2 ⟨rfl, hb2⟩
        go_wp2
        go_roundw
        case rel => exact ⟨k + 1, by omega, by go_num, HF, hbr.trans (hb2.mono hbz)⟩
        case measure => simp [intOf]; omega
      · rw [hb] at H1
        have HF := Lib.hid (hcd.trans (if_pos hb))
        clear hb hcd
        go_wp2_with fail
        with_reducible refine H1.out.mono ?_
        rintro e w2 ⟨rfl, hb2⟩
        go_wp2
        go_ret
        exact ⟨by rw [HF.out]; rfl, hbr.trans (hb2.mono hbz)⟩
    · have hki : ¬ (k : Int) < cs.length := by omega
      have HF := Lib.hid (show findK s 0 cs = -1 by rw [HR.out, List.drop_eq_nil_of_le (show cs.length ≤ k by omega)]; rfl)
      go_wp2
      go_ret
      exact ⟨by rw [HF.out]; rfl, hbr⟩
set_option maxRecDepth 100000 in
set_option maxHeartbeats 1600000 in
theorem eFind_any (nm vc vk vf vx : Value) (cs : List Cl) (s : ByteArray) (w : World) (L : Nat) (hc : RdK w L w.heap.size vc cs) (hnm : ∀ c ∈ cs, (nmC c).all okcB = true) :
    Calls Try.prog 19 #[.agg #[nm, vc, vk, vf, vx], .string s] w fun e w' => e = .returned (.int .i64 (findK s 0 cs)) ∧ Below w.heap.size w w' := by
  have b1 := bel_mark w (.cells #[nm, vc, vk, vf, vx] 27)
  have b2 := b1.trans ((bel_mark _ (.cells #[.string s] 9)).mono b1.size)
  have d1 := ((Own.new w 27 #[nm, vc, vk, vf, vx]).alloc (.cells #[.string s] 9)).cell 1
  have H := Lib.hid (eIndexFunc_any vc cs s (w.heap.size + 1) ((w.alloc (.cells #[nm, vc, vk, vf, vx] 27)).alloc (.cells #[.string s] 9)) L (hc.step b2 (Nat.le_refl _)) ((own_two2 (w := w) (t := 9) (cs := #[.string s]) (.cells #[nm, vc, vk, vf, vx] 27)).cell 0) hnm)
  have B2 := Lib.hid b2
  clear b1 b2 hc
  go_enter Try.func19, Try.ntmps19
  go_wp2_with fail
  with_reducible refine H.out.mono ?_
  rintro e w2 ⟨rfl, hb2⟩
  go_wp2
  go_ret
  exact ⟨rfl, B2.out.trans (hb2.mono B2.out.size)⟩
end Go.Proofs.Yteihjneeiojgaaa
/-
  schema.checkChecks and schema.Check over any table: what they answer. Conditions: the search's variable holds some number; lengths.
-/
namespace Go.Proofs.Yteihjneeiojgaaa
set_option maxRecDepth 100000
set_option linter.unusedVariables false
set_option linter.unusedSimpArgs false
open Go.RowKit

def ckxL (zs : List Int) (d : Nat) : List Ex → Int
  | [] => 0
  | e :: es => if (chkT zs d e).2 ≠ 0 then (chkT zs d e).2 else if (chkT zs d e).1 ≠ 3 ∧ (chkT zs d e).1 ≠ 0 then 7 else ckxL zs d es
def ckxE (zs : List Int) (d : Nat) (es : List Ex) : Int := if 4 < es.length then 5 else ckxL zs d es
theorem ckxL_drop (zs : List Int) (d : Nat) {es : List Ex} {k : Nat} {e : Ex} (h : es[k]? = some e) : ckxL zs d (es.drop k) = if (chkT zs d e).2 ≠ 0 then (chkT zs d e).2 else if (chkT zs d e).1 ≠ 3 ∧ (chkT zs d e).1 ≠ 0 then 7 else ckxL zs d (es.drop (k + 1)) := by
  obtain ⟨h1, rfl⟩ := List.getElem?_eq_some_iff.1 h
  rw [List.drop_eq_getElem_cons h1]
  rfl
set_option maxRecDepth 100000 in
set_option maxHeartbeats 12800000 in
theorem checkChecks_any (nm vc vk vf vx : Value) (cs : List Cl) (es : List Ex) (d : Nat) (w : World) (L L2 : Nat) (hc : RdK w L w.heap.size vc cs) (hlen : cs.length ≤ 1099511627776) (he : RdE w L2 w.heap.size (d + 1) vx es) :
    Calls Try.prog 26 #[.agg #[nm, vc, vk, vf, vx]] w fun e w' => e = .returned (.int .i64 (ckxE (cs.map kdC) d es)) ∧ Below w.heap.size w w' := by
  obtain ⟨A, c, rfl, hl1, hc1⟩ := he
  have HC := Lib.hid hc1
  have b1 := bel_mark w (.cells #[nm, vc, vk, vf, .slice A es.length c] 27)
  have HO1 := Lib.hid ((Own.new w 27 #[nm, vc, vk, vf, .slice A es.length c]))
  have HK := Lib.hid (pKinds_any nm vc vk vf (.slice A es.length c) cs (w.alloc (.cells #[nm, vc, vk, vf, .slice A es.length c] 27)) L (hc.step b1 (Nat.le_refl _)) hlen)
  have HB1 := Lib.hid b1
  clear b1 hc hc1
  generalize cs.map kdC = zs at *
  obtain ⟨d0, d1, d2, d3, d4⟩ := HO1.out.five
  by_cases hx : 4 < es.length
  · have hxi : (4 : Int) < es.length := by omega
    have HF := Lib.hid (show ckxE zs d es = 5 from if_pos hx)
    clear hx HK
    go_enter Try.func26, Try.ntmps26
    go_wp2
    go_ret
    exact ⟨(by rw [HF.out]; try rfl), HB1.out⟩
  have hxi : ¬ (4 : Int) < es.length := by omega
  have HE := Lib.hid (show ckxE zs d es = ckxL zs d (es.drop 0) from if_neg hx)
  clear hx
  go_enter Try.func26, Try.ntmps26
  go_wp2_with fail
  with_reducible refine HK.out.mono ?_
  rintro e w1 ⟨u, rfl, hu, hb⟩
  have HO2 := Lib.hid (HO1.out.below hb HO1.out.lt)
  have HB2 := Lib.hid (HB1.out.trans (hb.mono HB1.out.size))
  have HU := Lib.hid (show RdI w1 0 w1.heap.size u zs from by obtain ⟨A1, c1, q1, q2, q3⟩ := hu; exact ⟨A1, c1, q1, q2, fun k z hk => let ⟨ad, r1, _, r2, r3⟩ := q3 k z hk; ⟨ad, r1, Nat.zero_le _, r2, r3⟩⟩)
  replace d4 := HO2.out.cell 4
  clear HK hb d0 d1 d2 d3
  obtain ⟨Au, cu, rfl⟩ : ∃ Au cu, u = .slice Au zs.length cu := by obtain ⟨a1, c1, h1, _⟩ := hu; exact ⟨a1, c1, h1⟩
  clear hu
  go_wp2_with fail
  go_loopw [17] (fun i wr => ∃ k : Nat, k ≤ es.length ∧ i = .int .i64 k ∧ Hid (ckxE zs d es = ckxL zs d (es.drop k)) ∧ Hid (RdI wr 0 wr.heap.size (.slice Au zs.length cu) zs) ∧ Hid (Own wr w.heap.size 27 #[nm, vc, vk, vf, .slice A es.length c]) ∧ Below w.heap.size w wr) (fun i _ => es.length - (intOf i).toNat)
  case atStart => exact ⟨0, Nat.zero_le _, rfl, HE, HU, HO2, HB2.out⟩
  case round =>
    clear HE HU HO2 HB2 HO1 HB1 d4
    obtain ⟨k, hk, rfl, HR, HU, HO, hbr⟩ := hrel
    have hbz := hbr.size
    by_cases hlt : k < es.length
    · have hki : (k : Int) < es.length := by omega
      obtain ⟨ad, u, rfl, _, hab, hxc, hxr⟩ := HC.out k _ (List.getElem?_eq_getElem hlt)
      have hcd := ckxL_drop zs d (List.getElem?_eq_getElem hlt)
      rw [← HR.out] at hcd
      generalize es[k] = y at *
      obtain ⟨A3, c3, rfl, hl3⟩ := hxr.slice
      have hx := hxc.below hbr (by rw [add_blk]; exact hab)
      obtain ⟨x0, x1, x2, x3, x4, x5, x6⟩ := hx
      have b2 := bel_mk wr (.cells (exA y (.slice A3 y.args.length c3)) 65)
      have HB2 := Lib.hid (hbr.trans (b2.mono hbz))
      have HCK := Lib.hid (pCheck_any _ zs d y A3 c3 (wr.alloc (.cells (exA y (.slice A3 y.args.length c3)) 65)) L2 0 (hxr.step HB2.out (Nat.le_refl _)) (HU.out.step b2 (Nat.le_refl _)))
      have HU2 := Lib.hid (HU.out.step b2 (Nat.le_refl _))
      have HO2 := Lib.hid (HO.out.alloc (.cells (exA y (.slice A3 y.args.length c3)) 65))
      have HW := Lib.hid (Own.new wr 65 (exA y (.slice A3 y.args.length c3)))
      have HCD := Lib.hid hcd
      clear hxc hxr hcd b2 HU HO
      unfold exA exV resV at *
      generalize chkT zs d y = P at *
      obtain ⟨pk, pe⟩ := P
      dsimp only at HCK HCD
      have g0 := HW.out.cell 0
      have g1 := HW.out.cell 1
      have g2 := HW.out.cell 2
      have g3 := HW.out.cell 3
      have g4 := HW.out.cell 4
      have g5 := HW.out.cell 5
      have g6 := HW.out.cell 6
      by_cases he0 : pe = 0
      rotate_left
      · have p0 : (pe != 0) = true := by simp [he0]
        have HF := Lib.hid (HCD.out.trans (if_pos he0))
        clear he0 HCD
        go_wp2_with fail
        with_reducible refine HCK.out.mono ?_
        rintro e w3 ⟨rfl, hb⟩
        go_wp2
        go_ret
        exact ⟨(by rw [HF.out]; try rfl), HB2.out.trans (hb.mono HB2.out.size)⟩
      subst he0
      have HCD := Lib.hid (HCD.out.trans (if_neg (fun h => h rfl)))
      by_cases hk3 : pk = 3
      · subst hk3
        have HF := Lib.hid (HCD.out.trans (if_neg (fun h => h.1 rfl)))
        clear HCD
        go_wp2_with fail
        with_reducible refine HCK.out.mono ?_
        rintro e w3 ⟨rfl, hb⟩
        have HU3 := Lib.hid (HU2.out.step hb (Nat.le_refl _))
        have HO3 := Lib.hid (HO2.out.below hb HO2.out.lt)
        have HB3 := Lib.hid (HB2.out.trans (hb.mono HB2.out.size))
        clear hb g0 g1 g2 g3 g4 g5 g6
        go_wp2
        go_roundw
        case rel => exact ⟨k + 1, by omega, by go_num, HF, HU3, HO3, HB3.out⟩
        case measure => simp [intOf]; omega
      by_cases hk0 : pk = 0
      · subst hk0
        have HF := Lib.hid (HCD.out.trans (if_neg (fun h => h.2 rfl)))
        clear HCD hk3
        go_wp2_with fail
        with_reducible refine HCK.out.mono ?_
        rintro e w3 ⟨rfl, hb⟩
        have HU3 := Lib.hid (HU2.out.step hb (Nat.le_refl _))
        have HO3 := Lib.hid (HO2.out.below hb HO2.out.lt)
        have HB3 := Lib.hid (HB2.out.trans (hb.mono HB2.out.size))
        clear hb g0 g1 g2 g3 g4 g5 g6
        go_wp2
        go_roundw
        case rel => exact ⟨k + 1, by omega, by go_num, HF, HU3, HO3, HB3.out⟩
        case measure => simp [intOf]; omega
      · have HF := Lib.hid (HCD.out.trans (if_pos ⟨hk3, hk0⟩))
        have k3 : (pk != 3) = true := by simp [hk3]
        have k0 : (pk != 0) = true := by simp [hk0]
        clear HCD hk3 hk0
        go_wp2_with fail
        with_reducible refine HCK.out.mono ?_
        rintro e w3 ⟨rfl, hb⟩
        go_wp2
        go_ret
        exact ⟨(by rw [HF.out]; try rfl), HB2.out.trans (hb.mono HB2.out.size)⟩
    · have hki : ¬ (k : Int) < es.length := by omega
      have HF := Lib.hid (show ckxE zs d es = 0 by rw [HR.out, List.drop_eq_nil_of_le (show es.length ≤ k by omega)]; rfl)
      go_wp2
      go_ret
      exact ⟨(by rw [HF.out]; try rfl), hbr⟩
end Go.Proofs.Yteihjneeiojgaaa
/-
  schema.Check over any table: what they answer. Conditions: the search's variable holds some number; lengths.
-/
namespace Go.Proofs.Yteihjneeiojgaaa
set_option maxRecDepth 100000
set_option linter.unusedVariables false
set_option linter.unusedSimpArgs false
open Go.RowKit

/-- What a table is answered. -/
def chkA (nm : List UInt8) (cs : List Cl) (ks : List Int) (fs : List Fk) (d : Nat) (es : List Ex) : Int :=
  if nameS nm = false then 1 else if clsE cs ≠ 0 then clsE cs else if keyE cs ks ≠ 0 then keyE cs ks else if frgE (cs.length : Nat) fs ≠ 0 then frgE (cs.length : Nat) fs else ckxE (cs.map kdC) d es
set_option maxRecDepth 100000 in
set_option maxHeartbeats 6400000 in
theorem pTabCheck_any (nm : ByteArray) (vc vk vf vx : Value) (cs : List Cl) (ks : List Int) (fs : List Fk) (es : List Ex) (d : Nat) (m : Int) (w : World) (L L2 L3 L4 : Nat) (hm : w.cell? ⟨0, 0, none⟩ = some (.int .i64 m)) (hc : RdK w L w.heap.size vc cs) (hk : RdI w L2 w.heap.size vk ks) (hf : RdF w L3 w.heap.size vf fs) (he : RdE w L4 w.heap.size (d + 1) vx es) (hlen : cs.length ≤ 1099511627776) :
    Calls Try.prog 13 #[.agg #[.string nm, vc, vk, vf, vx]] w fun e w' => e = .returned (.int .i64 (chkA nm.data.toList cs ks fs d es)) ∧ Below w.heap.size w w' := by
  have hm0 := World.block_lt_of_cell? w _ hm
  have b1 := bel_mark w (.cells #[.string nm, vc, vk, vf, vx] 27)
  have HO1 := Lib.hid ((Own.new w 27 #[.string nm, vc, vk, vf, vx]))
  have HN := Lib.hid (pName_any nm m _ ((b1.cell (p := ⟨0, 0, none⟩) hm0).trans hm))
  have H1 := Lib.hid (fun W (h : Below w.heap.size w W) => checkColumns_any vc cs m W L ((h.cell (p := ⟨0, 0, none⟩) hm0).trans hm) (hc.step h (Nat.le_refl _)))
  have H2 := Lib.hid (fun W (h : Below w.heap.size w W) => checkKey_any (.string nm) vc vk vf vx cs ks W L L2 (hc.step h (Nat.le_refl _)) (hk.step h (Nat.le_refl _)))
  have H3 := Lib.hid (fun W (h : Below w.heap.size w W) => (show Calls Try.prog 25 #[.agg #[.string nm, vc, vk, vf, vx]] W fun e w' => e = .returned (.int .i64 (frgE (cs.length : Nat) fs)) ∧ Below W.heap.size W w' from by
    obtain ⟨A, c, rfl, _, _⟩ := hc
    exact checkForeigns_any (.string nm) vk vf vx A c cs.length fs m W L3 ((h.cell (p := ⟨0, 0, none⟩) hm0).trans hm) (by omega) (hf.step h (Nat.le_refl _))))
  have H4 := Lib.hid (fun W (h : Below w.heap.size w W) => checkChecks_any (.string nm) vc vk vf vx cs es d W L L4 (hc.step h (Nat.le_refl _)) hlen (he.step h (Nat.le_refl _)))
  obtain ⟨d0, d1, d2, d3, d4⟩ := HO1.out.five
  have HB1 := Lib.hid b1
  have HX := Lib.hid (show chkA nm.data.toList cs ks fs d es = if nameS nm.data.toList = false then 1 else if clsE cs ≠ 0 then clsE cs else if keyE cs ks ≠ 0 then keyE cs ks else if frgE (cs.length : Nat) fs ≠ 0 then frgE (cs.length : Nat) fs else ckxE (cs.map kdC) d es from rfl)
  generalize chkA nm.data.toList cs ks fs d es = R at *
  generalize nameS nm.data.toList = bn at *
  generalize hce : clsE cs = ce at *
  generalize hke : keyE cs ks = ke at *
  generalize hfe : frgE (cs.length : Nat) fs = fe at *
  generalize hxe : ckxE (cs.map kdC) d es = xe at *
  clear b1 hc hk hf he hm hce hke hfe hxe
  cases bn
  · have HF := Lib.hid (HX.out.trans (if_pos rfl))
    go_enter Try.func13, Try.ntmps13
    go_wp2_with fail
    with_reducible refine HN.out.mono ?_
    rintro e w1 ⟨rfl, hb⟩
    go_wp2
    go_ret
    exact ⟨(by rw [HF.out]; try rfl), HB1.out.trans (hb.mono HB1.out.size)⟩
  have HX := Lib.hid (HX.out.trans (if_neg (by decide)))
  go_enter Try.func13, Try.ntmps13
  go_wp2_with fail
  with_reducible refine HN.out.mono ?_
  rintro e w1 ⟨rfl, hb⟩
  have HO2 := Lib.hid (HO1.out.below hb HO1.out.lt)
  have HB2 := Lib.hid (HB1.out.trans (hb.mono HB1.out.size))
  have h1 := H1.out w1 HB2.out
  clear HN H1 hb d0 d1 d2 d3 d4
  obtain ⟨d0, d1, d2, d3, d4⟩ := HO2.out.five
  by_cases q0 : ce = 0
  rotate_left
  · have HF := Lib.hid (HX.out.trans (if_pos q0))
    have c0 : (ce != 0) = true := by simp [q0]
    clear q0 HX
    go_wp2_with fail
    with_reducible refine h1.mono ?_
    rintro e w2 ⟨rfl, hb⟩
    go_wp2
    go_ret
    exact ⟨(by rw [HF.out]; try rfl), HB2.out.trans (hb.mono HB2.out.size)⟩
  have HX := Lib.hid (HX.out.trans (if_neg (fun h => h q0)))
  have c3 : (ce != 0) = false := by simp [q0]
  clear q0
  go_wp2_with fail
  with_reducible refine h1.mono ?_
  rintro e w2 ⟨rfl, hb⟩
  have HO3 := Lib.hid (HO2.out.below hb HO2.out.lt)
  have HB3 := Lib.hid (HB2.out.trans (hb.mono HB2.out.size))
  have h2 := H2.out w2 HB3.out
  clear h1 H2 hb d0 d1 d2 d3 d4
  obtain ⟨d0, d1, d2, d3, d4⟩ := HO3.out.five
  by_cases q0 : ke = 0
  rotate_left
  · have HF := Lib.hid (HX.out.trans (if_pos q0))
    have c0 : (ke != 0) = true := by simp [q0]
    clear q0 HX
    go_wp2_with fail
    with_reducible refine h2.mono ?_
    rintro e w3 ⟨rfl, hb⟩
    go_wp2
    go_ret
    exact ⟨(by rw [HF.out]; try rfl), HB3.out.trans (hb.mono HB3.out.size)⟩
  have HX := Lib.hid (HX.out.trans (if_neg (fun h => h q0)))
  have c4 : (ke != 0) = false := by simp [q0]
  clear q0
  go_wp2_with fail
  with_reducible refine h2.mono ?_
  rintro e w3 ⟨rfl, hb⟩
  have HO4 := Lib.hid (HO3.out.below hb HO3.out.lt)
  have HB4 := Lib.hid (HB3.out.trans (hb.mono HB3.out.size))
  have h3 := H3.out w3 HB4.out
  clear h2 H3 hb d0 d1 d2 d3 d4
  obtain ⟨d0, d1, d2, d3, d4⟩ := HO4.out.five
  by_cases q0 : fe = 0
  rotate_left
  · have HF := Lib.hid (HX.out.trans (if_pos q0))
    have c0 : (fe != 0) = true := by simp [q0]
    clear q0 HX
    go_wp2_with fail
    with_reducible refine h3.mono ?_
    rintro e w4 ⟨rfl, hb⟩
    go_wp2
    go_ret
    exact ⟨(by rw [HF.out]; try rfl), HB4.out.trans (hb.mono HB4.out.size)⟩
  have HX := Lib.hid (HX.out.trans (if_neg (fun h => h q0)))
  have c5 : (fe != 0) = false := by simp [q0]
  clear q0
  go_wp2_with fail
  with_reducible refine h3.mono ?_
  rintro e w4 ⟨rfl, hb⟩
  have HO5 := Lib.hid (HO4.out.below hb HO4.out.lt)
  have HB5 := Lib.hid (HB4.out.trans (hb.mono HB4.out.size))
  have h4 := H4.out w4 HB5.out
  clear h3 H4 hb d0 d1 d2 d3 d4
  obtain ⟨d0, d1, d2, d3, d4⟩ := HO5.out.five
  go_wp2_with fail
  with_reducible refine h4.mono ?_
  rintro e w5 ⟨rfl, hb⟩
  go_wp2
  go_ret
  exact ⟨(by rw [HX.out]; try rfl), HB5.out.trans (hb.mono HB5.out.size)⟩
end Go.Proofs.Yteihjneeiojgaaa
