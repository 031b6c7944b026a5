import Derived.Test.YteihjneeiojgaaaGreatSA
import Derived.WalkKit
import Derived.WalkSpells
import Derived.WalkLawsBesides
import Derived.Deep.QuietTactic
import Derived.BigQuiet
import Derived.Handy
import Derived.Lib.Hide
import Derived.Test.YteihjneeiojgaaaGreatMC
import Derived.Test.YteihjneeiojgaaaGreatMW
import Derived.Test.YteihjneeiojgaaaGreatMA
import Derived.Laws.OwnMore
import Derived.Test.YteihjneeiojgaaaGreatME
import Derived.Test.YteihjneeiojgaaaGreatSExUb
import Derived.Test.YteihjneeiojgaaaGreatPA
import Derived.Lib.IndexMore
import Derived.Test.YteihjneeiojgaaaGreatMT
import Derived.Test.YteihjneeiojgaaaGreatQM
/-
  The table of the examples. Conditions: none.
-/
namespace Go.Proofs.YteihjneeiojgaaaGreat
set_option maxRecDepth 100000
set_option linter.unusedVariables false
set_option linter.unusedSimpArgs false
open Go.RowKit

def smC : List Cl := [(⟨#[97]⟩, 1, false), (⟨#[98]⟩, 2, true)]
def smV (h g : Nat) : Value := .agg #[.string ⟨#[116]⟩, .slice (some ⟨h, 0, none⟩) 2 2, .slice (some ⟨g, 0, none⟩) 1 1, .slice none 0 0, .slice none 0 0]
theorem load_tab {w : World} {g : Nat} {a b c d e : Value} (h : Own w g 27 #[a, b, c, d, e]) : (loadVar 27 ⟨g, 0, none⟩).run Tryz.prog w = .ok (.agg #[a, b, c, d, e]) w :=
  run_loadVar_row w g 27 27 #[a, b, c, d, e] (0, 0) _ h Tryz.underlying27 rfl (by kernel_rfl)
end Go.Proofs.YteihjneeiojgaaaGreat
/-
  The examples of the chapter hold. Conditions: the search's variable holds some number.
-/
namespace Go.Proofs.YteihjneeiojgaaaGreat
set_option maxRecDepth 100000
set_option linter.unusedVariables false
set_option linter.unusedSimpArgs false
open Go.RowKit

theorem rdK_sm {w : World} {h : Nat} (ho : Own w h 29 #[.string ⟨#[97]⟩, .int .i64 1, .bool false, .string ⟨#[98]⟩, .int .i64 2, .bool true]) : RdK w 0 w.heap.size (.slice (some ⟨h, 0, none⟩) 2 2) smC := by
  refine ⟨_, _, rfl, by simp [smC], fun k q hk => ⟨_, rfl, Nat.zero_le _, ho.lt, ?_⟩⟩
  rw [addZ13]
  have hk2 : k = 0 ∨ k = 1 := by have := (List.getElem?_eq_some_iff.1 hk).1; simp [smC] at this; omega
  rcases hk2 with rfl | rfl
  · obtain rfl := Option.some.inj hk
    exact ⟨ho.cell 0, ho.cell 1, ho.cell 2⟩
  · obtain rfl := Option.some.inj hk
    exact ⟨ho.cell 3, ho.cell 4, ho.cell 5⟩
theorem rdV_two {w : World} {g : Nat} {p q : Vl} (h : Own w g 31 #[.int .i64 p.1, .int .i64 p.2.1, .string p.2.2, .int .i64 q.1, .int .i64 q.2.1, .string q.2.2]) : RdV w 0 w.heap.size (.slice (some ⟨g, 0, none⟩) 2 2) [p, q] := by
  refine ⟨_, _, rfl, by simp, fun k r hk => ⟨_, rfl, Nat.zero_le _, h.lt, ?_⟩⟩
  rw [addZ13]
  have hk2 : k = 0 ∨ k = 1 := by have := (List.getElem?_eq_some_iff.1 hk).1; simp at this; omega
  rcases hk2 with rfl | rfl
  · obtain rfl := Option.some.inj hk
    exact ⟨h.cell 0, h.cell 1, h.cell 2⟩
  · obtain rfl := Option.some.inj hk
    exact ⟨h.cell 3, h.cell 4, h.cell 5⟩
theorem rdI_one {w : World} {g : Nat} {z : Int} (h : Own w g 3 #[.int .i64 z]) : RdI w 0 w.heap.size (.slice (some ⟨g, 0, none⟩) 1 1) [z] := by
  refine ⟨_, _, rfl, by simp, fun k r hk => ⟨_, rfl, Nat.zero_le _, h.lt, ?_⟩⟩
  rw [addZ13]
  have hk2 : k = 0 := by have := (List.getElem?_eq_some_iff.1 hk).1; simp at this; omega
  subst hk2
  obtain rfl := Option.some.inj hk
  exact h.cell 0
theorem ex_n1 : nameS [120, 95, 49] = true := by decide +kernel
theorem ex_n2 : nameS [115, 101, 108, 101, 99, 116] = false := by decide +kernel
theorem ex_n3 : nameS [83, 101, 108, 101, 99, 116] = false := by decide +kernel
theorem ex_c1 : chkS [116] smC [0] = 0 := by decide +kernel
theorem ex_c2 : chkS [116] smC [1] = 12 := by decide +kernel
theorem ex_a1 : accS smC [(1, 1, ⟨#[]⟩), (0, 0, ⟨#[]⟩)] = 0 := by decide +kernel
theorem ex_a2 : accS smC [(0, 0, ⟨#[]⟩), (2, 0, ⟨#[120]⟩)] = 12 := by decide +kernel
theorem ex_a3 : accS smC [(2, 0, ⟨#[120]⟩), (2, 0, ⟨#[120]⟩)] = 7 := by decide +kernel
theorem ex_v1 : Va.nrm 1 1 ⟨#[]⟩ = .agg #[.int .i64 1, .int .i64 1, .string ⟨#[]⟩] := by kernel_rfl
theorem ex_v2 : Va.nrm 2 0 ⟨#[120]⟩ = .agg #[.int .i64 2, .int .i64 0, .string ⟨#[120]⟩] := by kernel_rfl
end Go.Proofs.YteihjneeiojgaaaGreat
/-
  How tables are opened; the walk of the statement SchemaAccepts. Conditions: none.
-/
namespace Go.Proofs.YteihjneeiojgaaaGreat
set_option maxRecDepth 100000
set_option linter.unusedVariables false
set_option linter.unusedSimpArgs false
open Go.ChangeShapes Go.WideShapes Go.ChangeAt Go.RowKit Go.Joins Go.Deep

theorem cellsCol : Tryz.prog.cellsOf 29 = 3 := by kernel_rfl
theorem cellsTab : Tryz.prog.cellsOf 27 = 5 := by kernel_rfl
theorem cellsBool1 : Tryz.prog.cellsOf 4 = 1 := by kernel_rfl
theorem cellsCols1 : Tryz.prog.cellsOf 22 = 1 := by kernel_rfl
section
variable {H : Type} {enc : TypeId × Value → H} {W : World} {base : Nat}
set_option maxRecDepth 100000 in
theorem open_cols {fuel : Nat} {cs : List Value} {d : DataW H} {p : List MemPlace} (hf : DataW.trod enc Tryz.prog W 0 (fun _ => true) true fuel 22 cs = some (d, p)) :
    ∃ (v : Value) (ps : List Cl), cs = [v] ∧ RdK W 0 W.heap.size v ps := by
  rcases open_slice Tryz.underlying22 hf with ⟨hcs, _⟩ | ⟨a, len, cap, m, n, D, Pl, hcs, _, hl, hm, hmm, hxx, hx⟩
  · subst hcs
    exact ⟨_, [], rfl, none, 0, rfl, by simp, by simp⟩
  · subst hcs
    rw [if_pos rfl] at hmm
    subst hmm
    have hml := maxLen_le
    have each : ∀ i, i < len → ∃ q : Cl, W.cell? (a.add (i * 3)) = some (.string q.1) ∧ W.cell? ⟨(a.add (i * 3)).block, (a.add (i * 3)).off + 1, none⟩ = some (.int .i64 q.2.1) ∧ W.cell? ⟨(a.add (i * 3)).block, (a.add (i * 3)).off + 2, none⟩ = some (.bool q.2.2) := by
      intro i hi
      obtain ⟨cs', hc, ht⟩ := hx i (by omega)
      rw [cellsCol] at hc
      obtain ⟨_, hcl, hat⟩ := World.cells?_some hc
      obtain ⟨xs, n', _, hxy, _, hxl, hfl⟩ := DataW.trod_struct Tryz.underlying29 ht
      match xs, hxl, cs', hcl with
      | [y0, y1, y2], _, [v0, v1, v2], _ =>
        have g0 := hfl 0 _ rfl
        have g1 := hfl 1 _ rfl
        have g2 := hfl 2 _ rfl
        simp [cellsInt1, cellsStr1, cellsBool1] at g0 g1 g2
        have e0 := hat 0 (by omega)
        have e1 := hat 1 (by omega)
        have e2 := hat 2 (by omega)
        rw [addr_add1] at e1
        rw [addr_add2] at e2
        obtain ⟨s, f0, hy0, _⟩ := DataW.trod_string Tryz.underlying9 g0
        obtain ⟨y, f1, hy1, _⟩ := DataW.trod_int Tryz.underlying3 g1
        obtain ⟨b, f2, hy2⟩ := DataW.trod_bool Tryz.underlying4 g2
        simp at f0 f1 f2
        subst f0 f1 f2
        exact ⟨(s, y, b), by simpa [show (a.add (i * 3)).add 0 = a.add (i * 3) by unfold Addr.add; simp] using e0, by simpa using e1, by simpa using e2⟩
    obtain ⟨q, hq⟩ := choose_lt each
    refine ⟨_, (List.range len).map q, rfl, some a, _, by rw [List.length_map, List.length_range], by rw [List.length_map, List.length_range]; omega, fun k p hk => ?_⟩
    obtain ⟨hk1, hk2⟩ := List.getElem?_eq_some_iff.1 hk
    simp at hk1 hk2
    subst hk2
    obtain ⟨g0, g1, g2⟩ := hq k hk1
    have hb := cell_lt g0
    rw [add_block] at hb
    exact ⟨a, rfl, Nat.zero_le _, hb, g0, g1, g2⟩
set_option maxRecDepth 100000 in
theorem open_tab {v : Value} {d : DataW H} {p : List MemPlace} (hv : Value.okWide Tryz.prog W .any base 27 v) (h : DataW.Trod enc Tryz.prog W 0 (fun _ => true) true 27 v d p) :
    ∃ (nm v1 v2 v3 v4 : Value) (cs : List Cl), v = .agg #[nm, v1, v2, v3, v4] ∧ RdK W 0 W.heap.size v1 cs := by
  obtain ⟨cs, rfl, hsz⟩ := okWide_struct Tryz.underlying27 hv
  rw [cellsTab] at hsz
  obtain ⟨l⟩ := cs
  match l, hsz with
  | [c0, c1, c2, c3, c4], _ =>
    obtain ⟨fuel, hf⟩ := h
    obtain ⟨xs, n', _, hxy, _, hxl, hfl⟩ := DataW.trod_struct Tryz.underlying27 hf
    match xs, hxl with
    | [y0, y1, y2, y3, y4], _ =>
      have g1 := hfl 1 _ rfl
      simp [cellsCols1, Value.cells] at g1
      obtain ⟨y1a, y1b⟩ := y1
      obtain ⟨v1, ps, e1, h1⟩ := open_cols g1
      injection e1 with e1 _
      subst e1
      exact ⟨c0, c1, c2, c3, c4, ps, rfl, h1⟩
end
theorem maxLen_cell {w : World} (h : w.ShapedOpen Tryz.prog) : ∃ m : Int, w.cell? ⟨0, 0, none⟩ = some (.int .i64 m) := Tryz.laysM144.s1_3 w h
end Go.Proofs.YteihjneeiojgaaaGreat
/-
  Find of both, the reference's Ints and Kinds. Conditions: lengths.
-/
namespace Go.Proofs.YteihjneeiojgaaaGreat
set_option maxRecDepth 100000
set_option linter.unusedVariables false
set_option linter.unusedSimpArgs false
open Go.RowKit

/-- The first column of a name, counted from k; or -1. -/
def findK (s : ByteArray) : Nat → List Cl → Int
  | _, [] => -1
  | k, c :: cs => if (c.1.toList == s.toList) = true then (k : Int) else findK s (k + 1) cs
theorem findK_drop (s : ByteArray) {cs : List Cl} {k : Nat} {c : Cl} (h : cs[k]? = some c) : findK s k (cs.drop k) = if (c.1.toList == s.toList) = true then (k : Int) else findK s (k + 1) (cs.drop (k + 1)) := by
  obtain ⟨h1, rfl⟩ := List.getElem?_eq_some_iff.1 h
  rw [List.drop_eq_getElem_cons h1]
  rfl
set_option maxRecDepth 100000 in
set_option maxHeartbeats 3200000 in
theorem rFind_any (nm vc vk vf vx : Value) (cs : List Cl) (s : ByteArray) (w : World) (L : Nat) (hc : RdK w L w.heap.size vc cs) :
    Calls Tryz.prog 25 #[.agg #[nm, vc, vk, vf, vx], .string s] w fun e w' => e = .returned (.int .i64 (findK s 0 cs)) ∧ Below w.heap.size w w' := by
  obtain ⟨A, c, rfl, hl1, hc1⟩ := hc
  have HC := Lib.hid hc1
  have b1 := bel_mark w (.cells #[nm, .slice A cs.length c, vk, vf, vx] 27)
  have HO := Lib.hid (Own.new w 27 #[nm, .slice A cs.length c, vk, vf, vx])
  have B1 := Lib.hid b1
  clear hc1 b1
  go_enter Tryz.func25, Tryz.ntmps25
  go_wp2
  go_loopw [5] (fun i wr => ∃ k : Nat, k ≤ cs.length ∧ i = .int .i64 k ∧ Hid (findK s 0 cs = findK s k (cs.drop k)) ∧ Hid (Own wr w.heap.size 27 #[nm, .slice A cs.length c, vk, vf, vx]) ∧ Below w.heap.size w wr) (fun i _ => cs.length - (intOf i).toNat)
  case atStart => exact ⟨0, Nat.zero_le _, rfl, Lib.hid rfl, HO, B1.out⟩
  case round =>
    obtain ⟨k, hk, rfl, HR, HO2, hbr⟩ := hrel
    have hbz := hbr.size
    have d1 := HO2.out.cell 1
    by_cases hlt : k < cs.length
    · have hki : (k : Int) < cs.length := by omega
      obtain ⟨ad, rfl, _, hab, a0, a1, a2⟩ := HC.out k _ (List.getElem?_eq_getElem hlt)
      have hcd := findK_drop s (List.getElem?_eq_getElem hlt)
      rw [← HR.out] at hcd
      generalize cs[k] = q at *
      obtain ⟨qn, qk, qb⟩ := q
      dsimp only at a0 a1 a2 hcd
      have e0 := (hbr.cell (p := ad.add (k * 3)) (by rw [add_block]; exact hab)).trans a0
      clear a0 a1 a2
      cases hb : (qn.toList == s.toList)
      · have HF := Lib.hid (hcd.trans (if_neg (by rw [hb]; decide)))
        clear hcd
        go_wp2
        go_roundw
        case rel => exact ⟨k + 1, by omega, by go_num, HF, HO2, hbr⟩
        case measure => simp [intOf]; omega
      · have HF := Lib.hid (hcd.trans (if_pos hb))
        clear hcd
        go_wp2
        go_ret
        exact ⟨by rw [HF.out]; rfl, hbr⟩
    · have hki : ¬ (k : Int) < cs.length := by omega
      have HF := Lib.hid (show findK s 0 cs = -1 by rw [HR.out, List.drop_eq_nil_of_le (show cs.length ≤ k by omega)]; rfl)
      go_wp2
      go_ret
      exact ⟨by rw [HF.out]; rfl, hbr⟩
end Go.Proofs.YteihjneeiojgaaaGreat
/-
  find of evolve: the index of a column whose name consists of letters, digits and underscores. Conditions: the definition's names are such.
-/
namespace Go.Proofs.YteihjneeiojgaaaGreat
set_option maxRecDepth 100000
set_option linter.unusedVariables false
set_option linter.unusedSimpArgs false
open Go.RowKit

theorem okc_ascii {b : UInt8} (h : okcB b = true) : b.toNat < 128 := by
  unfold okcB digB lowB at h
  simp only [Bool.or_eq_true, Bool.and_eq_true, decide_eq_true_eq] at h
  omega
theorem list_eq_size {a b : ByteArray} (h : a.toList = b.toList) : a.size = b.size := by
  rw [Lib.toList_data, Lib.toList_data] at h
  rw [← size_list, ← size_list, h]
theorem take_step {s : ByteArray} {pos : Nat} (h : pos < s.size) : s.data.toList.take (pos + 1) = s.data.toList.take pos ++ [s[pos]'h] := by
  rw [List.take_add_one, getS_list s pos h]; rfl
set_option maxRecDepth 100000 in
set_option maxHeartbeats 6400000 in
theorem isCalled_any (qn : ByteArray) (qk : Int) (qb : Bool) (s : ByteArray) (w : World) (hn : qn.data.toList.all okcB = true) :
    Calls Tryz.prog 69 #[.agg #[.string qn, .int .i64 qk, .bool qb], .string s] w fun e w' => e = .returned (.bool (qn.toList == s.toList)) ∧ Below w.heap.size w w' := by
  have b1 := bel_mk w (.cells #[.string qn, .int .i64 qk, .bool qb] 29)
  have oc := (Own.new w 29 #[.string qn, .int .i64 qk, .bool qb])
  have d0 := oc.cell 0
  by_cases hs : qn.size = s.size
  rotate_left
  · have hne : ((qn.size : Int) != (s.size : Int)) = true := by simp; omega
    have HF := Lib.hid (show (qn.toList == s.toList) = false from by rw [beq_eq_false_iff_ne]; intro h; exact hs (list_eq_size h))
    have B1 := Lib.hid b1
    clear hs b1 hn
    go_enter Tryz.func69, Tryz.ntmps69
    go_wp2
    go_ret
    exact ⟨by rw [HF.out]; rfl, B1.out⟩
  have hne : ((qn.size : Int) != (s.size : Int)) = false := by simp; omega
  have HS := Lib.hid hs
  have HN := Lib.hid hn
  have B1 := Lib.hid b1
  clear hs b1 hn
  go_enter Tryz.func69, Tryz.ntmps69
  go_wp2_with fail
  have hVz : (w.alloc (.cells #[.string qn, .int .i64 qk, .bool qb] 29)).heap.size = w.heap.size + 1 := World.size_alloc ..
  generalize w.alloc (.cells #[.string qn, .int .i64 qk, .bool qb] 29) = V at *
  have HVZ := Lib.hid hVz
  clear hVz
  go_loopw [5, 6] (fun i r wr => ∃ pos : Nat, wr = V.iter qn pos ∧ pos ≤ qn.size ∧ Hid (qn.data.toList.take pos = s.data.toList.take pos)) (fun _ _ wr => qn.size - wr.iterPos (w.heap.size + 1))
  case atStart => exact ⟨0, rfl, Nat.zero_le _, Lib.hid rfl⟩
  case round =>
    obtain ⟨pos, rfl, hpl, HA⟩ := hrel
    have BI := Lib.hid (bel_mark V (.stringIter qn pos))
    by_cases hlt : pos < qn.size
    · have hnx : ∀ ty, (Instr.next (.pointer (some ⟨V.heap.size, 0, none⟩)) true ty).run Tryz.prog (V.iter qn pos) = _ := fun ty => run_next_any V qn pos ty hlt
      rw [HVZ.out] at hnx
      have hls : pos < s.size := by rw [← HS.out]; exact hlt
      have hok := List.all_eq_true.1 HN.out _ (List.mem_of_getElem? (getS_list qn pos hlt))
      rw [decode_ascii qn pos hlt (okc_ascii hok)] at hnx
      have hw := wrap32_byte (s[pos]'hls)
      have BN := Lib.hid (bel_mark V (.stringIter qn (pos + 1)))
      have T1 := Lib.hid (take_step hlt)
      have T2 := Lib.hid (take_step hls)
      have HQ := Lib.hid (getS_list qn pos hlt)
      have HSQ := Lib.hid (getS_list s pos hls)
      have hli : (pos : Int) < s.size := by omega
      dsimp only at hnx
      generalize hb1 : qn[pos]'hlt = x at *
      by_cases hxy : x = s[pos]'hls
      · have hc : (((s[pos]'hls).toNat : Int) != (x.toNat : Int)) = false := by rw [hxy]; simp
        go_wp2
        go_roundw
        case rel => exact ⟨pos + 1, rfl, hlt, Lib.hid (by rw [T1.out, T2.out, HA.out, hxy])⟩
        case measure => rw [← HVZ.out]; simp; omega
      · have hc : (((s[pos]'hls).toNat : Int) != (x.toNat : Int)) = true := by
          simp only [bne_iff_ne, ne_eq]
          intro h
          exact hxy (UInt8.toNat_inj.1 (by omega))
        have HF := Lib.hid (show (qn.toList == s.toList) = false from by
          rw [beq_eq_false_iff_ne]
          intro h
          rw [Lib.toList_data, Lib.toList_data] at h
          have h1 := HQ.out
          rw [h, HSQ.out] at h1
          injection h1 with h1
          exact hxy h1.symm)
        go_wp2
        go_ret
        exact ⟨by rw [HF.out]; rfl, B1.out.trans (BN.out.mono B1.out.size)⟩
    · have hnx : ∀ ty, (Instr.next (.pointer (some ⟨V.heap.size, 0, none⟩)) true ty).run Tryz.prog (V.iter qn pos) = _ := fun ty => run_next_end V qn pos ty hlt
      rw [HVZ.out] at hnx
      have HF := Lib.hid (show (qn.toList == s.toList) = true from by
        have hp : pos = qn.size := by omega
        have h := HA.out
        rw [hp, List.take_of_length_le (by rw [size_list]; omega), HS.out, List.take_of_length_le (by rw [size_list]; omega)] at h
        rw [Lib.toList_data, Lib.toList_data, h]
        simp)
      go_wp2
      go_ret
      exact ⟨by rw [HF.out]; rfl, B1.out.trans (BI.out.mono B1.out.size)⟩
end Go.Proofs.YteihjneeiojgaaaGreat
/-
  find of evolve, by its closure. Conditions: as isCalled's.
-/
namespace Go.Proofs.YteihjneeiojgaaaGreat
set_option maxRecDepth 100000
set_option linter.unusedVariables false
set_option linter.unusedSimpArgs false
open Go.RowKit

set_option maxRecDepth 100000 in
set_option maxHeartbeats 1600000 in
theorem eFind1_any (qn : ByteArray) (qk : Int) (qb : Bool) (s : ByteArray) (g : Nat) (w : World) (hn : qn.data.toList.all okcB = true) (hs : w.cell? ⟨g, 0, none⟩ = some (.string s)) :
    Calls Tryz.prog 68 #[.agg #[.string qn, .int .i64 qk, .bool qb], .pointer (some ⟨g, 0, none⟩)] w fun e w' => e = .returned (.bool (qn.toList == s.toList)) ∧ Below w.heap.size w w' := by
  have b1 := bel_mk w (.cells #[.string qn, .int .i64 qk, .bool qb] 29)
  have oc := Own.new w 29 #[.string qn, .int .i64 qk, .bool qb]
  have d0 := oc.cell 0
  have d1 := oc.cell 1
  have d2 := oc.cell 2
  have e0 := (b1.cell (p := ⟨g, 0, none⟩) (World.block_lt_of_cell? w _ hs)).trans hs
  have B1 := Lib.hid b1
  have HI := Lib.hid (fun W => isCalled_any qn qk qb s W hn)
  clear b1 hs hn oc
  go_enter Tryz.func68, Tryz.ntmps68
  go_wp2_with fail
  with_reducible refine (HI.out _).mono ?_
  rintro e w2 ⟨rfl, hb2⟩
  go_wp2
  go_ret
  exact ⟨rfl, B1.out.trans (hb2.mono B1.out.size)⟩
set_option maxRecDepth 100000 in
set_option maxHeartbeats 3200000 in
theorem eIndexFunc_any (vc : Value) (cs : List Cl) (s : ByteArray) (g : Nat) (w : World) (L : Nat) (hc : RdK w L w.heap.size vc cs) (hs : w.cell? ⟨g, 0, none⟩ = some (.string s)) (hnm : ∀ c ∈ cs, (nmC c).all okcB = true) :
    Calls Tryz.prog 67 #[vc, .func (.func 68) #[] #[.pointer (some ⟨g, 0, none⟩)]] w fun e w' => e = .returned (.int .i64 (findK s 0 cs)) ∧ Below w.heap.size w w' := by
  obtain ⟨A, c, rfl, hl1, hc1⟩ := hc
  have HC := Lib.hid hc1
  have HS := Lib.hid hs
  have HNM := Lib.hid hnm
  clear hnm
  have hg0 := World.block_lt_of_cell? w _ hs
  clear hc1 hs
  go_enter Tryz.func67, Tryz.ntmps67
  go_wp2
  go_loopw [8] (fun i wr => ∃ k : Nat, k ≤ cs.length ∧ i = .int .i64 k ∧ Hid (findK s 0 cs = findK s k (cs.drop k)) ∧ Below w.heap.size w wr) (fun i _ => cs.length - (intOf i).toNat)
  case atStart => exact ⟨0, Nat.zero_le _, rfl, Lib.hid rfl, Below.refl _ _⟩
  case round =>
    obtain ⟨k, hk, rfl, HR, hbr⟩ := hrel
    have hbz := hbr.size
    by_cases hlt : k < cs.length
    · have hki : (k : Int) < cs.length := by omega
      obtain ⟨ad, rfl, _, hab, a0, a1, a2⟩ := HC.out k _ (List.getElem?_eq_getElem hlt)
      have hcd := findK_drop s (List.getElem?_eq_getElem hlt)
      rw [← HR.out] at hcd
      have hq := HNM.out _ (List.getElem_mem hlt)
      generalize cs[k] = q at *
      obtain ⟨qn, qk, qb⟩ := q
      dsimp only at a0 a1 a2 hcd
      change (qn.data.toList).all okcB = true at hq
      have e0 := (hbr.cell (p := ad.add (k * 3)) (by rw [add_block]; exact hab)).trans a0
      have e1 := (hbr.cell (p := ⟨(ad.add (k * 3)).block, (ad.add (k * 3)).off + 1, none⟩) (by show (ad.add (k * 3)).block < _; rw [add_block]; exact hab)).trans a1
      have e2 := (hbr.cell (p := ⟨(ad.add (k * 3)).block, (ad.add (k * 3)).off + 2, none⟩) (by show (ad.add (k * 3)).block < _; rw [add_block]; exact hab)).trans a2
      have H1 := Lib.hid (eFind1_any qn qk qb s g wr hq ((hbr.cell (p := ⟨g, 0, none⟩) hg0).trans HS.out))
      clear a0 a1 a2 hq
      cases hb : (qn.toList == s.toList)
      · rw [hb] at H1
        have HF := Lib.hid (hcd.trans (if_neg (by rw [hb]; decide)))
        clear hb hcd
        go_wp2_with fail
        with_reducible refine H1.out.mono ?_
        rintro e w2 ⟨rfl, hb2⟩
        go_wp2
        go_roundw
        case rel => exact ⟨k + 1, by omega, by go_num, HF, hbr.trans (hb2.mono hbz)⟩
        case measure => simp [intOf]; omega
      · rw [hb] at H1
        have HF := Lib.hid (hcd.trans (if_pos hb))
        clear hb hcd
        go_wp2_with fail
        with_reducible refine H1.out.mono ?_
        rintro e w2 ⟨rfl, hb2⟩
        go_wp2
        go_ret
        exact ⟨by rw [HF.out]; rfl, hbr.trans (hb2.mono hbz)⟩
    · have hki : ¬ (k : Int) < cs.length := by omega
      have HF := Lib.hid (show findK s 0 cs = -1 by rw [HR.out, List.drop_eq_nil_of_le (show cs.length ≤ k by omega)]; rfl)
      go_wp2
      go_ret
      exact ⟨by rw [HF.out]; rfl, hbr⟩
set_option maxRecDepth 100000 in
set_option maxHeartbeats 1600000 in
theorem eFind_any (nm vc vk vf vx : Value) (cs : List Cl) (s : ByteArray) (w : World) (L : Nat) (hc : RdK w L w.heap.size vc cs) (hnm : ∀ c ∈ cs, (nmC c).all okcB = true) :
    Calls Tryz.prog 36 #[.agg #[nm, vc, vk, vf, vx], .string s] w fun e w' => e = .returned (.int .i64 (findK s 0 cs)) ∧ Below w.heap.size w w' := by
  have b1 := bel_mark w (.cells #[nm, vc, vk, vf, vx] 27)
  have b2 := b1.trans ((bel_mark _ (.cells #[.string s] 9)).mono b1.size)
  have d1 := ((Own.new w 27 #[nm, vc, vk, vf, vx]).alloc (.cells #[.string s] 9)).cell 1
  have H := Lib.hid (eIndexFunc_any vc cs s (w.heap.size + 1) ((w.alloc (.cells #[nm, vc, vk, vf, vx] 27)).alloc (.cells #[.string s] 9)) L (hc.step b2 (Nat.le_refl _)) ((own_two2 (w := w) (t := 9) (cs := #[.string s]) (.cells #[nm, vc, vk, vf, vx] 27)).cell 0) hnm)
  have B2 := Lib.hid b2
  clear b1 b2 hc
  go_enter Tryz.func36, Tryz.ntmps36
  go_wp2_with fail
  with_reducible refine H.out.mono ?_
  rintro e w2 ⟨rfl, hb2⟩
  go_wp2
  go_ret
  exact ⟨rfl, B2.out.trans (hb2.mono B2.out.size)⟩
end Go.Proofs.YteihjneeiojgaaaGreat
/-
  Changes as values: usedFields and the comparison of two changes. Conditions: none.
-/
namespace Go.Proofs.YteihjneeiojgaaaGreat
set_option maxRecDepth 100000
set_option linter.unusedVariables false
set_option linter.unusedSimpArgs false
open Go.RowKit

/-- A change: its kind, its name, its other name, its column, its value. -/
structure Chg where
  k : Int
  nm : ByteArray
  to : ByteArray
  c : Cl
  p : Vl
def chA (k : Int) (nm to : ByteArray) (c : Cl) (p : Vl) : Array Value := #[.int .i64 k, .string nm, .string to, .string c.1, .int .i64 c.2.1, .bool c.2.2, .int .i64 p.1, .int .i64 p.2.1, .string p.2.2]
def chV (h : Chg) : Value := .agg (chA h.k h.nm h.to h.c h.p)
def zC : Cl := (⟨#[]⟩, 0, false)
def zP : Vl := (0, 0, ⟨#[]⟩)
/-- The fields that a change's kind uses. -/
def plnC (h : Chg) : Chg := if h.k = 1 then ⟨h.k, ⟨#[]⟩, ⟨#[]⟩, h.c, h.p⟩ else if h.k = 3 then ⟨h.k, h.nm, h.to, zC, zP⟩ else ⟨h.k, h.nm, ⟨#[]⟩, zC, zP⟩
def eqS (a b : ByteArray) : Bool := a.toList == b.toList
def eqH (a b : Chg) : Bool := (a.k == b.k) && (eqS a.nm b.nm && (eqS a.to b.to && (eqC a.c b.c && ((a.p.1 == b.p.1) && ((a.p.2.1 == b.p.2.1) && eqS a.p.2.2 b.p.2.2)))))
theorem ite_ok {c : Prop} [Decidable c] {A : Result Value} {w : World} {a b : Bool} (h0 : a = true ↔ c) (hA : A = .ok (.bool (!b)) w) : (if c then A else .ok (.bool true) w) = .ok (.bool (!(a && b))) w := by
  by_cases h : c
  · rw [if_pos h, h0.2 h]; exact hA
  · have ha : a = false := by cases a; rfl; exact absurd (h0.1 rfl) h
    rw [if_neg h, ha]; rfl
theorem ite_ok1 {c : Prop} [Decidable c] {w : World} {a : Bool} (h0 : a = true ↔ c) : (if c then (Result.ok (.bool false) w : Result Value) else .ok (.bool true) w) = .ok (.bool (!a)) w := by
  by_cases h : c
  · rw [if_pos h, h0.2 h]; rfl
  · have ha : a = false := by cases a; rfl; exact absurd (h0.1 rfl) h
    rw [if_neg h, ha]; rfl
theorem load_chg {w : World} {g : Nat} {x0 x1 x2 x3 x4 x5 x6 x7 x8 : Value} (h : Own w g 33 #[x0, x1, x2, x3, x4, x5, x6, x7, x8]) : (loadVar 33 ⟨g, 0, none⟩).run Tryz.prog w = .ok (.agg #[x0, x1, x2, x3, x4, x5, x6, x7, x8]) w :=
  run_loadVar_row w g 33 33 #[x0, x1, x2, x3, x4, x5, x6, x7, x8] (0, 0) _ h Tryz.underlying33 rfl (by kernel_rfl)
theorem neq_chg (k : Int) (s1 s2 s3 : ByteArray) (ck : Int) (cb : Bool) (p1 p2 : Int) (p3 : ByteArray) (l : Int) (t1 t2 t3 : ByteArray) (dk : Int) (db : Bool) (q1 q2 : Int) (q3 : ByteArray) (w : World) :
    (binOp .neq 33 (.agg #[.int .i64 k, .string s1, .string s2, .string s3, .int .i64 ck, .bool cb, .int .i64 p1, .int .i64 p2, .string p3]) (.agg #[.int .i64 l, .string t1, .string t2, .string t3, .int .i64 dk, .bool db, .int .i64 q1, .int .i64 q2, .string q3])).run Tryz.prog w = .ok (.bool (!eqH ⟨k, s1, s2, (s3, ck, cb), (p1, p2, p3)⟩ ⟨l, t1, t2, (t3, dk, db), (q1, q2, q3)⟩)) w := by
  rw [run_neq_struct, run_equalIn_struct w 9999 33 _ _ (by kernel_rfl) (by kernel_rfl)]
  simp [Program.fieldsOf, Op.eqFields, Tryz.underlying33, Tryz.underlying29, Tryz.underlying31, Tryz.underlying3, Tryz.underlying9, Tryz.underlying4, part, isAgg, go_sem]
  unfold eqH eqC eqS
  dsimp only
  simp only [Bool.and_assoc]
  exact ite_ok beq_iff_eq (ite_ok beq_iff_eq (ite_ok beq_iff_eq (ite_ok beq_iff_eq (ite_ok beq_iff_eq (ite_ok beq_iff_eq (ite_ok beq_iff_eq (ite_ok beq_iff_eq (ite_ok1 beq_iff_eq))))))))
set_option maxRecDepth 100000 in
set_option maxHeartbeats 6400000 in
theorem usedFields_any (h : Chg) (w : World) : Calls Tryz.prog 46 #[chV h] w fun e w' => e = .returned (chV (plnC h)) ∧ Below w.heap.size w w' := by
  obtain ⟨k, s1, s2, ⟨s3, ck, cb⟩, ⟨p1, p2, p3⟩⟩ := h
  unfold plnC chV chA zC zP
  dsimp only
  by_cases h1 : k = 1
  · subst h1
    rw [if_pos rfl]
    dsimp only
    obtain ⟨HP, -, -⟩ := bx2 w 33 #[.int .i64 1, .string s1, .string s2, .string s3, .int .i64 ck, .bool cb, .int .i64 p1, .int .i64 p2, .string p3] 33 #[.int .i64 0, .string ⟨#[]⟩, .string ⟨#[]⟩, .string ⟨#[]⟩, .int .i64 0, .bool false, .int .i64 0, .int .i64 0, .string ⟨#[]⟩]
    obtain ⟨c0, c1, c2, c3, c4, c5, c6, c7, c8⟩ := oc9 HP
    obtain ⟨-, HO1, HB⟩ := bx2 w 33 #[.int .i64 1, .string s1, .string s2, .string s3, .int .i64 ck, .bool cb, .int .i64 p1, .int .i64 p2, .string p3] 33 #[.int .i64 1, .string ⟨#[]⟩, .string ⟨#[]⟩, .string s3, .int .i64 ck, .bool cb, .int .i64 p1, .int .i64 p2, .string p3]
    go_enter Tryz.func46, Tryz.ntmps46
    go_wp2
    (try simp only [Exit.inBlock, Exit.then]); refine bodyPost_ret_by (results_cell_row1 (by rfl) _ _ (w.heap.size + 1) _ (by rfl) (load_chg HO1.out)) ?_ ?_; (focus rfl); (try dsimp only)
    exact ⟨rfl, HB.out⟩
  · rw [if_neg h1]
    have h1b : (k == 1) = false := by rw [beq_eq_false_iff_ne]; exact h1
    clear h1
    by_cases h3 : k = 3
    · subst h3
      rw [if_pos rfl]
      dsimp only
      obtain ⟨HP, -, -⟩ := bx2 w 33 #[.int .i64 3, .string s1, .string s2, .string s3, .int .i64 ck, .bool cb, .int .i64 p1, .int .i64 p2, .string p3] 33 #[.int .i64 0, .string ⟨#[]⟩, .string ⟨#[]⟩, .string ⟨#[]⟩, .int .i64 0, .bool false, .int .i64 0, .int .i64 0, .string ⟨#[]⟩]
      obtain ⟨c0, c1, c2, c3, c4, c5, c6, c7, c8⟩ := oc9 HP
      obtain ⟨-, HO1, HB⟩ := bx2 w 33 #[.int .i64 3, .string s1, .string s2, .string s3, .int .i64 ck, .bool cb, .int .i64 p1, .int .i64 p2, .string p3] 33 #[.int .i64 3, .string s1, .string s2, .string ⟨#[]⟩, .int .i64 0, .bool false, .int .i64 0, .int .i64 0, .string ⟨#[]⟩]
      go_enter Tryz.func46, Tryz.ntmps46
      go_wp2
      (try simp only [Exit.inBlock, Exit.then]); refine bodyPost_ret_by (results_cell_row1 (by rfl) _ _ (w.heap.size + 1) _ (by rfl) (load_chg HO1.out)) ?_ ?_; (focus rfl); (try dsimp only)
      exact ⟨rfl, HB.out⟩
    · rw [if_neg h3]
      have h3b : (k == 3) = false := by rw [beq_eq_false_iff_ne]; exact h3
      clear h3
      dsimp only
      obtain ⟨HP, -, -⟩ := bx2 w 33 #[.int .i64 k, .string s1, .string s2, .string s3, .int .i64 ck, .bool cb, .int .i64 p1, .int .i64 p2, .string p3] 33 #[.int .i64 0, .string ⟨#[]⟩, .string ⟨#[]⟩, .string ⟨#[]⟩, .int .i64 0, .bool false, .int .i64 0, .int .i64 0, .string ⟨#[]⟩]
      obtain ⟨c0, c1, c2, c3, c4, c5, c6, c7, c8⟩ := oc9 HP
      obtain ⟨-, HO1, HB⟩ := bx2 w 33 #[.int .i64 k, .string s1, .string s2, .string s3, .int .i64 ck, .bool cb, .int .i64 p1, .int .i64 p2, .string p3] 33 #[.int .i64 k, .string s1, .string ⟨#[]⟩, .string ⟨#[]⟩, .int .i64 0, .bool false, .int .i64 0, .int .i64 0, .string ⟨#[]⟩]
      go_enter Tryz.func46, Tryz.ntmps46
      go_wp2
      (try simp only [Exit.inBlock, Exit.then]); refine bodyPost_ret_by (results_cell_row1 (by rfl) _ _ (w.heap.size + 1) _ (by rfl) (load_chg HO1.out)) ?_ ?_; (focus rfl); (try dsimp only)
      exact ⟨rfl, HB.out⟩
end Go.Proofs.YteihjneeiojgaaaGreat
/-
  The words of the reference; that a name stands between blanks in the text of the keywords just where it is a word. Conditions: none.
-/
namespace Go.Proofs.YteihjneeiojgaaaGreat
set_option maxRecDepth 100000
set_option linter.unusedVariables false
set_option linter.unusedSimpArgs false
open Go.RowKit

def wordsL : List (List UInt8) := [[97, 100, 100], [97, 102, 116, 101, 114], [97, 108, 108], [97, 108, 116, 101, 114], [97, 110, 100], [97, 115], [98, 101, 102, 111, 114, 101], [98, 101, 103, 105, 110], [98, 101, 116, 119, 101, 101, 110], [98, 111, 111, 108], [98, 121], [99, 104, 101, 99, 107], [99, 111, 97, 108, 101, 115, 99, 101], [99, 111, 109, 109, 105, 116], [99, 111, 110, 116, 97, 105, 110, 115], [99, 111, 117, 110, 116], [99, 114, 101, 97, 116, 101], [100, 101, 102, 97, 117, 108, 116], [100, 101, 108, 101, 116, 101], [100, 101, 115, 99], [100, 105, 115, 116, 105, 110, 99, 116], [100, 114, 111, 112], [100, 117, 114, 105, 110, 103], [101, 113, 117, 97, 108, 115], [101, 120, 99, 101, 112, 116], [102, 97, 108, 115, 101], [102, 105, 110, 105, 115, 104, 101, 100, 98, 121], [102, 105, 110, 105, 115, 104, 101, 115], [102, 111, 114, 101, 105, 103, 110], [102, 111, 114, 101, 118, 101, 114], [102, 114, 111, 109], [103, 114, 111, 117, 112], [104, 111, 108, 100], [105, 102], [105, 110, 115, 101, 114, 116], [105, 110, 116], [105, 110, 116, 101, 114, 115, 101, 99, 116], [105, 110, 116, 111], [105, 115], [106, 111, 105, 110], [107, 101, 121], [108, 101, 102, 116], [108, 101, 110, 103, 116, 104], [108, 105, 109, 105, 116], [109, 97, 120], [109, 101, 101, 116, 115], [109, 101, 116, 98, 121], [109, 105, 110], [110, 111, 110, 115, 101, 113, 117, 101, 110, 99, 101, 100], [110, 111, 116], [110, 111, 119], [110, 117, 108, 108], [111, 102], [111, 110], [111, 114], [111, 114, 100, 101, 114], [111, 118, 101, 114, 108, 97, 112, 112, 101, 100, 98, 121], [111, 118, 101, 114, 108, 97, 112, 115], [112, 114, 105, 109, 97, 114, 121], [112, 114, 117, 110, 101], [114, 101, 102, 101, 114, 101, 110, 99, 101, 115], [114, 101, 108, 101, 97, 115, 101], [114, 101, 110, 97, 109, 101], [114, 101, 116, 97, 105, 110], [114, 111, 108, 108, 98, 97, 99, 107], [115, 101, 108, 101, 99, 116], [115, 101, 113, 117, 101, 110, 99, 101, 100], [115, 101, 116], [115, 116, 97, 114, 116, 101, 100, 98, 121], [115, 116, 97, 114, 116, 115], [115, 117, 109], [115, 121, 115, 116, 101, 109], [115, 121, 115, 116, 101, 109, 102, 114, 111, 109], [115, 121, 115, 116, 101, 109, 116, 111], [116, 97, 98, 108, 101], [116, 101, 120, 116], [116, 111], [116, 114, 117, 101], [116, 120], [117, 110, 100, 101, 114], [117, 110, 105, 111, 110], [117, 112, 100, 97, 116, 101], [118, 97, 108, 105, 100], [118, 97, 108, 105, 100, 102, 114, 111, 109], [118, 97, 108, 105, 100, 116, 111], [118, 97, 108, 117, 101, 115], [119, 104, 101, 114, 101]]
def blanked (ws : List (List UInt8)) : List UInt8 := 32 :: ws.flatMap (fun x => x ++ [32])
theorem kw_blanked : kwL = blanked wordsL := by decide +kernel
theorem words_plain : wordsL.all (fun x => x.all (fun b => decide (b ≠ 32))) = true := by decide +kernel
/-- A word and a blank at the head. -/
theorem head_word : ∀ (l x r : List UInt8), (∀ b ∈ l, b ≠ 32) → (∀ b ∈ x, b ≠ 32) → ((l ++ [32]) <+: (x ++ 32 :: r)) → l = x
  | [], [], _, _, _, _ => rfl
  | [], b :: x, r, _, hx, h => by
    obtain ⟨t, ht⟩ := h
    injection ht with h1 _
    exact absurd h1.symm (hx b (List.mem_cons_self ..))
  | a :: l, [], r, hl, _, h => by
    obtain ⟨t, ht⟩ := h
    injection ht with h1 _
    exact absurd h1 (hl a (List.mem_cons_self ..))
  | a :: l, b :: x, r, hl, hx, h => by
    obtain ⟨t, ht⟩ := h
    injection ht with h1 h2
    rw [h1, head_word l x r (fun c hc => hl c (List.mem_cons_of_mem _ hc)) (fun c hc => hx c (List.mem_cons_of_mem _ hc)) ⟨t, h2⟩]
/-- What begins with a blank lies behind a word. -/
theorem past_word (l : List UInt8) : ∀ (x r : List UInt8), (∀ b ∈ x, b ≠ 32) → (32 :: l) <:+: (x ++ 32 :: r) → (32 :: l) <:+: (32 :: r)
  | [], _, _, h => h
  | b :: x, r, hx, h => by
    refine past_word l x r (fun c hc => hx c (List.mem_cons_of_mem _ hc)) ?_
    rcases List.infix_cons_iff.1 h with ⟨t, ht⟩ | h
    · injection ht with h1 _
      exact absurd h1.symm (hx b (List.mem_cons_self ..))
    · exact h
theorem blanked_iff (l : List UInt8) (hl : ∀ b ∈ l, b ≠ 32) (h0 : l ≠ []) : ∀ ws : List (List UInt8), (∀ x ∈ ws, ∀ b ∈ x, b ≠ 32) → ((32 :: (l ++ [32])) <:+: blanked ws ↔ l ∈ ws)
  | [], _ => by
    constructor
    · intro h
      have := h.length_le
      simp [blanked] at this
    · intro h; cases h
  | x :: ws, hw => by
    have hx := hw x (List.mem_cons_self ..)
    have ih := blanked_iff l hl h0 ws (fun y hy => hw y (List.mem_cons_of_mem _ hy))
    have e : blanked (x :: ws) = 32 :: (x ++ blanked ws) := by
      unfold blanked
      rw [List.flatMap_cons, List.append_assoc]
      rfl
    rw [e]
    constructor
    · intro h
      rcases List.infix_cons_iff.1 h with ⟨t, ht⟩ | h
      · injection ht with _ h2
        have q := head_word l x (ws.flatMap (fun x => x ++ [32])) hl hx ⟨t, h2⟩
        rw [q]
        exact List.mem_cons_self ..
      · exact List.mem_cons_of_mem _ (ih.1 (past_word _ x _ hx h))
    · intro h
      rcases List.mem_cons.1 h with rfl | h
      · refine ⟨[], ws.flatMap (fun x => x ++ [32]), ?_⟩
        unfold blanked
        simp
      · obtain ⟨a, b, hab⟩ := ih.2 h
        exact ⟨32 :: (x ++ a), b, by rw [← hab]; simp⟩
theorem occ_infix (s sub : List UInt8) : Lib.contains s sub = true ↔ sub <:+: s := by
  unfold Lib.contains
  rw [decide_eq_true_iff]
  rcases Lib.index_spec s sub with ⟨h1, h2⟩ | ⟨i, h1, h2, h3, _⟩
  · constructor
    · intro h; omega
    · rintro ⟨a, b, rfl⟩
      have h := h2 a.length (by simp)
      unfold Lib.occAt at h
      rw [List.append_assoc, List.drop_left, Bool.eq_false_iff] at h
      exact absurd (List.isPrefixOf_iff_prefix.2 (List.prefix_append sub b)) h
  · refine ⟨fun _ => ?_, fun _ => by omega⟩
    unfold Lib.occAt at h3
    exact (List.isPrefixOf_iff_prefix.1 h3).isInfix.trans (List.drop_suffix i s).isInfix
theorem kw_word (l : List UInt8) (hl : l.all okcB = true) (h0 : l ≠ []) : Lib.contains kwL ([32] ++ l ++ [32]) = decide (l ∈ wordsL) := by
  rw [Bool.eq_iff_iff, occ_infix, decide_eq_true_iff, kw_blanked]
  refine blanked_iff l (fun b hb e => ?_) h0 wordsL (fun x hx b hb e => ?_)
  · have h := List.all_eq_true.1 hl b hb
    rw [e] at h
    revert h
    decide
  · have h := List.all_eq_true.1 (List.all_eq_true.1 words_plain x hx) b hb
    rw [e] at h
    revert h
    decide
end Go.Proofs.YteihjneeiojgaaaGreat
/-
  tuple.Pick: what it answers. Conditions: lengths.
-/
namespace Go.Proofs.YteihjneeiojgaaaGreat
set_option maxRecDepth 100000
set_option linter.unusedVariables false
set_option linter.unusedSimpArgs false
open Go.RowKit

theorem made_vals (n : Nat) : madeCells (Value.agg #[.int .i64 0, .int .i64 0, .string ⟨#[]⟩]).cells (n * 3) = rowC [] n := by
  unfold madeCells rowC
  have hz : (Value.agg #[.int .i64 0, .int .i64 0, .string ⟨#[]⟩]).cells = #[.int .i64 0, .int .i64 0, .string ⟨#[]⟩] := by kernel_rfl
  rw [hz]
  apply Array.ext
  · simp [flatV_len]
  · intro i h1 h2
    have hi : i < n * 3 := by simpa using h1
    have hk : i / 3 < n := by omega
    have hg : (List.replicate n zV)[i / 3]? = some zV := by rw [List.getElem?_replicate, if_pos hk]
    obtain ⟨g0, g1, g2⟩ := flatV_get _ _ _ hg
    simp only [List.length_nil, Nat.sub_zero, List.nil_append, Array.getElem_map, Array.getElem_range, List.getElem_toArray]
    have h3 : i = i / 3 * 3 ∨ i = i / 3 * 3 + 1 ∨ i = i / 3 * 3 + 2 := by omega
    have e : ∀ j u, (flatV (List.replicate n zV))[j]? = some u → ∀ h : j < (flatV (List.replicate n zV)).length, (flatV (List.replicate n zV))[j] = u := by
      intro j u hu h
      rw [List.getElem?_eq_getElem h] at hu
      exact Option.some.inj hu
    generalize i / 3 = k at *
    rcases h3 with rfl | rfl | rfl
    · rw [e _ _ g0]; simp; rfl
    · rw [e _ _ g1]; simp [Nat.add_mod]; rfl
    · rw [e _ _ g2]; simp [Nat.add_mod]; rfl
theorem made_rowC (W : World) (n : Nat) (hn : n ≤ 1099511627776) :
    (Instr.makeSlice 96 (.int .i64 (n : Nat)) (.int .i64 (n : Nat))).run Tryz.prog W = .ok (.slice (some ⟨W.heap.size, 0, none⟩) n n) (W.alloc (.cells (rowC [] n) 31)) := by
  obtain ⟨i0, hi, hz0, hz1, hz2⟩ := info_partsB infoV
  have h := run_make (P := Tryz.prog) (w := W) 96 31 i0 (.agg #[.int .i64 0, .int .i64 0, .string ⟨#[]⟩]) Tryz.underlying96 hi hz0 .i64 .i64 (n : Int) (n : Int) (by omega) (Int.le_refl _) (by rw [hz2]; omega) (by omega)
  rw [h, Int.toNat_natCast, hz1, made_vals]
end Go.Proofs.YteihjneeiojgaaaGreat
/-
  The reference's insert: a number into an ascending list. Conditions: lengths.
-/
namespace Go.Proofs.YteihjneeiojgaaaGreat
set_option maxRecDepth 100000
set_option linter.unusedVariables false
set_option linter.unusedSimpArgs false
open Go.RowKit

theorem own_empty (w : World) : (w.alloc (.cells #[] 3)).ownsRow w.heap.size 3 1 (.slice (some ⟨w.heap.size, 0, none⟩) 0 0) ([] : List Int).length (intsV []) :=
  ⟨rfl, .inr ⟨w.heap.size, 0, #[], rfl, Nat.le_refl _, heap_alloc_new w _, Nat.le_refl _, Nat.zero_le _, rfl, rfl⟩⟩
theorem lowI_take {l : List Int} {n : Int} : ∀ {k : Nat}, k ≤ (lowI l n).length → lowI (l.take k) n = l.take k := by
  induction l with
  | nil => intro k _; simp [lowI]
  | cons x l ih =>
    intro k hk
    rw [lowI_cons] at hk
    by_cases hx : x < n
    · rw [if_pos hx] at hk
      cases k with
      | zero => simp [lowI]
      | succ k =>
        rw [List.take_succ_cons, lowI_cons, if_pos hx, ih (by simpa using hk)]
    · rw [if_neg hx] at hk
      have : k = 0 := by simpa using hk
      subst this
      simp [lowI]
theorem lowI_step : ∀ {l : List Int} {n x : Int} {k : Nat}, l[k]? = some x → k ≤ (lowI l n).length → (if x < n then k + 1 ≤ (lowI l n).length else (lowI l n).length = k)
  | y :: l, n, x, 0, h, _ => by
    have e : y = x := by simpa using h
    subst e
    rw [lowI_cons]
    by_cases hx : y < n
    · rw [if_pos hx, if_pos hx]; simp
    · rw [if_neg hx, if_neg hx]; rfl
  | y :: l, n, x, k + 1, h, hk => by
    have h2 : l[k]? = some x := by simpa using h
    rw [lowI_cons] at hk ⊢
    by_cases hy : y < n
    · rw [if_pos hy] at hk ⊢
      have h3 := lowI_step h2 (by simpa using hk)
      by_cases hx : x < n
      · rw [if_pos hx] at h3 ⊢; simpa using h3
      · rw [if_neg hx] at h3 ⊢; simpa using h3
    · rw [if_neg hy] at hk
      simp at hk
theorem lowI_le (l : List Int) (n : Int) : (lowI l n).length ≤ l.length := List.Sublist.length_le (List.takeWhile_sublist _)
theorem lowI_eq (l : List Int) (n : Int) : lowI l n = l.take (lowI l n).length := by
  have h : lowI l n <+: l := List.takeWhile_prefix _
  exact List.prefix_iff_eq_take.1 h
/-- What stands after the first k elements, k not below the smaller ones' number. -/
def insK (l : List Int) (n : Int) (k : Nat) : List Int := lowI l n ++ n :: (((l.take k).drop (lowI l n).length).filter fun x => decide (x ≠ n))
theorem insK_full (l : List Int) (n : Int) (k : Nat) (h : l.length ≤ k) : insK l n k = insI l n := by
  unfold insK insI
  rw [List.take_of_length_le h]
theorem insK_first (l : List Int) (n : Int) : insK l n (lowI l n).length = lowI l n ++ [n] := by
  unfold insK
  rw [List.drop_of_length_le (by rw [List.length_take]; omega)]
  rfl
theorem insK_step {l : List Int} {n x : Int} {k : Nat} (h : l[k]? = some x) (hk : (lowI l n).length ≤ k) : insK l n (k + 1) = if x = n then insK l n k else insK l n k ++ [x] := by
  unfold insK
  have hkl := (List.getElem?_eq_some_iff.1 h).1
  rw [List.take_add_one, h, List.drop_append_of_le_length (by rw [List.length_take]; omega), List.filter_append]
  by_cases e : x = n
  · rw [if_pos e]
    simp [e]
  · rw [if_neg e]
    simp [e]
theorem insK_len (l : List Int) (n : Int) (k : Nat) (hk : (lowI l n).length ≤ k) (hkl : k ≤ l.length) : (insK l n k).length ≤ k + 1 := by
  unfold insK
  rw [List.length_append, List.length_cons]
  have h := List.length_filter_le (fun x => decide (x ≠ n)) ((l.take k).drop (lowI l n).length)
  rw [List.length_drop, List.length_take] at h
  omega
def RetIn (w : World) (l : List Int) (e : Ending) (w' : World) : Prop := ∃ v, e = .returned v ∧ w'.ownsRow w.heap.size 3 1 v l.length (intsV l) ∧ Below w.heap.size w w'
set_option maxRecDepth 100000 in
set_option maxHeartbeats 6400000 in
theorem rInsert_any (l : List Int) (n : Int) (v : Value) (w : World) (L : Nat) (hv : RdI w L w.heap.size v l) (hlen : l.length ≤ 1099511627775) :
    Calls Tryz.prog 83 #[v, .int .i64 n] w (RetIn w (insI l n)) := by
  obtain ⟨A, c, rfl, hl1, hc1⟩ := hv
  have HC := Lib.hid hc1
  have HLE := Lib.hid (lowI_le l n)
  clear hc1
  have HW := Lib.hid (own_empty w)
  have HB := Lib.hid (bel_mk w (.cells #[] 3))
  go_enter Tryz.func83, Tryz.ntmps83
  go_wp2_with fail
  go_loopw [5, 6] (fun vb i wr => ∃ k : Nat, k ≤ (lowI l n).length ∧ i = .int .i64 k ∧ Hid (wr.ownsRow w.heap.size 3 1 vb (l.take k).length (intsV (l.take k))) ∧ Below w.heap.size w wr) (fun _ i _ => l.length - (intOf i).toNat)
  case atStart => exact ⟨0, Nat.zero_le _, rfl, HW, HB.out⟩
  case round =>
    clear HW HB
    obtain ⟨k, hk, rfl, HR, hbr⟩ := hrel
    have hbz := hbr.size
    have hkl : k ≤ l.length := Nat.le_trans hk HLE.out
    by_cases hlt : k < l.length
    · have hki : (k : Int) < l.length := by omega
      have hx := List.getElem?_eq_getElem hlt
      obtain ⟨ad, rfl, _, hab, a0⟩ := HC.out k _ hx
      have htk : l.take (k + 1) = l.take k ++ [l[k]] := by rw [List.take_add_one, hx]; rfl
      have hst := lowI_step (n := n) hx hk
      have HX := Lib.hid hx
      generalize l[k] = q at *
      have e1 := (hbr.cell (p := ad.add k) (by rw [add_block]; exact hab)).trans a0
      have hlk : (l.take k).length = k := by rw [List.length_take]; omega
      have HTK := Lib.hid htk
      clear a0 htk hx
      by_cases hq : q < n
      · rw [if_pos hq] at hst
        have b2 := bel_mk wr (.cells #[.int .i64 q] 3)
        have HR2 := Lib.hid (own_below HR.out b2)
        have HCU := Lib.hid (show (wr.alloc (.cells #[.int .i64 q] 3)).cell? ⟨wr.heap.size, 0, none⟩ = some (.int .i64 q) from (Own.new wr 3 #[.int .i64 q]).cell 0)
        have HB2 := Lib.hid (hbr.trans (b2.mono hbz))
        have HLZ := Lib.hid (show (l.take k).length ≤ 1099511627776 by omega)
        have HST := Lib.hid hst
        clear b2 hlk hst
        go_wp2_with (at_builtin; refine append_i _ rfl _ _ rfl w.heap.size _ (l.take k) rfl HR2.out wr.heap.size 1 q rfl HCU.out HLZ.out HB2.out.size ?_; intro v3 w3 hR3 hb3)
        rw [← HTK.out] at hR3
        have B3 := HB2.out.trans (hb3.mono (Nat.le_refl _))
        go_roundw
        case rel => exact ⟨k + 1, HST.out, by go_num, Lib.hid hR3, B3⟩
        case measure => simp [intOf]; omega
      · rw [if_neg hq] at hst
        have HST := Lib.hid hst
        have h0 := HR.out
        rw [← hst, ← lowI_eq] at h0
        have b2 := bel_mk wr (.cells #[.int .i64 n] 3)
        have HR2 := Lib.hid (own_below h0 b2)
        have HCU := Lib.hid (show (wr.alloc (.cells #[.int .i64 n] 3)).cell? ⟨wr.heap.size, 0, none⟩ = some (.int .i64 n) from (Own.new wr 3 #[.int .i64 n]).cell 0)
        have HB2 := Lib.hid (hbr.trans (b2.mono hbz))
        have HLZ := Lib.hid (show (lowI l n).length ≤ 1099511627776 by omega)
        clear b2 hst h0 hlk
        go_wp2_with (at_builtin; refine append_i _ rfl _ _ rfl w.heap.size _ (lowI l n) rfl HR2.out wr.heap.size 1 n rfl HCU.out HLZ.out HB2.out.size ?_; intro v3 w3 hR3 hb3)
        have B3 := Lib.hid (HB2.out.trans (hb3.mono (Nat.le_refl _)))
        have hR4 : w3.ownsRow w.heap.size 3 1 v3 (insK l n k).length (intsV (insK l n k)) := by rw [← HST.out, insK_first]; exact hR3
        have HR4 := Lib.hid hR4
        have hk0 : k ≤ l.length := hkl
        clear hR3 hR4 hb3 hbr HR2 HCU HB2 HLZ HR hbz e1
        go_loopw [5, 6] (fun vb i wr => ∃ m : Nat, k ≤ m ∧ m ≤ l.length ∧ i = .int .i64 m ∧ Hid (wr.ownsRow w.heap.size 3 1 vb (insK l n m).length (intsV (insK l n m))) ∧ Below w.heap.size w wr) (fun _ i _ => l.length - (intOf i).toNat)
        case atStart => exact ⟨k, Nat.le_refl _, hk0, rfl, HR4, B3.out⟩
        case round =>
          clear HR4 B3
          obtain ⟨m, hkm, hm, rfl, HR, hbr⟩ := hrel
          have hbz := hbr.size
          by_cases hlt2 : m < l.length
          · have hmi : (m : Int) < l.length := by omega
            have hx := List.getElem?_eq_getElem hlt2
            obtain ⟨ad2, hA, _, hab2, a0⟩ := HC.out m _ hx
            injection hA.symm with hA; subst hA
            have hst := insK_step hx (n := n) (by have := HST.out; omega)
            generalize l[m] = q2 at *
            have e1 := (hbr.cell (p := ad2.add m) (by rw [add_block]; exact hab2)).trans a0
            have hlk := insK_len l n m (by have := HST.out; omega) hm
            clear a0 hx
            by_cases hq2 : q2 = n
            · rw [if_pos hq2] at hst
              have hqe : (q2 == n) = true := by rw [beq_iff_eq]; exact hq2
              have hR3 := HR.out
              rw [← hst] at hR3
              have HR3 := Lib.hid hR3
              clear hst hq2 hR3 HR
              go_wp2
              go_roundw
              case rel => exact ⟨m + 1, by omega, by omega, by go_num, HR3, hbr⟩
              case measure => simp [intOf]; omega
            · rw [if_neg hq2] at hst
              have hqe : (q2 == n) = false := by rw [beq_eq_false_iff_ne]; exact hq2
              have b2 := bel_mk wr (.cells #[.int .i64 q2] 3)
              have HR2 := Lib.hid (own_below HR.out b2)
              have HCU := Lib.hid (show (wr.alloc (.cells #[.int .i64 q2] 3)).cell? ⟨wr.heap.size, 0, none⟩ = some (.int .i64 q2) from (Own.new wr 3 #[.int .i64 q2]).cell 0)
              have HB2 := Lib.hid (hbr.trans (b2.mono hbz))
              have HLZ := Lib.hid (show (insK l n m).length ≤ 1099511627776 by omega)
              have HTK := Lib.hid hst
              clear b2 hst hlk hq2
              go_wp2_with (at_builtin; refine append_i _ rfl _ _ rfl w.heap.size _ (insK l n m) rfl HR2.out wr.heap.size 1 q2 rfl HCU.out HLZ.out HB2.out.size ?_; intro v3 w3 hR3 hb3)
              rw [← HTK.out] at hR3
              have B3 := HB2.out.trans (hb3.mono (Nat.le_refl _))
              go_roundw
              case rel => exact ⟨m + 1, by omega, by omega, by go_num, Lib.hid hR3, B3⟩
              case measure => simp [intOf]; omega
          · have hmi : ¬ (m : Int) < l.length := by omega
            have hR := HR.out
            rw [insK_full l n m (by omega)] at hR
            have HF := Lib.hid hR
            clear hR HR
            go_wp2
            go_ret
            exact ⟨_, rfl, HF.out, hbr⟩
    · have hki : ¬ (k : Int) < l.length := by omega
      have hst : (lowI l n).length = k := by have := HLE.out; omega
      have HST := Lib.hid hst
      have h0 := HR.out
      rw [← hst, ← lowI_eq] at h0
      have b2 := bel_mk wr (.cells #[.int .i64 n] 3)
      have HR2 := Lib.hid (own_below h0 b2)
      have HCU := Lib.hid (show (wr.alloc (.cells #[.int .i64 n] 3)).cell? ⟨wr.heap.size, 0, none⟩ = some (.int .i64 n) from (Own.new wr 3 #[.int .i64 n]).cell 0)
      have HB2 := Lib.hid (hbr.trans (b2.mono hbz))
      have HLZ := Lib.hid (show (lowI l n).length ≤ 1099511627776 by omega)
      clear b2 hst h0
      go_wp2_with (at_builtin; refine append_i _ rfl _ _ rfl w.heap.size _ (lowI l n) rfl HR2.out wr.heap.size 1 n rfl HCU.out HLZ.out HB2.out.size ?_; intro v3 w3 hR3 hb3)
      have B3 := Lib.hid (HB2.out.trans (hb3.mono (Nat.le_refl _)))
      have hR4 : w3.ownsRow w.heap.size 3 1 v3 (insK l n k).length (intsV (insK l n k)) := by rw [← HST.out, insK_first]; exact hR3
      have HR4 := Lib.hid hR4
      have hk0 : k ≤ l.length := hkl
      clear hR3 hR4 hb3 hbr HR2 HCU HB2 HLZ HR hbz hlt hki
      go_loopw [5, 6] (fun vb i wr => ∃ m : Nat, k ≤ m ∧ m ≤ l.length ∧ i = .int .i64 m ∧ Hid (wr.ownsRow w.heap.size 3 1 vb (insK l n m).length (intsV (insK l n m))) ∧ Below w.heap.size w wr) (fun _ i _ => l.length - (intOf i).toNat)
      case atStart => exact ⟨k, Nat.le_refl _, hk0, rfl, HR4, B3.out⟩
      case round =>
        clear HR4 B3
        obtain ⟨m, hkm, hm, rfl, HR, hbr⟩ := hrel
        have hbz := hbr.size
        by_cases hlt2 : m < l.length
        · have hmi : (m : Int) < l.length := by omega
          have hx := List.getElem?_eq_getElem hlt2
          obtain ⟨ad2, hA, _, hab2, a0⟩ := HC.out m _ hx
          subst hA
          have hst := insK_step hx (n := n) (by have := HST.out; omega)
          generalize l[m] = q2 at *
          have e1 := (hbr.cell (p := ad2.add m) (by rw [add_block]; exact hab2)).trans a0
          have hlk := insK_len l n m (by have := HST.out; omega) hm
          clear a0 hx
          by_cases hq2 : q2 = n
          · rw [if_pos hq2] at hst
            have hqe : (q2 == n) = true := by rw [beq_iff_eq]; exact hq2
            have hR3 := HR.out
            rw [← hst] at hR3
            have HR3 := Lib.hid hR3
            clear hst hq2 hR3 HR
            go_wp2
            go_roundw
            case rel => exact ⟨m + 1, by omega, by omega, by go_num, HR3, hbr⟩
            case measure => simp [intOf]; omega
          · rw [if_neg hq2] at hst
            have hqe : (q2 == n) = false := by rw [beq_eq_false_iff_ne]; exact hq2
            have b2 := bel_mk wr (.cells #[.int .i64 q2] 3)
            have HR2 := Lib.hid (own_below HR.out b2)
            have HCU := Lib.hid (show (wr.alloc (.cells #[.int .i64 q2] 3)).cell? ⟨wr.heap.size, 0, none⟩ = some (.int .i64 q2) from (Own.new wr 3 #[.int .i64 q2]).cell 0)
            have HB2 := Lib.hid (hbr.trans (b2.mono hbz))
            have HLZ := Lib.hid (show (insK l n m).length ≤ 1099511627776 by omega)
            have HTK := Lib.hid hst
            clear b2 hst hlk hq2
            go_wp2_with (at_builtin; refine append_i _ rfl _ _ rfl w.heap.size _ (insK l n m) rfl HR2.out wr.heap.size 1 q2 rfl HCU.out HLZ.out HB2.out.size ?_; intro v3 w3 hR3 hb3)
            rw [← HTK.out] at hR3
            have B3 := HB2.out.trans (hb3.mono (Nat.le_refl _))
            go_roundw
            case rel => exact ⟨m + 1, by omega, by omega, by go_num, Lib.hid hR3, B3⟩
            case measure => simp [intOf]; omega
        · have hmi : ¬ (m : Int) < l.length := by omega
          have hR := HR.out
          rw [insK_full l n m (by omega)] at hR
          have HF := Lib.hid hR
          clear hR HR
          go_wp2
          go_ret
          exact ⟨_, rfl, HF.out, hbr⟩
end Go.Proofs.YteihjneeiojgaaaGreat
/-
  The kind of a result, by the reference: result. Conditions: lengths.
-/
namespace Go.Proofs.YteihjneeiojgaaaGreat
set_option maxRecDepth 100000
set_option linter.unusedVariables false
set_option linter.unusedSimpArgs false
open Go.RowKit

/-- The kind of a result, and whether the arguments' kinds are as the operator asks. -/
def resX (op : Int) (zs : List Int) : Int × Bool :=
  if op = 4 ∨ op = 5 ∨ op = 6 then (3, allK 3 zs)
  else if op = 7 ∨ op = 8 ∨ op = 9 ∨ op = 10 ∨ op = 11 ∨ op = 12 then (3, (joinK 0 zs).isSome)
  else if op = 13 ∨ op = 14 ∨ op = 15 ∨ op = 16 ∨ op = 17 ∨ op = 18 then (1, allK 1 zs)
  else if op = 19 then (2, allK 2 zs)
  else if op = 20 then (1, allK 2 zs)
  else if op = 21 then (3, true)
  else if op = 22 then ((joinK 0 (zs.drop 1)).getD 0, (joinK 0 (zs.drop 1)).isSome && allK 3 (zs.take 1))
  else if op = 23 then ((joinK 0 zs).getD 0, (joinK 0 zs).isSome)
  else (3, allK 1 zs)
def finX (p : Int × Bool) : Int × Int := if p.2 then (p.1, 0) else (0, 7)
theorem join_to (a : Int) (ha : a ≠ 0) : ∀ (zs : List Int) (r : Int), joinK r (zs ++ [a]) = if (r = 0 ∨ r = a) ∧ allK a zs = true then some a else none
  | [], r => by
    show joinK r [a] = _
    unfold joinK
    rw [if_neg ha]
    by_cases h0 : r = 0
    · subst h0; simp [allK, joinK]
    · by_cases h1 : r = a
      · subst h1; simp [allK, joinK]
      · rw [if_pos ⟨h0, fun h => h1 h.symm⟩, if_neg (fun h => by rcases h.1 with h | h; exact h0 h; exact h1 h)]
  | z :: zs, r => by
    show joinK r (z :: (zs ++ [a])) = _
    unfold joinK
    have hk : allK a (z :: zs) = ((z == a || z == 0) && allK a zs) := rfl
    rw [hk]
    by_cases z0 : z = 0
    · subst z0
      rw [if_pos rfl, join_to a ha zs r]
      simp
    · rw [if_neg z0]
      by_cases hr : r ≠ 0 ∧ z ≠ r
      · rw [if_pos hr]
        rw [if_neg]
        rintro ⟨h1, h2⟩
        rcases h1 with h1 | h1
        · exact hr.1 h1
        · simp only [Bool.and_eq_true, Bool.or_eq_true, beq_iff_eq] at h2
          rcases h2.1 with h3 | h3
          · exact hr.2 (h3.trans h1.symm)
          · exact z0 h3
      · rw [if_neg hr, join_to a ha zs z]
        by_cases za : z = a
        · subst za
          have h1 : r = 0 ∨ r = z := by
            by_cases h0 : r = 0
            · exact .inl h0
            · by_cases h2 : z = r
              · exact .inr h2.symm
              · exact absurd ⟨h0, h2⟩ hr
          simp [h1]
        · have e1 : (z == a || z == 0) = false := by simp [za, z0]
          rw [e1, if_neg, if_neg]
          · rintro ⟨_, h2⟩; simp at h2
          · rintro ⟨h1, _⟩; rcases h1 with h1 | h1; exact z0 h1; exact za h1
theorem join_zero : ∀ (zs : List Int) (r : Int), joinK r (zs ++ [0]) = joinK r zs
  | [], r => by show joinK r [0] = _; unfold joinK; rw [if_pos rfl]; rfl
  | z :: zs, r => by
    show joinK r (z :: (zs ++ [0])) = joinK r (z :: zs)
    unfold joinK
    rw [join_zero zs r, join_zero zs z]
theorem resT_to (a r : Int) (ha : a ≠ 0) (hr : r ≠ 0) (zs : List Int) : resT a r zs = finX (r, allK a zs) := by
  unfold resT finX
  rw [join_to a ha zs 0]
  cases h : allK a zs
  · rw [if_neg (by simp)]; rfl
  · rw [if_pos ⟨.inl rfl, rfl⟩]; show (if r = 0 then (a, 0) else (r, 0)) = _; rw [if_neg hr]; rfl
theorem resT_any (r : Int) (zs : List Int) : resT 0 r zs = finX (if r = 0 then (joinK 0 zs).getD 0 else r, (joinK 0 zs).isSome) := by
  unfold resT finX
  rw [join_zero]
  cases joinK 0 zs with
  | none => rfl
  | some q => by_cases hr : r = 0 <;> simp [hr]
theorem knw_c {op : Int} (h : knw op = true) : op = 1 ∨ op = 2 ∨ (op = 4 ∨ op = 5 ∨ op = 6) ∨ (op = 7 ∨ op = 8 ∨ op = 9 ∨ op = 10 ∨ op = 11 ∨ op = 12) ∨ (op = 13 ∨ op = 14 ∨ op = 15 ∨ op = 16 ∨ op = 17 ∨ op = 18) ∨ op = 19 ∨ op = 20 ∨ op = 21 ∨ op = 22 ∨ op = 23 ∨ op = 24 := by
  simp only [knw, Bool.or_eq_true, beq_iff_eq] at h
  omega
theorem res_same {op : Int} {zs : List Int} (hk : knw op = true) (h1 : op ≠ 1) (h2 : op ≠ 2) (h21 : op = 21 → zs.length = 1) (h22 : op = 22 → zs.length = 3) : resG op zs = finX (resX op zs) := by
  have hc := knw_c hk
  rcases hc with rfl | rfl | h | h | h | rfl | rfl | rfl | rfl | rfl | rfl
  · exact absurd rfl h1
  · exact absurd rfl h2
  · unfold resX; rw [if_pos h]; unfold resG; rw [if_neg (by omega)]
    rw [show opAr op = 3 by rcases h with rfl | rfl | rfl <;> rfl, show opRs op = 3 by rcases h with rfl | rfl | rfl <;> rfl, resT_to 3 3 (by decide) (by decide)]
  · unfold resX; rw [if_neg (by omega), if_pos h]; unfold resG; rw [if_neg (by omega)]
    rw [show opAr op = 0 by rcases h with rfl | rfl | rfl | rfl | rfl | rfl <;> rfl, show opRs op = 3 by rcases h with rfl | rfl | rfl | rfl | rfl | rfl <;> rfl, resT_any, if_neg (by decide)]
  · unfold resX; rw [if_neg (by omega), if_neg (by omega), if_pos h]; unfold resG; rw [if_neg (by omega)]
    rw [show opAr op = 1 by rcases h with rfl | rfl | rfl | rfl | rfl | rfl <;> rfl, show opRs op = 1 by rcases h with rfl | rfl | rfl | rfl | rfl | rfl <;> rfl, resT_to 1 1 (by decide) (by decide)]
  · exact resT_to 2 2 (by decide) (by decide) zs
  · exact resT_to 2 1 (by decide) (by decide) zs
  · have h := h21 rfl
    match zs, h with
    | [z], _ =>
      show resT 0 3 [z] = _
      rw [resT_any, if_neg (by decide)]
      have : (joinK 0 [z]).isSome = true := by
        unfold joinK
        by_cases hz : z = 0
        · rw [if_pos hz]; rfl
        · rw [if_neg hz, if_neg (by simp)]; rfl
      rw [this]; rfl
  · have h := h22 rfl
    match zs, h with
    | [z1, z2, z3], _ =>
      show resI z1 z2 z3 = finX ((joinK 0 [z2, z3]).getD 0, (joinK 0 [z2, z3]).isSome && allK 3 [z1])
      unfold resI
      rw [show ([z1, 3] : List Int) = [z1] ++ [3] from rfl, join_to 3 (by decide) [z1] 0]
      cases h3 : allK 3 [z1]
      · rw [if_pos (by simp)]; simp [finX]
      · rw [if_neg (by simp), resT_any, if_pos rfl]; simp [finX]
  · show resT 0 0 zs = _
    rw [resT_any, if_pos rfl]; rfl
  · exact resT_to 1 3 (by decide) (by decide) zs
end Go.Proofs.YteihjneeiojgaaaGreat
