/-
  Contract of the program's Points: slices.Sort and slices.Compact over the bounds. Conditions: the list holds at most 100000 periods.
-/
import Derived.Test.YtpbccbhhjnlcpaaMemS
import Derived.Test.YtpbccbhhjnlcpaaSwM
import Derived.Test.YtpbccbhhjnlcpaaPerS
import Derived.Test.YtpbccbhhjnlcpaaQui
import Derived.Test.YtpbccbhhjnlcpaaBlk
import Derived.Test.YtpbccbhhjnlcpaaShelf
import Derived.Test.YtpbccbhhjnlcpaaSortS
import Derived.Laws.OwnMore
import Derived.Deep.AppendLies
import Derived.WalkKit
import Derived.WalkSpells
import Derived.WalkLawsBesides
import Derived.Deep.QuietTactic
import Derived.BigQuiet
import Derived.Handy
import Derived.Lib.Hide
namespace Go.Proofs.Ytpbccbhhjnlcpaa
open Go.RowKit Go.Sort Go.Lib

/-- Both bounds of each valid period, in the list's order. -/
def raw (l : List (Int × Int)) : List Int := l.flatMap fun p => if vld p.1 p.2 then [p.1, p.2] else []
theorem raw_step {l : List (Int × Int)} {k : Nat} {a b : Int} (hk : l[k]? = some (a, b)) : raw (l.take (k + 1)) = raw (l.take k) ++ (if vld a b then [a, b] else []) := by
  obtain ⟨hlt, e⟩ := List.getElem?_eq_some_iff.1 hk
  unfold raw
  rw [List.take_succ_eq_append_getElem hlt, List.flatMap_append, e]; simp
theorem raw_len : ∀ l : List (Int × Int), (raw l).length ≤ 2 * l.length
  | [] => by simp [raw]
  | p :: l => by
    have := raw_len l
    have e : raw (p :: l) = (if vld p.1 p.2 then [p.1, p.2] else []) ++ raw l := by simp [raw]
    rw [e, List.length_append, List.length_cons]
    split <;> simp <;> omega
theorem raw_mem (l : List (Int × Int)) (x : Int) : x ∈ raw l ↔ ∃ p ∈ l, vld p.1 p.2 = true ∧ (x = p.1 ∨ x = p.2) := by
  unfold raw
  rw [List.mem_flatMap]
  constructor
  · rintro ⟨p, hp, h⟩
    split at h
    · rename_i hv; simp at h; exact ⟨p, hp, hv, h⟩
    · simp at h
  · rintro ⟨p, hp, hv, h⟩
    exact ⟨p, hp, by rw [if_pos hv]; simpa using h⟩
theorem cut_step (d : Array Int) (k : Nat) : compactUpTo d (k + 1) = compactUpTo d k ++ (if keeps d k then [d[k]!] else []) := by
  unfold compactUpTo
  rw [List.range_succ, List.filter_append, List.map_append]
  cases h : keeps d k <;> simp [h]
def asBd (zs : List Int) : List Bd := zs.map fun x => (x, 0, 0)
theorem cut_ats (zs : List Int) (hs : zs.Pairwise (· ≤ ·)) : ∀ k, k ≤ zs.length → compactUpTo zs.toArray k = atsI ((asBd zs).take k)
  | 0, _ => rfl
  | k + 1, hk => by
    have hk' : k < zs.length := hk
    have hsB : (asBd zs).Pairwise fun d e => d.1 ≤ e.1 := by unfold asBd; rw [List.pairwise_map]; exact hs
    have hkB : k < (asBd zs).length := by unfold asBd; simpa using hk'
    have eB : (asBd zs)[k] = (zs[k], (0 : Int), (0 : Int)) := List.getElem_map (f := fun x : Int => ((x, 0, 0) : Bd)) ..
    have e1 : zs.toArray[k]! = zs[k] := by rw [getElem!_pos zs.toArray k (by simpa using hk')]; simp
    rw [cut_step, cut_ats zs hs k (by omega), List.take_succ_eq_append_getElem hkB, atsI_snoc, eB, e1]
    dsimp only
    rcases Nat.eq_zero_or_pos k with rfl | h0
    · simp [keeps, atsI, insI]
    · obtain ⟨L, hL, hlt⟩ := last_ats hsB k h0 (by omega)
      have ea : atOf (asBd zs) (k - 1) = zs[k - 1]'(by omega) := by
        unfold atOf asBd; rw [List.getD_eq_getElem?_getD, List.getElem?_eq_getElem (by simp; omega)]; simp
      have e2 : zs.toArray[k - 1]! = zs[k - 1]'(by omega) := by rw [getElem!_pos zs.toArray (k - 1) (by simp; omega)]; simp
      have hle : zs[k - 1]'(by omega) ≤ zs[k] := List.pairwise_iff_getElem.1 hs (k - 1) k (by omega) hk' (by omega)
      have hsL := atsI_sorted ((asBd zs).take k)
      rw [hL, ea] at hsL
      rw [hL, ea]
      rw [ea] at hlt
      by_cases he : zs[k - 1]'(by omega) = zs[k]
      · have hkp : keeps zs.toArray k = false := keeps_neg h0 (by rw [e1, e2, he])
        rw [hkp, if_neg (by decide), List.append_nil, ← he, insI_same hsL (by simp)]
      · have hkp : keeps zs.toArray k = true := keeps_pos (by rw [e1, e2]; exact fun h => he h.symm)
        rw [hkp, if_pos rfl, insI_last (fun y hy => by
          rcases List.mem_append.1 hy with hy | hy
          · have := hlt y hy; omega
          · simp at hy; omega)]
theorem compact_pts (l : List (Int × Int)) (zs : List Int) (hs : zs.Pairwise (· ≤ ·)) (hm : ∀ x, x ∈ zs ↔ x ∈ raw l) : compact zs = pts l := by
  unfold compact
  rw [cut_ats zs hs zs.length (Nat.le_refl _)]
  have e : (asBd zs).take zs.length = asBd zs := List.take_of_length_le (by unfold asBd; simp)
  rw [e]
  refine sorted_ext (atsI_sorted _) (pts_sorted _) fun x => ?_
  rw [atsI_mem, pts_mem, ← raw_mem, ← hm]
  unfold asBd
  constructor
  · rintro ⟨d, hd, rfl⟩
    obtain ⟨y, hy, rfl⟩ := List.mem_map.1 hd
    exact hy
  · intro hx
    exact ⟨(x, 0, 0), List.mem_map.2 ⟨x, hx, rfl⟩, rfl⟩
theorem sort_pts (l : List (Int × Int)) : compact ((raw l).mergeSort fun x y => decide (x ≤ y)) = pts l := by
  refine compact_pts l _ ?_ fun x => List.mem_mergeSort
  have h := List.pairwise_mergeSort (le := fun x y : Int => decide (x ≤ y)) (fun a b c h1 h2 => by simp at *; omega) (fun a b => by simp; omega) (raw l)
  exact h.imp fun {a b} h => by simpa using h

theorem append_ints {ops : Array Oper} {rest : List Oper} {o : Oper} {a : Act} {Q : Exit → Act → World → Prop} (W : World) (hgd : o.guard = none) (s x : Operand)
    (ho : o.op = .call { callee := .builtin .append, args := #[s, x], argTypes := #[32, 32] }) (base : Nat) (v : Value) (l : List Int) (hs : a.eval s = v)
    (hown : W.ownsRow base 3 1 v l.length (intsV l)) (ad : Addr) (m : List Int) (n c : Nat) (hn : n = m.length) (hx : a.eval x = .slice (some ad) n c)
    (hnew : ∀ j u, (intsV m)[j]? = some u → W.cell? (ad.add j) = some u) (hl : l.length + m.length ≤ 1000000000) (hbase : base ≤ W.heap.size)
    (h : ∀ v' w', w'.ownsRow base 3 1 v' (l ++ m).length (intsV (l ++ m)) → Below base W w' → wpList Try.prog ops Q rest (a.put o.dst v') w') :
    wpList Try.prog ops Q (o :: rest) a W := by
  subst hn
  obtain ⟨i0, hi, hz0, hz1, hz2⟩ := info_parts infoInt
  refine wpList_append_own _ hgd s x 32 ho base 3 i0 (.int .i64 0) 1 8 Try.underlying32 hi hz0 hz1 hz2 rfl (by decide) v l.length (intsV l) hs hown ad m.length c (intsV m) hx (by simp [intsV])
    hnew (fun u hu => by simp [intsV] at hu; obtain ⟨_, _, rfl⟩ := hu; rfl) (by unfold maxLen; omega) (by omega) hbase ?_
  intro v' w' h1 h2 _
  refine h v' w' (by rw [show intsV (l ++ m) = intsV l ++ intsV m by simp [intsV], List.length_append]; exact h1) ((Below.refl _ _).grown h2 hbase fun k hk => (hown.lt k hk).1)

theorem holdsI_of_own {w : World} {base g c : Nat} {l : List Int} (h : w.ownsRow base 3 1 (.slice (some ⟨g, 0, none⟩) l.length c) l.length (intsV l)) : Holds (Value.int .i64) w g 0 l.toArray := by
  intro j hj
  have hjl : j < l.length * 1 := by simpa using hj
  have h1 := World.ownsRow.cellAt h j hjl
  have h2 := World.ownsRow.frozenAt h j
  rw [Nat.zero_add]
  refine ⟨?_, h2⟩
  have hk : j < l.length := by omega
  rw [h1]
  unfold intsV
  rw [List.getElem?_map, List.getElem?_eq_getElem hk, getElem!_pos l.toArray j (by simpa using hk)]
  simp
theorem below_putRow {α : Type} [Inhabited α] (enc : α → Value) (w : World) (blk off n : Nat) (d : Array α) (os : Array Obj) (hblk : blk < w.heap.size) : Below blk w (grow (putRow enc (Sort.ahead w n) blk off d) os) := by
  refine ⟨rfl, rfl, rfl, ?_, fun j hj => ?_⟩
  · unfold putRow mapBlock grow Sort.ahead
    show w.heap.size ≤ (w.heap.modify blk _ ++ os).size
    rw [Array.size_append, Array.size_modify]; omega
  · unfold putRow mapBlock grow Sort.ahead
    show (w.heap.modify blk _ ++ os)[j]? = _
    rw [Array.getElem?_append_left (by rw [Array.size_modify]; omega), Array.getElem?_modify, if_neg (by omega)]
theorem rdI_of_holds {w : World} {base g c : Nat} {l : List Int} {d : Array Int} (h : Holds (Value.int .i64) w g 0 d) (hl : ∀ (k : Nat) (x : Int), l[k]? = some x → d[k]? = some x) (hb : base ≤ g) (hg : g < w.heap.size) (hll : l.length ≤ 9223372036854775807) : RdI w base w.heap.size (.slice (some ⟨g, 0, none⟩) l.length c) l := by
  refine ⟨some ⟨g, 0, none⟩, c, rfl, hll, fun k x hk => ⟨⟨g, 0, none⟩, rfl, hb, hg, ?_⟩⟩
  have h1 := hl k x hk
  obtain ⟨hk1, hk2⟩ := Array.getElem?_eq_some_iff.1 h1
  have h2 := (h k hk1).1
  rw [getElem!_pos d k hk1, hk2, Nat.zero_add] at h2
  rw [plain_add]
  exact h2

set_option maxRecDepth 100000 in
set_option maxHeartbeats 3200000 in
theorem sPts_any (v : Value) (l : List (Int × Int)) (w : World) (L : Nat) (hv : RdP w L w.heap.size v l) (hlen : l.length ≤ 100000) :
    Calls Try.prog 23 #[v] w (RetInts w (pts l)) := by
  have hv0 := hv
  obtain ⟨A, c, rfl, hl63, _⟩ := hv
  go_enter Try.func23, Try.ntmps23
  go_wp2
  go_loopw [3, 8] (fun o i wr => ∃ k : Nat, k ≤ l.length ∧ i = .int .i64 k ∧ wr.ownsRow w.heap.size 3 1 o (raw (l.take k)).length (intsV (raw (l.take k))) ∧ Below w.heap.size w wr) (fun _ i _ => l.length - (intOf i).toNat)
  case atStart => exact ⟨0, by omega, rfl, own_nilI _ _, Below.refl _ _⟩
  case round =>
    obtain ⟨k, hk, rfl, hown, hbr⟩ := hrel
    have hbz := hbr.size
    have HO := Lib.hid hown
    clear hown
    by_cases hlt : k < l.length
    · have hx := List.getElem?_eq_getElem hlt
      generalize l[k] = p at hx
      obtain ⟨a, b⟩ := p
      have hS := Lib.hid (raw_step hx)
      have hle := raw_len (l.take k)
      rw [List.length_take] at hle
      obtain ⟨ad, rfl, _, hab, c0, c1⟩ := (hv0.below hbr).at hx
      dsimp only at c0 c1
      clear hx
      have bW : Below wr.heap.size wr (wr.alloc (.cells #[.int .i64 a, .int .i64 b] 39)) := (Below.refl _ _).alloc (Nat.le_refl _) _
      have oW := Own.new wr 39 #[.int .i64 a, .int .i64 b]
      cases hV : vld a b
      · go_wp2_with (go_at_call 41; refine (valid_any _ _ _).mono ?_; rw [hV]; rintro e w2 ⟨rfl, hb2⟩)
        have B2 := bW.trans (hb2.mono bW.size)
        go_roundw
        case rel => exact ⟨k + 1, by omega, by go_num, by rw [hS.out, hV, if_neg (by decide), List.append_nil]; exact own_below HO.out B2, hbr.trans (B2.mono hbz)⟩
        case measure => simp [intOf]; omega
      · go_wp2_with (first
          | (go_at_call 41; refine (valid_any _ _ _).mono ?_; rw [hV]; rintro e w2 ⟨rfl, hb2⟩; have B2 := bW.trans (hb2.mono bW.size); have z2 := B2.size; have H2 := Lib.hid (own_below HO.out B2); have o2 := Own.below oW hb2 (by simp); have d0 : w2.cell? ⟨wr.heap.size, 0, none⟩ = some (.int .i64 a) := o2.cell 0; have d1 : w2.cell? ⟨wr.heap.size, 1, none⟩ = some (.int .i64 b) := o2.cell 1; clear hb2 o2)
          | (at_builtin; refine append_ints _ rfl _ _ rfl w.heap.size _ (raw (l.take k)) rfl (World.ownsRow.alloc H2.out _) ⟨w2.heap.size, 0, none⟩ [a, b] 2 _ rfl rfl (World.news_of_block (heap_alloc_new _ _)) ?_ ?_ ?_; (focus (simp only [List.length_cons, List.length_nil]; omega)); (focus go_size); intro v1 w1 hown1 hb1))
        go_roundw
        case rel => exact ⟨k + 1, by omega, by go_num, by rw [hS.out, hV, if_pos rfl]; exact hown1, (hbr.trans (B2.mono hbz)).trans (((Below.refl _ _).alloc (by omega) _).trans hb1)⟩
        case measure => simp [intOf]; omega
    · have hT : l.take k = l := List.take_of_length_le (by omega)
      rw [hT] at HO
      have hle := raw_len l
      have hd : ¬ (k : Int) < l.length := by omega
      have hSP := Lib.hid (sort_pts l)
      have hPL := pts_len l
      have hML : ((raw l).mergeSort fun x y => decide (x ≤ y)).length = (raw l).length := List.length_mergeSort _
      generalize raw l = zs at *
      rcases own_get HO.out with ⟨rfl, h0⟩ | ⟨g, cc, rfl, hbg, hg, hnc, _⟩
      · obtain rfl := List.eq_nil_of_length_eq_zero h0
        have hE : Hid (pts l = []) := Lib.hid (by rw [← hSP.out]; simp [compact, compactUpTo])
        clear hML h0
        go_wp2_with (first
          | (go_at_call 50; refine (Try.slices_Sort_int_none none 0 _).mono ?_; rintro e w2 ⟨rfl, rfl⟩)
          | (go_at_call 51; refine (Try.slices_Compact_int_empty none 0 _).mono ?_; rintro e w2 ⟨rfl, rfl⟩))
        go_ret
        rw [hE.out]
        exact ⟨_, rfl, ⟨none, 0, rfl, by simp, by simp⟩, hbr⟩
      · have hH := holdsI_of_own HO.out
        have hcon := Try.slices_Sort_int g 0 cc zs wr hH hg (by omega)
        generalize hms : (zs.mergeSort fun x y => decide (x ≤ y)) = ms at *
        clear hms
        have HH := Lib.hid hH
        have HSPc := hSP
        clear hH
        have hML3 := Lib.hid (show zs.length = ms.length from hML.symm)
        clear hML
        go_wp2_with fail
        refine hcon.mono ?_
        rintro e w2 ⟨rfl, n2, os2, rfl⟩
        have hML2 := hML3.out
        have hbS := below_putRow (Value.int .i64) wr g 0 n2 ms.toArray os2 hg
        have hH2 : Holds (Value.int .i64) (grow (putRow (Value.int .i64) (Sort.ahead wr n2) g 0 ms.toArray) os2) g 0 ms.toArray := by
          refine holds_grow _ _ _ _ _ _ ?_ (holds_putRow _ _ _ _ zs.toArray _ HH.out (by simpa using hML2.symm))
          unfold putRow mapBlock Sort.ahead
          show g < (wr.heap.modify g _).size
          rw [Array.size_modify]; exact hg
        have hg2 := Nat.lt_of_lt_of_le hg hbS.size
        generalize grow (putRow (Value.int .i64) (Sort.ahead wr n2) g 0 ms.toArray) os2 = w2 at *
        have hcon2 := Try.slices_Compact_int g 0 cc ms w2 hH2 (by omega) (by omega)
        rw [hSP.out, ← hML2] at hcon2
        have HH2 := Lib.hid hH2
        clear hH2 hML2
        go_wp2_with fail
        refine hcon2.mono ?_
        rintro e w3 ⟨rfl, n3, rfl⟩
        go_wp2
        go_ret
        have hML2 := hML3.out
        have hbC := below_putRow (Value.int .i64) w2 g 0 n3 (pts l ++ List.replicate (zs.length - (pts l).length) 0).toArray #[] hg2
        rw [grow_empty] at hbC
        have hcl : (compact ms).length ≤ ms.length := by
          unfold compact compactUpTo
          rw [List.length_map]
          exact Nat.le_trans (List.length_filter_le _ _) (by simp)
        rw [hSP.out] at hcl
        have hH3 : Holds (Value.int .i64) (putRow (Value.int .i64) (Sort.ahead w2 n3) g 0 (pts l ++ List.replicate (zs.length - (pts l).length) 0).toArray) g 0 (pts l ++ List.replicate (zs.length - (pts l).length) 0).toArray :=
          holds_putRow _ _ _ _ ms.toArray _ HH2.out (by simp; omega)
        refine ⟨_, rfl, (rdI_of_holds (c := cc) hH3 (fun k x hk => ?_) hbg (Nat.lt_of_lt_of_le hg2 hbC.size) (by omega)), hbr.trans ((hbS.mono hbg).trans (hbC.mono hbg))⟩
        have hk1 := (List.getElem?_eq_some_iff.1 hk).1
        rw [List.getElem?_toArray, List.getElem?_append_left hk1]; exact hk
end Go.Proofs.Ytpbccbhhjnlcpaa
