import Derived.Test.YtimmfckkgdlokaaGreatDoorMT
import Derived.WalkKit
import Derived.WalkSpells
import Derived.WalkLawsBesides
import Derived.Deep.QuietTactic
import Derived.BigQuiet
import Derived.Handy
import Derived.Lib.Hide
import Derived.Test.YtimmfckkgdlokaaGreatDoorMO
import Derived.Lib.SliceRun
/-
  tuple.Sort's row can be written behind it (for slices.CompactFunc). Conditions: lengths.
-/
namespace Go.Proofs.YtimmfckkgdlokaaGreatDoor
set_option maxRecDepth 100000
open Go.RowKit Go.Sort Go.Shelf

/-- The block g holds slices that show the rows rs, and can be written. -/
def HasW (w : World) (g : Nat) (rs : List (List Vl)) : Prop :=
  ∃ cs, Own w g 32 cs ∧ ∀ (k : Nat) (r : List Vl), rs[k]? = some r → ∃ u, cs[k]? = some u ∧ RdN w (g + 1) w.heap.size u r
def RetG (w : World) (rs : List (List Vl)) (e : Ending) (w' : World) : Prop :=
  ∃ g, e = .returned (.slice (some ⟨g, 0, none⟩) rs.length rs.length) ∧ w.heap.size ≤ g ∧ HasW w' g rs ∧ Below w.heap.size w w'
theorem own_sortWorld {α : Type} [Inhabited α] (enc : α → Value) (w : World) (blk off n : Nat) (d : Array α) (os : Array Obj) (t : TypeId) (cs : Array Value) (h : Own w blk t cs) : Own (sortWorld enc w blk off n d os) blk t (putCells enc off d cs) := by
  have hlt := h.lt
  unfold Own at *
  unfold sortWorld grow putRow mapBlock Sort.ahead
  show (w.heap.modify blk _ ++ os)[blk]? = _
  rw [Array.getElem?_append_left (by rw [Array.size_modify]; omega), Array.getElem?_modify, if_pos rfl, h]
  rfl
/-- Sorting a row of slices: the row can be written behind it. -/
theorem sortFunc_own (f : FuncId) (cb : Array Value) (o : List (Int × Bool)) (w : World) (g : Nat) (us : List Value) (rs : List (List Vl)) (hl : us.length = rs.length) (hlen : rs.length ≤ 1099511627776)
    (hown : Own w g 32 (rowH us us.length)) (hu : ∀ (k : Nat) (u : Value) (r : List Vl), us[k]? = some u → rs[k]? = some r → RdN w (g + 1) w.heap.size u r) (base : Nat) (hbg : base ≤ g) (w0 : World) (hB : Below base w0 w) (hb0 : base = w0.heap.size) (hA : Asks f cb (cmpO o) w0) :
    Calls Tryz.prog 34 #[.slice (some ⟨g, 0, none⟩) us.length us.length, .func (.func f) #[] cb] w fun e w' => e = .returned (.tuple #[]) ∧ HasW w' g (sortO o rs) ∧ Below base w0 w' := by
  have each : ∀ k, k < us.length → ∃ x : Rw w g, us[k]? = some x.val ∧ rs[k]? = some x.row := fun k hk =>
    ⟨⟨(us[k], rs[k]), hu k _ _ (List.getElem?_eq_getElem hk) (List.getElem?_eq_getElem (hl ▸ hk))⟩, List.getElem?_eq_getElem hk, List.getElem?_eq_getElem (hl ▸ hk)⟩
  obtain ⟨q, hq⟩ := Go.Deep.choose_lt each
  obtain ⟨d, hds, hget⟩ : ∃ d : Array (Rw w g), d.size = us.length ∧ ∀ k (hk : k < us.length), (d[k]!).val = us[k] ∧ (d[k]!).row = rs[k] := by
    refine ⟨((List.range us.length).map q).toArray, by simp, fun k hk => ?_⟩
    have e : (((List.range us.length).map q).toArray)[k]! = q k := by
      rw [getElem!_pos _ k (by simpa using hk)]
      simp
    obtain ⟨h1, h2⟩ := hq k hk
    rw [e]
    rw [List.getElem?_eq_getElem hk] at h1
    rw [List.getElem?_eq_getElem (hl ▸ hk)] at h2
    exact ⟨(Option.some.inj h1).symm, (Option.some.inj h2).symm⟩
  have hg : g < w.heap.size := hown.lt
  have hH : Holds (Rw.val (w := w) (g := g)) w g 0 d := by
    intro j hj
    rw [hds] at hj
    rw [(hget j hj).1, Nat.zero_add]
    refine ⟨(hown.cell j).trans ?_, hown.free j⟩
    unfold rowH
    simp
  have h := Any.slices_SortFunc sortL (Rw.val (w := w) (g := g)) (fun x => by obtain ⟨⟨A, c, hv, _⟩, _⟩ := x.2; show x.1.1.oneCell' = true; rw [hv]; rfl) (fun x y : Rw w g => cmpO o x.row y.row) (swoW o w g) f cb g 0 us.length d w hA.1 (by
    intro m os dk hs x y
    have hgr := grown_sortWorld1 (Rw.val (w := w) (g := g)) w g 0 m dk os
    have hbl := below_sortWorld1 (Rw.val (w := w) (g := g)) w g 0 m dk os hg
    refine (hA.2 _ x.val y.val x.row y.row (hb0 ▸ hB.trans (hbl.mono hbg)) ((x.2.grown hgr (Nat.lt_succ_self _) (Nat.le_refl _)).low (Nat.zero_le _)) ((y.2.grown hgr (Nat.lt_succ_self _) (Nat.le_refl _)).low (Nat.zero_le _))).mono ?_
    rintro e w' ⟨rfl, hgb⟩
    exact ⟨rfl, hgb.grow⟩) hH hg (by omega)
  rw [hds] at h
  refine Calls.mono h ?_
  rintro e w' ⟨rfl, d', n, os, hp, hs, rfl⟩
  have hsz : d'.size = us.length := by rw [hp.1, hds]
  have hgr := grown_sortWorld1 (Rw.val (w := w) (g := g)) w g 0 n d' os
  have hbl := below_sortWorld1 (Rw.val (w := w) (g := g)) w g 0 n d' os hg
  have hH' := holds_sortWorld (Rw.val (w := w) (g := g)) w g 0 n d d' os hg hH (by rw [hsz, hds])
  have hrows : d.toList.map Rw.row = rs := by
    apply List.ext_getElem
    · simp [hds, hl]
    · intro k h1 h2
      have hk : k < us.length := by simpa [hds] using h1
      rw [List.getElem_map, ← (hget k hk).2, getElem!_pos d k (by omega)]
      simp
  have hD : (d'.toList.map Rw.row) = sortO o rs := by
    refine sortO_of o rs _ ?_ ?_
    · rw [← hrows]
      have h2 := hp.2.2
      have e1 : d'.extract 0 us.length = d' := by rw [← hsz]; exact Array.extract_size
      have e2 : d.extract 0 us.length = d := by rw [← hds]; exact Array.extract_size
      rw [e1, e2] at h2
      exact h2.map _
    · rw [List.pairwise_map, List.pairwise_iff_getElem]
      intro i j hi hj hij
      have h3 := hs i j (Nat.zero_le _) hij (by simp at hj ⊢; omega)
      rw [ltO, getElem!_pos _ _ (by simpa using hj), getElem!_pos _ _ (by simpa using hi)] at h3
      simp only [decide_eq_false_iff_not] at h3
      unfold leO
      simpa using h3
  refine ⟨rfl, ?_, hB.trans (hbl.mono hbg)⟩
  refine ⟨_, own_sortWorld (Rw.val (w := w) (g := g)) w g 0 n d' os _ _ hown, fun k r hk => ?_⟩
  rw [← hD, List.getElem?_map] at hk
  have hkl : k < d'.size := by
    rcases Nat.lt_or_ge k d'.size with h1 | h1
    · exact h1
    · rw [List.getElem?_eq_none (by simpa using h1)] at hk; cases hk
  have hc := (hH' k hkl).1
  rw [List.getElem?_eq_getElem (by simpa using hkl)] at hk
  simp only [Option.map_some, Option.some.injEq, Array.getElem_toList] at hk
  rw [getElem!_pos d' k hkl, Nat.zero_add] at hc
  refine ⟨d'[k].val, ((own_sortWorld (Rw.val (w := w) (g := g)) w g 0 n d' os _ _ hown).cell k).symm.trans hc, ?_⟩
  rw [← hk]
  exact d'[k].2.grown hgr (Nat.lt_succ_self _) (Nat.le_refl _)
set_option maxRecDepth 100000 in
set_option maxHeartbeats 3200000 in
theorem sorted_own (f : FuncId) (cb : Array Value) (o : List (Int × Bool)) (v : Value) (rs : List (List Vl)) (w : World) (L : Nat) (hv : RdR w L w.heap.size v rs) (hlen : rs.length ≤ 1099511627776) (hrow : ∀ r ∈ rs, r.length ≤ 2199023255552) (hA : Asks f cb (cmpO o) w) :
    Calls Tryz.prog 21 #[v, .func (.func f) #[] cb] w (RetG w (sortO o rs)) := by
  obtain ⟨A, c, rfl, hl1, hc1⟩ := hv
  have HC := Lib.hid hc1
  have HROW := Lib.hid hrow
  have HA := Lib.hid hA
  have hmk := made_rowH w w.heap.size rfl rs.length hlen (rs.length : Nat) rfl
  have HB2 := Lib.hid (bel_mark w (.cells (rowH [] rs.length) 32))
  have HO2 := Lib.hid (Own.new w 32 (rowH [] rs.length))
  clear hc1 hrow hA
  go_enter Tryz.func21, Tryz.ntmps21
  go_wp2_with fail
  clear hmk
  go_loopw [13] (fun i wr => ∃ us : List Value, us.length ≤ rs.length ∧ i = .int .i64 (us.length : Nat) ∧ Hid (Own wr w.heap.size 32 (rowH us rs.length)) ∧ Hid (∀ (k : Nat) (u : Value) (r : List Vl), us[k]? = some u → rs[k]? = some r → RdN wr (w.heap.size + 1) wr.heap.size u r) ∧ Below w.heap.size w wr) (fun i _ => rs.length - (intOf i).toNat)
  case atStart => exact ⟨[], Nat.zero_le _, rfl, Lib.hid HO2.out, Lib.hid (fun k u r h _ => by simp at h), HB2.out⟩
  case round =>
    obtain ⟨us, hul, rfl, HO, HU, hbr⟩ := hrel
    have hbz := hbr.size
    by_cases hlt : us.length < rs.length
    · have hlti : (us.length : Int) < rs.length := by omega
      obtain ⟨ad, u, rfl, _, hab, c0, hrd⟩ := HC.out us.length _ (List.getElem?_eq_getElem hlt)
      have d0 := (hbr.cell (p := ad.add us.length) (by rw [add_block]; exact hab)).trans c0
      have hcl := clone_any u rs[us.length] wr 0 (hrd.step hbr (Nat.le_refl _)) (HROW.out _ (List.getElem_mem hlt))
      obtain ⟨⟨A1, c1, rfl, q1⟩, q2⟩ := hrd
      have HGET := Lib.hid (List.getElem?_eq_getElem hlt)
      generalize rs[us.length] = r at *
      have HCL := Lib.hid hcl
      have z0 := rowH_next us rs.length hlt
      clear q1 q2 c0 hcl
      go_wp2_with fail
      with_reducible refine HCL.out.mono ?_
      rintro e w1 ⟨u', rfl, hr', hb1⟩
      have o3 := HO.out.below hb1 HO.out.lt
      have B3 := hbr.trans (hb1.mono hbz)
      have HR1 := Lib.hid hr'
      obtain ⟨⟨A2, c2, rfl, q1⟩, q2⟩ := hr'
      have f0 := (o3.cell us.length).trans z0
      have e0 := o3.free us.length
      have o4 := o3.store us.length (.slice A2 r.length c2)
      rw [rowH_set us rs.length (.slice A2 r.length c2) hlt] at o4
      have HO4 := Lib.hid o4
      have HBX := Lib.hid (B3.setCell (p := ⟨w.heap.size, us.length, none⟩) (Nat.le_refl _) (.slice A2 r.length c2))
      have hgr := grownBy_setCell w1 w.heap.size us.length (.slice A2 r.length c2)
      have hw1 : w.heap.size < wr.heap.size := HO.out.lt
      have hN : ∀ (k : Nat) (x : Value) (y : List Vl), (us ++ [Value.slice A2 r.length c2])[k]? = some x → rs[k]? = some y → RdN (w1.setCell ⟨w.heap.size, us.length, none⟩ (.slice A2 r.length c2)) (w.heap.size + 1) (w1.setCell ⟨w.heap.size, us.length, none⟩ (.slice A2 r.length c2)).heap.size x y := by
        intro k x y hx hy
        by_cases hk : k < us.length
        · rw [List.getElem?_append_left hk] at hx
          exact ((HU.out k x y hx hy).step hb1 (Nat.le_refl _)).grown hgr (Nat.lt_succ_self _) (Nat.le_refl _)
        · have hk2 : k = us.length := by
            have := (List.getElem?_eq_some_iff.1 hx).1
            simp at this
            omega
          subst hk2
          rw [List.getElem?_append_right (Nat.le_refl _), Nat.sub_self] at hx
          injection hx with hx
          rw [HGET.out] at hy
          injection hy with hy
          subst hx hy
          exact (HR1.out.low (by omega)).grown hgr (Nat.lt_succ_self _) (Nat.le_refl _)
      have HN := Lib.hid hN
      clear o3 o4 z0 HO HU hN hgr q1 q2 B3 HR1
      go_wp2
      go_roundw
      case rel => exact ⟨us ++ [.slice A2 r.length c2], by rw [List.length_append]; simp; omega, by rw [List.length_append]; first | rfl | go_num, HO4, HN, HBX.out⟩
      case measure => simp [intOf]; omega
    · have hun : us.length = rs.length := by omega
      have hni : ¬ (us.length : Int) < rs.length := by omega
      have hO5 := HO.out
      rw [← hun] at hO5
      have hs := sortFunc_own f cb o wr w.heap.size us rs hun hlen hO5 HU.out w.heap.size (Nat.le_refl _) w hbr rfl HA.out
      rw [hun] at hs
      have HS := Lib.hid hs
      clear hs hO5 HO HU HA HROW hlt
      go_wp2_with fail
      with_reducible refine HS.out.mono ?_
      rintro e w1 ⟨rfl, hr, hb⟩
      go_wp2
      go_ret
      exact ⟨w.heap.size, by rw [sortO_len]; rfl, Nat.le_refl _, hr, hb⟩
set_option maxHeartbeats 800000 in
theorem pSort_own (v : Value) (rs : List (List Vl)) (w : World) (L : Nat) (hv : RdR w L w.heap.size v rs) (hlen : rs.length ≤ 1099511627776) (hrow : ∀ r ∈ rs, r.length ≤ 2199023255552) :
    Calls Tryz.prog 7 #[v] w (RetG w (sortO [] rs)) := by
  have H := Lib.hid (sorted_own 22 #[] [] v rs w L hv hlen hrow (asks_compare w))
  obtain ⟨A, c, rfl, _⟩ := hv
  go_enter Tryz.func7, Tryz.ntmps7
  go_wp2_with fail
  with_reducible refine H.out.mono ?_
  rintro e w1 ⟨g, rfl, hg, hr, hb⟩
  go_wp2
  go_ret
  exact ⟨g, rfl, hg, hr, hb⟩
end Go.Proofs.YtimmfckkgdlokaaGreatDoor
/-
  slices.CompactFunc over rows, tuple.Distinct: what they answer. Conditions: lengths.
-/
namespace Go.Proofs.YtimmfckkgdlokaaGreatDoor
set_option maxRecDepth 100000
open Go.RowKit

theorem below_setCellsW {B : Nat} {a : World} (b : Nat) (hb : B ≤ b) : ∀ (vs : List Value) (o : Nat) {w : World}, Below B a w → Below B a (w.setCells b o vs)
  | [], _, _, h => h
  | v :: r, o, _, h => below_setCellsW b hb r (o + 1) (h.setCell (p := ⟨b, o, none⟩) hb v)
theorem own_setCells {g : Nat} {t : TypeId} : ∀ (vs : List Value) (o : Nat) {w : World} {cs : Array Value}, Own w g t cs → ∃ cs', Own (w.setCells g o vs) g t cs' ∧ (∀ k, k < o → cs'[k]? = cs[k]?) ∧ w.grownBy (w.setCells g o vs) (some g)
  | [], _, w, cs, h => ⟨cs, h, fun _ _ => rfl, ⟨rfl, rfl, rfl, Nat.le_refl _, fun _ _ _ => rfl⟩⟩
  | v :: r, o, w, cs, h => by
    obtain ⟨cs', h1, h2, h3⟩ := own_setCells r (o + 1) (h.store o v)
    have h4 := grownBy_setCell w g o v
    refine ⟨cs', h1, fun k hk => ?_, ⟨h3.1.trans h4.1, h3.2.trans h4.2, h3.3.trans h4.3, Nat.le_trans h4.size h3.size, fun j hj hne => ?_⟩⟩
    · rw [h2 k (by omega), Array.getElem?_setIfInBounds, if_neg (by omega)]
    · exact (h3.5 j (Nat.lt_of_lt_of_le hj h4.size) hne).trans (h4.5 j hj hne)
/-- Of the first k rows those that differ from the one before them. -/
def ddN (L : List (List Vl)) : Nat → List (List Vl)
  | 0 => []
  | k + 1 => if 0 < k ∧ L[k]? = L[k - 1]? then ddN L k else ddN L k ++ L[k]?.toList
theorem ddN_eq {L : List (List Vl)} {k : Nat} {a b : List Vl} (hk : 0 < k) (ha : L[k]? = some a) (hb : L[k - 1]? = some b) (h : (cmpR a b == 0) = true) : ddN L (k + 1) = ddN L k := by
  have e : a = b := (cmpR_eq a b).1 (by simpa using h)
  show (if 0 < k ∧ L[k]? = L[k - 1]? then ddN L k else ddN L k ++ L[k]?.toList) = _
  rw [if_pos ⟨hk, by rw [ha, hb, e]⟩]
theorem ddN_ne {L : List (List Vl)} {k : Nat} {a b : List Vl} (ha : L[k]? = some a) (hb : L[k - 1]? = some b) (h : (cmpR a b == 0) = false) : ddN L (k + 1) = ddN L k ++ [a] := by
  have e : a ≠ b := fun e => by rw [(cmpR_eq a b).2 e] at h; exact absurd h (by decide)
  show (if 0 < k ∧ L[k]? = L[k - 1]? then ddN L k else ddN L k ++ L[k]?.toList) = _
  rw [if_neg (fun h2 => e (by have h3 := h2.2; rw [ha, hb] at h3; exact Option.some.inj h3)), ha]
  rfl
theorem ddN_first {L : List (List Vl)} {a : List Vl} (ha : L[0]? = some a) : ddN L 1 = [a] := by
  show (if 0 < 0 ∧ L[0]? = L[0 - 1]? then ddN L 0 else ddN L 0 ++ L[0]?.toList) = _
  rw [if_neg (fun h => absurd h.1 (by decide)), ha]
  rfl
theorem ddN_len (L : List (List Vl)) : ∀ k, (ddN L k).length ≤ k
  | 0 => Nat.le_refl _
  | k + 1 => by
    have h := ddN_len L k
    show (if 0 < k ∧ L[k]? = L[k - 1]? then ddN L k else ddN L k ++ L[k]?.toList).length ≤ _
    split
    · omega
    · rw [List.length_append]
      have : (L[k]?.toList).length ≤ 1 := by cases L[k]? <;> simp
      omega
theorem ddN_pos {L : List (List Vl)} (h : 0 < L.length) : ∀ k, 0 < k → 0 < (ddN L k).length
  | 0, h0 => absurd h0 (by decide)
  | 1, _ => by rw [ddN_first (List.getElem?_eq_getElem h)]; exact Nat.zero_lt_one
  | k + 2, _ => by
    have h2 := ddN_pos h (k + 1) (Nat.succ_pos _)
    show 0 < (if 0 < k + 1 ∧ L[k + 1]? = L[k + 1 - 1]? then ddN L (k + 1) else ddN L (k + 1) ++ L[k + 1]?.toList).length
    split
    · exact h2
    · rw [List.length_append]; omega
theorem take_next {L : List (List Vl)} {k : Nat} {a : List Vl} (ha : L[k]? = some a) : L.take (k + 1) = L.take k ++ [a] := by
  rw [List.take_add_one, ha]
  rfl
/-- The rows behind m are the list's own. -/
def RestW (w : World) (g : Nat) (cs : Array Value) (L : List (List Vl)) (m : Nat) : Prop :=
  ∀ (k : Nat) (r : List Vl), m ≤ k → L[k]? = some r → ∃ u, cs[k]? = some u ∧ RdN w (g + 1) w.heap.size u r
def HeadW (w : World) (g : Nat) (cs : Array Value) (M : List (List Vl)) : Prop :=
  ∀ (k : Nat) (r : List Vl), M[k]? = some r → ∃ u, cs[k]? = some u ∧ RdN w (g + 1) w.heap.size u r
theorem RestW.step {w w' : World} {g : Nat} {cs : Array Value} {L : List (List Vl)} {m : Nat} (h : RestW w g cs L m) (hb : Below w.heap.size w w') : RestW w' g cs L m := fun k r hk hr =>
  let ⟨u, h1, h2⟩ := h k r hk hr; ⟨u, h1, h2.step hb (Nat.le_refl _)⟩
theorem HeadW.step {w w' : World} {g : Nat} {cs : Array Value} {M : List (List Vl)} (h : HeadW w g cs M) (hb : Below w.heap.size w w') : HeadW w' g cs M := fun k r hr =>
  let ⟨u, h1, h2⟩ := h k r hr; ⟨u, h1, h2.step hb (Nat.le_refl _)⟩
theorem RestW.more {w : World} {g : Nat} {cs : Array Value} {L : List (List Vl)} {m m' : Nat} (h : RestW w g cs L m) (hm : m ≤ m') : RestW w g cs L m' := fun k r hk hr => h k r (Nat.le_trans hm hk) hr
theorem RestW.store {w : World} {g K m : Nat} {cs : Array Value} {L : List (List Vl)} (h : RestW w g cs L m) (u : Value) (hK : K < m) : RestW (w.setCell ⟨g, K, none⟩ u) g (cs.setIfInBounds K u) L m := fun k r hk hr =>
  let ⟨v, h1, h2⟩ := h k r hk hr
  ⟨v, by rw [Array.getElem?_setIfInBounds, if_neg (by omega)]; exact h1, h2.grown (grownBy_setCell w g K u) (Nat.lt_succ_self _) (Nat.le_refl _)⟩
theorem HeadW.store {w : World} {g K : Nat} {cs : Array Value} {M : List (List Vl)} (h : HeadW w g cs M) (u : Value) (r : List Vl) (hM : K = M.length) (hK : K < cs.size) (hu : RdN w (g + 1) w.heap.size u r) : HeadW (w.setCell ⟨g, K, none⟩ u) g (cs.setIfInBounds K u) (M ++ [r]) := by
  subst hM
  intro k q hk
  by_cases hk1 : k < M.length
  · rw [List.getElem?_append_left hk1] at hk
    obtain ⟨v, h1, h2⟩ := h k q hk
    exact ⟨v, by rw [Array.getElem?_setIfInBounds, if_neg (by omega)]; exact h1, h2.grown (grownBy_setCell w g _ u) (Nat.lt_succ_self _) (Nat.le_refl _)⟩
  · have hk2 : k = M.length := by have := (List.getElem?_eq_some_iff.1 hk).1; simp at this; omega
    subst hk2
    rw [List.getElem?_append_right (Nat.le_refl _), Nat.sub_self] at hk
    injection hk with hk
    subst hk
    exact ⟨u, by rw [Array.getElem?_setIfInBounds, if_pos rfl, if_pos hK], hu.grown (grownBy_setCell w g _ u) (Nat.lt_succ_self _) (Nat.le_refl _)⟩
theorem HeadW.cleared {w : World} {g K : Nat} {cs : Array Value} {M : List (List Vl)} (h : HeadW w g cs M) (ho : Own w g 32 cs) (hM : M.length ≤ K) (vs : List Value) : ∃ cs', Own (w.setCells g K vs) g 32 cs' ∧ HeadW (w.setCells g K vs) g cs' M := by
  obtain ⟨cs', h1, h2, h3⟩ := own_setCells vs K ho
  refine ⟨cs', h1, fun k r hk => ?_⟩
  obtain ⟨u, h4, h5⟩ := h k r hk
  have hk1 := (List.getElem?_eq_some_iff.1 hk).1
  exact ⟨u, (h2 k (by omega)).trans h4, h5.grown h3 (Nat.lt_succ_self _) (Nat.le_refl _)⟩
theorem HeadW.rd {w : World} {g c : Nat} {cs : Array Value} {M : List (List Vl)} (h : HeadW w g cs M) (ho : Own w g 32 cs) (hl : M.length ≤ 9223372036854775807) : RdR w g w.heap.size (.slice (some ⟨g, 0, none⟩) M.length c) M :=
  ⟨_, _, rfl, hl, fun k r hk =>
    let ⟨u, h1, h2⟩ := h k r hk
    ⟨⟨g, 0, none⟩, u, rfl, Nat.le_refl _, ho.lt, by rw [cell_add_k]; exact (ho.cell k).trans h1, h2.low (Nat.zero_le _)⟩⟩
end Go.Proofs.YtimmfckkgdlokaaGreatDoor
/-
  slices.CompactFunc over rows. Conditions: lengths.
-/
namespace Go.Proofs.YtimmfckkgdlokaaGreatDoor
set_option maxRecDepth 100000
open Go.RowKit

theorem addZ (g j : Nat) : (⟨g, 0, none⟩ : Addr).add j = ⟨g, j, none⟩ := by
  unfold Addr.add
  split <;> simp_all
set_option maxRecDepth 100000 in
set_option maxHeartbeats 12800000 in
theorem compact_any (g : Nat) (rs : List (List Vl)) (w : World) (hg : g < w.heap.size) (hlen : rs.length ≤ 1099511627776) (H : HasW w g rs) :
    Calls Tryz.prog 24 #[.slice (some ⟨g, 0, none⟩) rs.length rs.length, .func (.func 19) #[] #[]] w fun e w' => ∃ u, e = .returned u ∧ RdR w' g w'.heap.size u (ddN rs rs.length) ∧ (∀ n c, u = .slice none n c → c = 0) ∧ Below g w w' := by
  obtain ⟨cs, ho, hc⟩ := H
  have HO := Lib.hid ho
  have HC := Lib.hid hc
  clear ho hc
  by_cases h2 : rs.length < 2
  · have h2i : (rs.length : Int) < 2 := by omega
    have HF := Lib.hid (show ddN rs rs.length = rs by
      rcases Nat.lt_or_ge 0 rs.length with h | h
      · have e1 : rs.length = 1 := by omega
        rw [e1, ddN_first (List.getElem?_eq_getElem h)]
        apply List.ext_getElem (by simp [e1])
        intro i h1 h2
        have : i = 0 := by simp at h1; exact h1
        subst this
        rfl
      · have e1 : rs = [] := List.eq_nil_of_length_eq_zero (by omega)
        rw [e1]; rfl)
    go_enter Tryz.func24, Tryz.ntmps24
    go_wp2
    go_ret
    exact ⟨_, rfl, by rw [HF.out]; exact HeadW.rd HC.out HO.out (by omega), (fun n c e => by cases e), Below.refl _ _⟩
  have h2i : ¬ (rs.length : Int) < 2 := by omega
  go_enter Tryz.func24, Tryz.ntmps24
  go_wp2
  go_loopw [5] (fun i wr => ∃ j : Nat, 1 ≤ j ∧ j ≤ rs.length ∧ i = .int .i64 j ∧ Hid (ddN rs j = rs.take j) ∧ Below w.heap.size w wr) (fun i _ => rs.length - (intOf i).toNat)
  case atStart => exact ⟨1, Nat.le_refl _, by omega, rfl, Lib.hid (by rw [ddN_first (List.getElem?_eq_getElem (show 0 < rs.length by omega)), take_next (List.getElem?_eq_getElem (show 0 < rs.length by omega))]; rfl), Below.refl _ _⟩
  case round =>
    obtain ⟨j, hj1, hj, rfl, HR, hbr⟩ := hrel
    have hbz := hbr.size
    by_cases hlt : j < rs.length
    · have hji : (j : Int) < rs.length := by omega
      have hj0 : j - 1 < rs.length := by omega
      have hjm : (j : Int) - 1 = (j - 1 : Nat) := by omega
      have hjl : ((j - 1 : Nat) : Int) < rs.length := by omega
      obtain ⟨ua, ca, ra0⟩ := HC.out j _ (List.getElem?_eq_getElem hlt)
      obtain ⟨ub, cb, rb0⟩ := HC.out (j - 1) _ (List.getElem?_eq_getElem hj0)
      have d0 := ((HO.out.below hbr hg).cell j).trans ca
      have f0 := ((HO.out.below hbr hg).cell (j - 1)).trans cb
      have GA := Lib.hid (List.getElem?_eq_getElem hlt)
      have GB0 := Lib.hid (List.getElem?_eq_getElem hj0)
      generalize rs[j] = ra at *
      generalize rs[j - 1] = rb at *
      have HE := Lib.hid (fun r : After wr => pEqual_any ua ub ra rb r.w 0 0 ((ra0.step (hbr.trans (r.h.mono hbz)) (Nat.le_refl _)).low (Nat.zero_le _)).1 ((rb0.step (hbr.trans (r.h.mono hbz)) (Nat.le_refl _)).low (Nat.zero_le _)).1)
      obtain ⟨⟨A3, c3, rfl, q1⟩, q2⟩ := ra0
      obtain ⟨⟨A4, c4, rfl, q3⟩, q4⟩ := rb0
      have hgr : g < wr.heap.size := by omega
      have x0 : ∀ r : After wr, r.w.cell? ⟨g, j, none⟩ = some (.slice A3 ra.length c3) := after_cell hgr d0
      have x1 : ∀ r : After wr, r.w.cell? ⟨g, j - 1, none⟩ = some (.slice A4 rb.length c4) := after_cell hgr f0
      clear q1 q2 q3 q4 ca cb d0 f0
      cases hb : (cmpR ra rb == 0)
      · rw [hb] at HE
        have HF := Lib.hid (show ddN rs (j + 1) = rs.take (j + 1) by rw [ddN_ne GA.out GB0.out hb, take_next GA.out, HR.out])
        clear hb
        go_wp2_with fail
        (refine wp_region_after (by kernel_rfl) (by kernel_rfl) ?_; (repeat (go_big_quiet_step ((go_at_call 19; exact calls_after (HE.out _))))); refine wpQuiet_nil ?_; intro wq hw0; obtain ⟨⟨wq0, hbq⟩, hw1⟩ := hw0; subst hw1; (try dsimp only))
        clear x0 x1 HE
        go_wp2
        go_roundw
        case rel => exact ⟨j + 1, by omega, by omega, by go_num, HF, hbr.trans (hbq.mono hbz)⟩
        case measure => simp [intOf]; omega
      · rw [hb] at HE
        have hD := ddN_eq (by omega) GA.out GB0.out hb
        rw [HR.out] at hD
        have HD := Lib.hid hD
        clear hb hD HR
        go_wp2_with fail
        (refine wp_region_after (by kernel_rfl) (by kernel_rfl) ?_; (repeat (go_big_quiet_step ((go_at_call 19; exact calls_after (HE.out _))))); refine wpQuiet_nil ?_; intro wq hw0; obtain ⟨⟨wq0, hbq⟩, hw1⟩ := hw0; subst hw1; (try dsimp only))
        have hb2 := hbr.trans (hbq.mono hbz)
        have HOQ := Lib.hid (HO.out.below hb2 hg)
        have HCQ := Lib.hid (HeadW.step HC.out hb2)
        have HB2 := Lib.hid (hb2.mono (Nat.le_of_lt hg))
        have hs := run_fromR wq ⟨g, 0, none⟩ rs.length rs.length j (by omega) (by omega)
        rw [addZ] at hs
        clear x0 x1 HE hbq hbr hbz hb2 hgr GA GB0
        go_wp2_with fail
        clear hs
        go_loopw [5, 7] (fun i q wi => ∃ K m : Nat, 1 ≤ m ∧ m + j ≤ rs.length ∧ i = .int .i64 K ∧ q = .int .i64 m ∧ Hid (K = (ddN rs (j + m)).length) ∧ K + 1 ≤ j + m ∧ Hid (∃ cs', Own wi g 32 cs' ∧ RestW wi g cs' rs (j + m - 1) ∧ HeadW wi g cs' (ddN rs (j + m))) ∧ Hid (Below g w wi)) (fun _ q _ => rs.length - (intOf q).toNat)
        case atStart => exact ⟨j, 1, Nat.le_refl _, by omega, rfl, rfl, Lib.hid (by rw [HD.out, List.length_take]; omega), Nat.le_refl _, Lib.hid ⟨cs, HOQ.out, fun k r _ hr => HCQ.out k r hr, by rw [HD.out]; exact fun k r hr => HCQ.out k r (by rw [List.getElem?_take] at hr; split at hr; exact hr; cases hr)⟩, HB2⟩
        case round =>
          obtain ⟨K, m, hm1, hmn, rfl, rfl, hK, hKm, HS, HBI⟩ := hrel
          by_cases hlt2 : j + m < rs.length
          · have hmi : (m : Int) < (rs.length - j : Nat) := by omega
            have hml : (m : Int) - 1 = (m - 1 : Nat) := by omega
            have hml2 : ((m - 1 : Nat) : Int) < (rs.length - j : Nat) := by omega
            have hKi : (K : Int) < rs.length := by omega
            obtain ⟨cs', ho', hr', hh'⟩ := HS.out
            obtain ⟨ua, ca, ra0⟩ := hr' (j + m) _ (by omega) (List.getElem?_eq_getElem hlt2)
            obtain ⟨ub, cb, rb0⟩ := hr' (j + (m - 1)) _ (by omega) (List.getElem?_eq_getElem (show j + (m - 1) < rs.length by omega))
            have d0 := (ho'.cell (j + m)).trans ca
            have f0 := (ho'.cell (j + (m - 1))).trans cb
            have GA := Lib.hid (List.getElem?_eq_getElem hlt2)
            have GB0 := Lib.hid (show rs[j + m - 1]? = some (rs[j + (m - 1)]) by rw [show j + m - 1 = j + (m - 1) by omega]; exact List.getElem?_eq_getElem _)
            generalize rs[j + m] = ra at *
            generalize rs[j + (m - 1)] = rb at *
            have HE := Lib.hid (fun r : After wr => pEqual_any ua ub ra rb r.w 0 0 ((ra0.step r.h (Nat.le_refl _)).low (Nat.zero_le _)).1 ((rb0.step r.h (Nat.le_refl _)).low (Nat.zero_le _)).1)
            have RA := Lib.hid ra0
            have CA := Lib.hid ca
            have hKc : K < cs'.size := by
              have := (Array.getElem?_eq_some_iff.1 ca).1
              omega
            obtain ⟨uk, ck⟩ : ∃ u, cs'[K]? = some u := ⟨_, Array.getElem?_eq_getElem hKc⟩
            obtain ⟨⟨A3, c3, rfl, q1⟩, q2⟩ := ra0
            obtain ⟨⟨A4, c4, rfl, q3⟩, q4⟩ := rb0
            have hgr : g < wr.heap.size := ho'.lt
            have x0 : ∀ r : After wr, r.w.cell? ⟨g, j + m, none⟩ = some (.slice A3 ra.length c3) := after_cell hgr d0
            have x1 : ∀ r : After wr, r.w.cell? ⟨g, j + (m - 1), none⟩ = some (.slice A4 rb.length c4) := after_cell hgr f0
            have HO' := Lib.hid ho'
            have HR' := Lib.hid hr'
            have HH' := Lib.hid hh'
            have CK := Lib.hid ck
            clear q1 q2 q3 q4 ca cb d0 f0 ck HS ho' hr' hh'
            cases hb : (cmpR ra rb == 0)
            · rw [hb] at HE
              have HF := Lib.hid (show ddN rs (j + (m + 1)) = ddN rs (j + m) ++ [ra] from ddN_ne GA.out GB0.out hb)
              clear hb
              go_wp2_with fail
              (refine wp_region_after (by kernel_rfl) (by kernel_rfl) ?_; (repeat (go_big_quiet_step ((go_at_call 19; exact calls_after (HE.out _))))); refine wpQuiet_nil ?_; intro wq hw0; obtain ⟨⟨wq0, hbq⟩, hw1⟩ := hw0; subst hw1; (try dsimp only))
              have o1 := HO'.out.below hbq hgr
              have k0 := (o1.cell K).trans CK.out
              have k1 := o1.free K
              have k2 := (o1.cell (j + m)).trans CA.out
              have o2 := o1.store K (.slice A3 ra.length c3)
              have HO2 := Lib.hid o2
              have HR2 := Lib.hid (((HR'.out.step hbq).more (show j + m - 1 ≤ j + (m + 1) - 1 by omega)).store (.slice A3 ra.length c3) (show K < j + (m + 1) - 1 by omega))
              have HH2 := Lib.hid ((HH'.out.step hbq).store (.slice A3 ra.length c3) ra hK.out hKc (RA.out.step hbq (Nat.le_refl _)))
              have HB3 := Lib.hid (HBI.out.trans ((hbq.mono (Nat.le_of_lt hgr)).setCell (p := ⟨g, K, none⟩) (Nat.le_refl _) (.slice A3 ra.length c3)))
              clear x0 x1 HE o1 o2 hbq
              go_wp2_with fail
              go_roundw
              case rel => exact ⟨K + 1, m + 1, by omega, by omega, by go_num, by go_num, Lib.hid (by rw [HF.out, List.length_append, ← hK.out]; rfl), by omega, Lib.hid ⟨_, HO2.out, HR2.out, by rw [HF.out]; exact HH2.out⟩, HB3⟩
              case measure => simp [intOf]; omega
            · rw [hb] at HE
              have HF := Lib.hid (show ddN rs (j + (m + 1)) = ddN rs (j + m) from ddN_eq (k := j + m) (by omega) GA.out GB0.out hb)
              clear hb
              go_wp2_with fail
              (refine wp_region_after (by kernel_rfl) (by kernel_rfl) ?_; (repeat (go_big_quiet_step ((go_at_call 19; exact calls_after (HE.out _))))); refine wpQuiet_nil ?_; intro wq hw0; obtain ⟨⟨wq0, hbq⟩, hw1⟩ := hw0; subst hw1; (try dsimp only))
              have o1 := HO'.out.below hbq hgr
              have HO2 := Lib.hid o1
              have HR2 := Lib.hid ((HR'.out.step hbq).more (show j + m - 1 ≤ j + (m + 1) - 1 by omega))
              have HH2 := Lib.hid (HH'.out.step hbq)
              have HB3 := Lib.hid (HBI.out.trans (hbq.mono (Nat.le_of_lt hgr)))
              clear x0 x1 HE o1 hbq
              go_wp2
              go_roundw
              case rel => exact ⟨K, m + 1, by omega, by omega, rfl, by go_num, Lib.hid (by rw [HF.out, ← hK.out]), by omega, Lib.hid ⟨_, HO2.out, HR2.out, by rw [HF.out]; exact HH2.out⟩, HB3⟩
              case measure => simp [intOf]; omega
          · have hmi : ¬ (m : Int) < (rs.length - j : Nat) := by omega
            have hje : j + m = rs.length := by omega
            obtain ⟨cs', ho', hr', hh'⟩ := HS.out
            have hK2 := hK.out
            rw [hje] at hr' hh' hK2
            have HK2 := Lib.hid hK2
            obtain ⟨ua, ca, _⟩ := hr' (rs.length - 1) _ (Nat.le_refl _) (List.getElem?_eq_getElem (by omega))
            have hcz : rs.length ≤ cs'.size := by
              have := (Array.getElem?_eq_some_iff.1 ca).1
              omega
            have hs1 := run_fromR wr ⟨g, 0, none⟩ rs.length rs.length K (by omega) (by omega)
            rw [addZ] at hs1
            have hcl := Lib.run_clear_slice (P := Tryz.prog) wr 22 32 0 (.slice none 0 0) Tryz.underlying22 (fun w => rfl) rfl rfl g K (rs.length - K) (rs.length - K) (by omega) (fun i hi => by rw [ho'.cell, Array.getElem?_eq_getElem (by omega)]; rfl) (fun i hi => ho'.free _)
            have hs2 := run_toR (wr.setCells g K (List.replicate (rs.length - K) (.slice none 0 0))) ⟨g, 0, none⟩ rs.length rs.length K (by omega)
            obtain ⟨cs2, ho2, hh2⟩ := hh'.cleared ho' (by rw [← hK2]; exact Nat.le_refl _) (List.replicate (rs.length - K) (.slice none 0 0))
            have HH2 := Lib.hid hh2
            have HO2 := Lib.hid ho2
            have HB3 := Lib.hid (below_setCellsW g (Nat.le_refl _) (List.replicate (rs.length - K) (.slice none 0 0)) K HBI.out)
            clear ho' hr' hh' ho2 hh2 ca HS hK2 hK
            go_wp2_with fail
            go_ret
            exact ⟨_, rfl, by have h := HH2.out.rd (c := rs.length) HO2.out (by have := ddN_len rs rs.length; omega); rw [← HK2.out] at h; exact h, (fun n c e => by cases e), HB3.out⟩
    · have hji : ¬ (j : Int) < rs.length := by omega
      have hje : j = rs.length := by omega
      have HF := Lib.hid (show ddN rs rs.length = rs by rw [← hje, HR.out, hje, List.take_length])
      go_wp2
      go_ret
      exact ⟨_, rfl, by rw [HF.out]; exact HeadW.rd (HC.out |> fun h => HeadW.step h hbr) (HO.out.below hbr hg) (by omega), (fun n c e => by cases e), hbr.mono (Nat.le_of_lt hg)⟩
end Go.Proofs.YtimmfckkgdlokaaGreatDoor
/-
  tuple.Distinct; the reference's Sort, Distinct, Same; the walk of the statement TupleSorts. Conditions: lengths; the tables lie as the rows say.
-/
namespace Go.Proofs.YtimmfckkgdlokaaGreatDoor
set_option maxRecDepth 100000
open Go.RowKit

set_option maxHeartbeats 1600000 in
theorem pDistinct_any (v : Value) (rs : List (List Vl)) (w : World) (L : Nat) (hv : RdR w L w.heap.size v rs) (hl : rs.length ≤ 1099511627776) (hr : ∀ r ∈ rs, r.length ≤ 2199023255552) :
    Calls Tryz.prog 9 #[v] w (RetR w (ddN (sortO [] rs) rs.length)) := by
  have H := Lib.hid (pSort_own v rs w L hv hl hr)
  obtain ⟨A, c, rfl, q1⟩ := hv
  clear q1
  go_enter Tryz.func9, Tryz.ntmps9
  go_wp2_with fail
  with_reducible refine H.out.mono ?_
  rintro e w1 ⟨g, rfl, hg, hW, hb⟩
  have h2 := compact_any g (sortO [] rs) w1 (by obtain ⟨cs, h, _⟩ := hW; exact h.lt) (by rw [sortO_len]; exact hl) hW
  rw [sortO_len] at h2 ⊢
  clear H hW
  go_wp2_with fail
  with_reducible refine h2.mono ?_
  rintro e w2 ⟨u, rfl, hR, hn, hb2⟩
  go_wp2
  go_ret
  exact ⟨_, rfl, hR.low hg, hn, hb.trans (hb2.mono hg)⟩
set_option maxHeartbeats 1600000 in
theorem rSort_any (v : Value) (rs : List (List Vl)) (w : World) (hv : RdR w 0 w.heap.size v rs) (hcap : ∀ A n c, v = .slice A n c → n ≤ c) (hl : rs.length ≤ 1099511627776) (hr : ∀ r ∈ rs, r.length ≤ 2199023255552) :
    Calls Tryz.prog 8 #[v] w (RetR w (sortO [] rs)) := by
  have H := Lib.hid (rOrder_any (.slice none 0 0) [] rs.length rs v w rfl hv ⟨none, 0, rfl, by simp, fun k r h => by simp at h⟩ hl hr hcap)
  obtain ⟨A, c, rfl, q1⟩ := hv
  clear q1
  go_enter Tryz.func8, Tryz.ntmps8
  go_wp2_with fail
  with_reducible refine H.out.mono ?_
  rintro e w1 ⟨u, rfl, hR, hn, hb⟩
  go_wp2
  go_ret
  exact ⟨_, rfl, hR, hn, hb⟩
set_option maxHeartbeats 1600000 in
theorem rSame_any (u v : Value) (rs qs : List (List Vl)) (w : World) (hu : RdR w 0 w.heap.size u rs) (hv : RdR w 0 w.heap.size v qs) (hc1 : ∀ A n c, u = .slice A n c → n ≤ c) (hc2 : ∀ A n c, v = .slice A n c → n ≤ c) (hl1 : rs.length ≤ 1099511627776) (hr1 : ∀ r ∈ rs, r.length ≤ 2199023255552) (hl2 : qs.length ≤ 1099511627776) (hr2 : ∀ r ∈ qs, r.length ≤ 2199023255552) :
    Calls Tryz.prog 12 #[u, v] w fun e w' => e = .returned (.bool (decide (sortO [] rs = sortO [] qs))) ∧ Below w.heap.size w w' := by
  have H1 := Lib.hid (rSort_any u rs w hu hc1 hl1 hr1)
  have H2 := Lib.hid (fun W (h : Below w.heap.size w W) => rSort_any v qs W (hv.step h (Nat.le_refl _)) hc2 hl2 hr2)
  obtain ⟨A, c, rfl, q1⟩ := hu
  obtain ⟨A2, c2, rfl, q2⟩ := hv
  clear q1 q2 hc1 hc2
  go_enter Tryz.func12, Tryz.ntmps12
  go_wp2_with fail
  with_reducible refine H1.out.mono ?_
  rintro e w1 ⟨u1, rfl, hR1, hn1, hb1⟩
  have H2' := H2.out w1 hb1
  have HR1 := Lib.hid hR1
  clear H1 H2 hR1 hn1
  go_wp2_with fail
  with_reducible refine H2'.mono ?_
  rintro e w2 ⟨u2, rfl, hR2, hn2, hb2⟩
  have h3 := rList_any u1 u2 _ _ w2 ((HR1.out.step hb2 (Nat.le_refl _)).low (Nat.zero_le _)) (hR2.low (Nat.zero_le _))
  clear H2' hR2 hn2 HR1
  go_wp2_with fail
  with_reducible refine h3.mono ?_
  rintro e w3 ⟨rfl, hb3⟩
  go_wp2
  go_ret
  exact ⟨rfl, (hb1.trans (hb2.mono hb1.size)).trans (hb3.mono (Nat.le_trans hb1.size hb2.size))⟩
set_option maxRecDepth 100000 in
set_option maxHeartbeats 12800000 in
theorem rDistinct_any (v : Value) (rs : List (List Vl)) (w : World) (hv : RdR w 0 w.heap.size v rs) (hcap : ∀ A n c, v = .slice A n c → n ≤ c) (hl : rs.length ≤ 1099511627776) (hr : ∀ r ∈ rs, r.length ≤ 2199023255552) :
    Calls Tryz.prog 10 #[v] w (RetR w (ddN (sortO [] rs) rs.length)) := by
  have H := Lib.hid (rSort_any v rs w hv hcap hl hr)
  have HSL := Lib.hid (sortO_len [] rs)
  obtain ⟨A, c, rfl, q1⟩ := hv
  clear q1 hcap hr
  go_enter Tryz.func10, Tryz.ntmps10
  go_wp2_with fail
  with_reducible refine H.out.mono ?_
  rintro e w1 ⟨u, rfl, hR, hn, hb⟩
  generalize sortO [] rs = ss at *
  have HB1 := Lib.hid hb
  obtain ⟨A, c1, rfl, hl1, hc1⟩ := hR
  have HC := Lib.hid hc1
  have R0 := Lib.hid (RowO.lit w1 w1 (Nat.le_refl _))
  have B0 := Lib.hid (bel_mark w1 (.cells #[] 32))
  have hsl := HSL.out
  have HL := Lib.hid (show ss.length ≤ 1099511627776 by omega)
  clear H hc1 hn hb hl1 hsl hl
  go_wp2
  go_loopw [4, 5] (fun vb i wr => ∃ k : Nat, k ≤ ss.length ∧ i = .int .i64 k ∧ Hid (RowO w1 wr vb (ddN ss k)) ∧ Below w1.heap.size w1 wr) (fun _ i _ => ss.length - (intOf i).toNat)
  case atStart => exact ⟨0, Nat.zero_le _, rfl, R0, B0.out⟩
  case round =>
    obtain ⟨k, hk, rfl, HR, hbr⟩ := hrel
    have hbz := hbr.size
    by_cases hlt : k < ss.length
    · have hki : (k : Int) < ss.length := by omega
      have hll := HL.out
      obtain ⟨ad, ua, rfl, _, hab, c0, hra⟩ := HC.out k _ (List.getElem?_eq_getElem hlt)
      have d0 := (hbr.cell (p := ad.add k) (by rw [add_block]; exact hab)).trans c0
      have GA := Lib.hid (List.getElem?_eq_getElem hlt)
      generalize ss[k] = ra at *
      have HRA := Lib.hid hra
      have D0 := Lib.hid d0
      by_cases hk0 : k = 0
      · subst hk0
        obtain ⟨⟨A3, c3, rfl, q1⟩, q2⟩ := hra
        have HF := Lib.hid (show ddN ss (0 + 1) = ddN ss 0 ++ [ra] from ddN_first GA.out)
        clear q1 q2 c0 d0
        go_wp2_with fail
        (refine wp_region_after (by kernel_rfl) (by kernel_rfl) ?_; (repeat (go_big_quiet_step (fail))); refine wpQuiet_nil ?_; intro wq hw0; obtain ⟨⟨wq0, hbq⟩, hw1⟩ := hw0; subst hw1; (try dsimp only))
        have zq := hbq.size
        have B1 := hbr.trans (hbq.mono hbz)
        have z1 := B1.size
        have d1 := (hbq.cell (p := ad.add 0) (by rw [add_block]; omega)).trans D0.out
        rw [addZ0] at d1
        have b2 := bel_mark wq (.cells #[.slice A3 ra.length c3] 32)
        have HR2 := Lib.hid ((HR.out.step hbq).step b2)
        have HCU := Lib.hid (show (wq.alloc (.cells #[.slice A3 ra.length c3] 32)).cell? ⟨wq.heap.size, 0, none⟩ = some (.slice A3 ra.length c3) from (Own.new wq 32 #[.slice A3 ra.length c3]).cell 0)
        have HB2 := Lib.hid (B1.trans (b2.mono z1))
        have HMS := Lib.hid (show (ddN ss 0).length ≤ 1099511627776 from Nat.zero_le _)
        have HZ2 := Lib.hid HB2.out.size
        clear b2 B1
        go_wp2_with (at_builtin; refine append_r _ rfl _ _ rfl w1 _ (ddN ss 0) rfl HR2.out wq.heap.size 1 _ ra rfl HCU.out HRA.out HMS.out HZ2.out ?_; intro v3 w3 hR3 hb3)
        have B3 := HB2.out.trans hb3
        go_roundw
        case rel => exact ⟨0 + 1, by omega, by go_num, Lib.hid (by rw [HF.out]; exact hR3), B3⟩
        case measure => simp [intOf]; omega
      · have k0 : ((k : Int) == 0) = false := by simp; omega
        have hkm : (k : Int) - 1 = (k - 1 : Nat) := by omega
        have hkl : ((k - 1 : Nat) : Int) < ss.length := by omega
        obtain ⟨ad2, ub, e2, _, hab2, b0, hrb⟩ := HC.out (k - 1) _ (List.getElem?_eq_getElem (show k - 1 < ss.length by omega))
        injection e2 with e2
        subst e2
        have f0 := (hbr.cell (p := ad.add (k - 1)) (by rw [add_block]; exact hab2)).trans b0
        have GB0 := Lib.hid (List.getElem?_eq_getElem (show k - 1 < ss.length by omega))
        generalize ss[k - 1] = rb at *
        have HE := Lib.hid (fun r : After wr => equal8_any ub ua rb ra r.w 0 0 (hrb.step (hbr.trans (r.h.mono hbz)) (Nat.le_refl _)).1 (hra.step (hbr.trans (r.h.mono hbz)) (Nat.le_refl _)).1)
        obtain ⟨⟨A3, c3, rfl, q1⟩, q2⟩ := hra
        obtain ⟨⟨A4, c4, rfl, q3⟩, q4⟩ := hrb
        have x0 : ∀ r : After wr, r.w.cell? (ad.add k) = some (.slice A3 ra.length c3) := after_cell (by rw [add_block]; omega) d0
        have x1 : ∀ r : After wr, r.w.cell? (ad.add (k - 1)) = some (.slice A4 rb.length c4) := after_cell (by rw [add_block]; omega) f0
        have hsy : (cmpR rb ra == 0) = (cmpR ra rb == 0) := by
          rw [Bool.eq_iff_iff, beq_iff_eq, beq_iff_eq, cmpR_eq, cmpR_eq]
          exact eq_comm
        rw [hsy] at HE
        clear q1 q2 q3 q4 c0 d0 b0 f0 hsy
        cases hb : (cmpR ra rb == 0)
        · rw [hb] at HE
          have HF := Lib.hid (show ddN ss (k + 1) = ddN ss k ++ [ra] from ddN_ne GA.out GB0.out hb)
          clear hb
          go_wp2_with fail
          (refine wp_region_after (by kernel_rfl) (by kernel_rfl) ?_; (repeat (go_big_quiet_step ((go_at_call 20; exact calls_after (HE.out _))))); refine wpQuiet_nil ?_; intro wq hw0; obtain ⟨⟨wq0, hbq⟩, hw1⟩ := hw0; subst hw1; (try dsimp only))
          clear x0 x1 HE
          have zq := hbq.size
          have B1 := hbr.trans (hbq.mono hbz)
          have z1 := B1.size
          have d1 := (hbq.cell (p := ad.add k) (by rw [add_block]; omega)).trans D0.out
          have b2 := bel_mark wq (.cells #[.slice A3 ra.length c3] 32)
          have HR2 := Lib.hid ((HR.out.step hbq).step b2)
          have HCU := Lib.hid (show (wq.alloc (.cells #[.slice A3 ra.length c3] 32)).cell? ⟨wq.heap.size, 0, none⟩ = some (.slice A3 ra.length c3) from (Own.new wq 32 #[.slice A3 ra.length c3]).cell 0)
          have HB2 := Lib.hid (B1.trans (b2.mono z1))
          have HMS := Lib.hid (show (ddN ss k).length ≤ 1099511627776 by have := ddN_len ss k; omega)
          have HZ2 := Lib.hid HB2.out.size
          clear b2 B1
          go_wp2_with (at_builtin; refine append_r _ rfl _ _ rfl w1 _ (ddN ss k) rfl HR2.out wq.heap.size 1 _ ra rfl HCU.out HRA.out HMS.out HZ2.out ?_; intro v3 w3 hR3 hb3)
          have B3 := HB2.out.trans hb3
          go_roundw
          case rel => exact ⟨k + 1, by omega, by go_num, Lib.hid (by rw [HF.out]; exact hR3), B3⟩
          case measure => simp [intOf]; omega
        · rw [hb] at HE
          have HF := Lib.hid (show ddN ss (k + 1) = ddN ss k from ddN_eq (by omega) GA.out GB0.out hb)
          clear hb
          go_wp2_with fail
          (refine wp_region_after (by kernel_rfl) (by kernel_rfl) ?_; (repeat (go_big_quiet_step ((go_at_call 20; exact calls_after (HE.out _))))); refine wpQuiet_nil ?_; intro wq hw0; obtain ⟨⟨wq0, hbq⟩, hw1⟩ := hw0; subst hw1; (try dsimp only))
          have HR2 := Lib.hid (HR.out.step hbq)
          clear x0 x1 HE
          go_wp2
          go_roundw
          case rel => exact ⟨k + 1, by omega, by go_num, Lib.hid (by rw [HF.out]; exact HR2.out), hbr.trans (hbq.mono hbz)⟩
          case measure => simp [intOf]; omega
    · have hki : ¬ (k : Int) < ss.length := by omega
      have hke : k = ss.length := by omega
      have hll := HL.out
      have hR := HR.out.rd hbr (by have := ddN_len ss k; omega)
      rw [hke, HSL.out] at hR
      have HRR := Lib.hid hR
      clear hR hke hll
      go_wp2
      go_ret
      exact ⟨_, rfl, HRR.out.1.low HB1.out.size, HRR.out.2, HB1.out.trans (hbr.mono HB1.out.size)⟩
set_option maxRecDepth 100000 in
set_option maxHeartbeats 6400000 in
theorem law_sorts (u v : Value) (rs qs : List (List Vl)) (w : World) (hE : Va.Env w) (hu : RdR w 0 w.heap.size u rs) (hv : RdR w 0 w.heap.size v qs) (hc1 : ∀ A n c, u = .slice A n c → n ≤ c) (hc2 : ∀ A n c, v = .slice A n c → n ≤ c) (hl1 : rs.length ≤ 1099511627776) (hr1 : ∀ r ∈ rs, r.length ≤ 2199023255552) (hl2 : qs.length ≤ 1099511627776) (hr2 : ∀ r ∈ qs, r.length ≤ 2199023255552) :
    Calls Tryz.prog 3 #[u, v] w fun e w' => e = .returned (.bool true) ∧ Below w.heap.size w w' := by
  have h1 := short_any u rs w 0 hu
  have h2 := short_any v qs w 0 hv
  have HA := Lib.hid (fun W (h : Below w.heap.size w W) => pSort_any u rs W 0 (hu.step h (Nat.le_refl _)) hl1 hr1)
  have HB := Lib.hid (fun W (h : Below w.heap.size w W) => rSort_any u rs W (hu.step h (Nat.le_refl _)) hc1 hl1 hr1)
  have HC := Lib.hid (fun W (h : Below w.heap.size w W) => pDistinct_any u rs W 0 (hu.step h (Nat.le_refl _)) hl1 hr1)
  have HD := Lib.hid (fun W (h : Below w.heap.size w W) => rDistinct_any u rs W (hu.step h (Nat.le_refl _)) hc1 hl1 hr1)
  have HF := Lib.hid (fun W (h : Below w.heap.size w W) => pSame_any u v rs qs W 0 0 (hu.step h (Nat.le_refl _)) (hv.step h (Nat.le_refl _)) hl1 hr1 hl2 hr2)
  have HG := Lib.hid (fun W (h : Below w.heap.size w W) => rSame_any u v rs qs W (hu.step h (Nat.le_refl _)) (hv.step h (Nat.le_refl _)) hc1 hc2 hl1 hr1 hl2 hr2)
  have H5 := Lib.hid (fun W (h : Below w.heap.size w W) => awake_any W (hE.step h))
  obtain ⟨A, c, rfl, q1⟩ := hu
  obtain ⟨A2, c2, rfl, q2⟩ := hv
  clear q1 q2 hc1 hc2 hl1 hr1 hl2 hr2
  by_cases hs : rs.length ≤ 300
  · rw [decide_eq_true hs] at h1
    by_cases ht : qs.length ≤ 300
    · rw [decide_eq_true ht] at h2
      clear hs ht
      have ha := HA.out w (Below.refl _ _)
      go_enter Tryz.func3, Tryz.ntmps3
      go_wp2_with fail
      with_reducible refine h1.mono ?_
      rintro e w0 ⟨rfl, rfl⟩
      clear h1
      go_wp2_with fail
      with_reducible refine h2.mono ?_
      rintro e w0 ⟨rfl, rfl⟩
      clear h2
      go_wp2_with fail
      with_reducible refine ha.mono ?_
      rintro e w1 ⟨u1, rfl, hR1, hn1, hb1⟩
      have hb := HB.out w1 hb1
      have HR1 := Lib.hid hR1
      clear ha HA HB hR1 hn1
      go_wp2_with fail
      with_reducible refine hb.mono ?_
      rintro e w2 ⟨u2, rfl, hR2, hn2, hb2⟩
      have B2 := hb1.trans (hb2.mono hb1.size)
      have h4 := rList_any u1 u2 _ _ w2 ((HR1.out.step hb2 (Nat.le_refl _)).low (Nat.zero_le _)) (hR2.low (Nat.zero_le _))
      rw [decide_eq_true rfl] at h4
      clear hb hR2 hn2 HR1
      go_wp2_with fail
      with_reducible refine h4.mono ?_
      rintro e w3 ⟨rfl, hb3⟩
      have B3 := B2.trans (hb3.mono B2.size)
      have hc := HC.out w3 B3
      clear h4 HC hb1 hb2 hb3 B2
      go_wp2_with fail
      with_reducible refine hc.mono ?_
      rintro e w4 ⟨u3, rfl, hR3, hn3, hb4⟩
      have B4 := B3.trans (hb4.mono B3.size)
      have hd := HD.out w4 B4
      have HR3 := Lib.hid hR3
      clear hc HD hR3 hn3
      go_wp2_with fail
      with_reducible refine hd.mono ?_
      rintro e w5 ⟨u4, rfl, hR4, hn4, hb5⟩
      have B5 := B4.trans (hb5.mono B4.size)
      have h6 := rList_any u3 u4 _ _ w5 ((HR3.out.step hb5 (Nat.le_refl _)).low (Nat.zero_le _)) (hR4.low (Nat.zero_le _))
      rw [decide_eq_true rfl] at h6
      clear hd hR4 hn4 HR3 hb4 hb5 B3 B4
      go_wp2_with fail
      with_reducible refine h6.mono ?_
      rintro e w6 ⟨rfl, hb6⟩
      have B6 := B5.trans (hb6.mono B5.size)
      have hf := HF.out w6 B6
      clear h6 HF hb6 B5
      go_wp2_with fail
      with_reducible refine hf.mono ?_
      rintro e w7 ⟨rfl, hb7⟩
      have B7 := B6.trans (hb7.mono B6.size)
      have hg := HG.out w7 B7
      clear hf HG hb7 B6
      generalize decide (sortO [] rs = sortO [] qs) = bb at *
      go_wp2_with fail
      with_reducible refine hg.mono ?_
      rintro e w8 ⟨rfl, hb8⟩
      have B8 := B7.trans (hb8.mono B7.size)
      have h5 := H5.out w8 B8
      clear hg H5 hb8 B7
      have hbb : (bb == bb) = true := by cases bb <;> rfl
      go_wp2_with fail
      with_reducible refine h5.mono ?_
      rintro e w9 ⟨rfl, hb9⟩
      go_wp2
      go_ret
      exact ⟨rfl, B8.trans (hb9.mono B8.size)⟩
    · rw [decide_eq_false ht] at h2
      have h5 := H5.out w (Below.refl _ _)
      clear hs ht HA HB HC HD HF HG
      go_enter Tryz.func3, Tryz.ntmps3
      go_wp2_with fail
      with_reducible refine h1.mono ?_
      rintro e w0 ⟨rfl, rfl⟩
      clear h1
      go_wp2_with fail
      with_reducible refine h2.mono ?_
      rintro e w0 ⟨rfl, rfl⟩
      clear h2
      go_wp2_with fail
      with_reducible refine h5.mono ?_
      rintro e w4 ⟨rfl, hb4⟩
      go_wp2
      go_ret
      exact ⟨rfl, hb4⟩
  · rw [decide_eq_false hs] at h1
    have h5 := H5.out w (Below.refl _ _)
    clear hs HA HB HC HD HF HG h2
    go_enter Tryz.func3, Tryz.ntmps3
    go_wp2_with fail
    with_reducible refine h1.mono ?_
    rintro e w0 ⟨rfl, rfl⟩
    clear h1
    go_wp2_with fail
    with_reducible refine h5.mono ?_
    rintro e w4 ⟨rfl, hb4⟩
    go_wp2
    go_ret
    exact ⟨rfl, hb4⟩
end Go.Proofs.YtimmfckkgdlokaaGreatDoor
