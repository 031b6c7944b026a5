/-
  Bytes that are read, rows of bytes that a call makes: the plain laws. Conditions: lengths.
-/
import Derived.Test.YtclpemmpckjemaaDoorProg
import Derived.Test.YtclpemmpckjemaaDoorShelf
import Derived.Test.YtclpemmpckjemaaDoorBlk
import Derived.Test.YtclpemmpckjemaaDoorQui
import Derived.WalkSmall
import Derived.Laws.AppendOwn
import Derived.Laws.AppendOwnNone
import Derived.Shelf.Spec.SlicesGrow
import Derived.Lib.SmallJoins
import Derived.Lib.BufferRead
import Derived.OwnWalk
import Derived.WalkKit
import Derived.WalkSpells
import Derived.WalkLawsBesides
import Derived.Deep.QuietTactic
import Derived.BigQuiet
import Derived.Handy
import Derived.Lib.Hide
namespace Go.Proofs.YtclpemmpckjemaaDoor
open Go.RowKit



theorem add_block (ad : Addr) (k : Nat) : (ad.add k).block = ad.block := by unfold Addr.add; split <;> rfl
/-- The slice v holds the bytes l; it lies below block B and not below block L; its room is at least its length. -/
def RdB (w : World) (L B : Nat) (v : Value) (l : List UInt8) : Prop :=
  ∃ A c, v = .slice A l.length c ∧ l.length ≤ 9223372036854775807 ∧ l.length ≤ c ∧ ∀ (k : Nat) (b : UInt8), l[k]? = some b → ∃ ad : Addr, A = some ad ∧ L ≤ ad.block ∧ ad.block < B ∧ w.cell? (ad.add k) = some (.int .u8 (b.toNat : Nat))
theorem RdB.below {w w' : World} {L B : Nat} {v : Value} {l : List UInt8} (h : RdB w L B v l) (hb : Below B w w') : RdB w' L B v l := by
  obtain ⟨A, c, hv, hl, hcc, hc⟩ := h
  exact ⟨A, c, hv, hl, hcc, fun k n hk => let ⟨ad, h1, h0, h2, h3⟩ := hc k n hk; ⟨ad, h1, h0, h2, (hb.cell (p := ad.add k) (by rw [add_block]; exact h2)).trans h3⟩⟩
theorem RdB.more {w : World} {L L' B B' : Nat} {v : Value} {l : List UInt8} (h : RdB w L B v l) (hB : B ≤ B') (hL : L' ≤ L) : RdB w L' B' v l := by
  obtain ⟨A, c, hv, hl, hcc, hc⟩ := h
  exact ⟨A, c, hv, hl, hcc, fun k n hk => let ⟨ad, h1, h0, h2, h3⟩ := hc k n hk; ⟨ad, h1, by omega, by omega, h3⟩⟩
theorem RdB.step {w w' : World} {L B : Nat} {v : Value} {l : List UInt8} (h : RdB w L B v l) (hb : Below w.heap.size w w') (hB : B ≤ w.heap.size) : RdB w' L w'.heap.size v l :=
  (h.below (hb.mono hB)).more (Nat.le_trans hB hb.size) (Nat.le_refl _)
theorem RdB.at {w : World} {L B : Nat} {A : Option Addr} {m c : Nat} {l : List UInt8} (h : RdB w L B (.slice A m c) l) {k : Nat} {b : UInt8} (hk : l[k]? = some b) : ∃ ad : Addr, A = some ad ∧ L ≤ ad.block ∧ ad.block < B ∧ w.cell? (ad.add k) = some (.int .u8 (b.toNat : Nat)) := by
  obtain ⟨A', c', hv, hl, _, hc⟩ := h
  injection hv with e1 e2 e3
  subst e1
  exact hc k b hk


def bytV (l : List UInt8) : List Value := l.map fun b => .int .u8 (b.toNat : Nat)
theorem bytV_len (l : List UInt8) : (bytV l).length = l.length := by unfold bytV; rw [List.length_map]
theorem bytV_app (l m : List UInt8) : bytV (l ++ m) = bytV l ++ bytV m := by unfold bytV; rw [List.map_append]
theorem infoB : (Tryd.prog.info? 5).map (fun i => (i.zero, i.size, i.bytes)) = some (some (.int .u8 0), 1, 1) := by kernel_rfl
theorem info_partsB {t : TypeId} {z : Value} {a b : Nat} (h : (Tryd.prog.info? t).map (fun i => (i.zero, i.size, i.bytes)) = some (some z, a, b)) : ∃ i, Tryd.prog.info? t = some i ∧ i.zero = some z ∧ i.size = a ∧ i.bytes = b := by
  cases hi : Tryd.prog.info? t with
  | none => rw [hi] at h; cases h
  | some i =>
    rw [hi] at h
    simp only [Option.map_some, Option.some.injEq, Prod.mk.injEq] at h
    exact ⟨i, rfl, h.1, h.2.1, h.2.2⟩
theorem RdB.of_own {w : World} {base : Nat} {v : Value} {l : List UInt8} (h : w.ownsRow base 5 1 v l.length (bytV l)) (hl : l.length ≤ 9223372036854775807) : RdB w base w.heap.size v l := by
  rcases h.2 with ⟨rfl, h0⟩ | ⟨g, cap, cur, rfl, hb, hh, hn, hc, hs, ht⟩
  · obtain rfl := List.eq_nil_of_length_eq_zero h0
    exact ⟨none, 0, rfl, hl, Nat.le_refl _, fun k n hk => by simp at hk⟩
  · have hg : g < w.heap.size := by
      rcases Nat.lt_or_ge g w.heap.size with h1 | h1
      · exact h1
      · rw [Array.getElem?_eq_none h1] at hh; cases hh
    refine ⟨_, cap, rfl, hl, hn, fun k n hk => ⟨_, rfl, hb, hg, ?_⟩⟩
    have hkl : k < l.length := (List.getElem?_eq_some_iff.1 hk).1
    have e : w.cell? ⟨g, k, none⟩ = cur[k]? := cell_of_row w g k cur _ _ hh
    have hv : (bytV l)[k]? = some (.int .u8 (n.toNat : Nat)) := by unfold bytV; rw [List.getElem?_map, hk]; rfl
    have e2 : w.cell? ⟨g, k, none⟩ = some (.int .u8 (n.toNat : Nat)) := by rw [e, ← hv, ← ht, ← Array.getElem?_toList, List.getElem?_take, if_pos (by omega)]
    unfold Addr.add
    split
    · rename_i h; subst h; exact e2
    · simpa using e2
theorem own_below {W w1 : World} {base e size n : Nat} {v : Value} {xs : List Value} (h : W.ownsRow base e size v n xs) (hb : Below W.heap.size W w1) : w1.ownsRow base e size v n xs :=
  h.kept (row := none) ⟨hb.os, hb.tape, hb.output, hb.size, fun j hj _ => hb.block j hj⟩ (by cases hv : v.ownBlock <;> simp)
theorem append_b {ops : Array Oper} {rest : List Oper} {o : Oper} {a : Act} {Q : Exit → Act → World → Prop} (W : World) (hgd : o.guard = none) (s x : Operand)
    (ho : o.op = .call { callee := .builtin .append, args := #[s, x], argTypes := #[26, 26] }) (base : Nat) (v : Value) (l : List UInt8) (hs : a.eval s = v)
    (hown : W.ownsRow base 5 1 v l.length (bytV l)) (ad : Addr) (c : Nat) (m : List UInt8) (hx : a.eval x = .slice (some ad) m.length c)
    (hnew : ∀ (j : Nat) b, m[j]? = some b → W.cell? (ad.add j) = some (.int .u8 (b.toNat : Nat))) (hl : l.length + m.length ≤ 140737488355328) (hbase : base ≤ W.heap.size)
    (h : ∀ v' w', w'.ownsRow base 5 1 v' (l ++ m).length (bytV (l ++ m)) → Below base W w' → wpList Tryd.prog ops Q rest (a.put o.dst v') w') :
    wpList Tryd.prog ops Q (o :: rest) a W := by
  obtain ⟨i0, hi, hz0, hz1, hz2⟩ := info_partsB infoB
  refine wpList_append_own _ hgd s x 26 ho base 5 i0 (.int .u8 0) 1 1 Tryd.underlying26 hi hz0 hz1 hz2 rfl (by decide) v l.length (bytV l) hs hown ad m.length c (bytV m) hx (by rw [bytV_len]; omega)
    ?_ ?_ (by unfold maxLen; omega) (by omega) hbase ?_
  · intro j u hu
    unfold bytV at hu
    rw [List.getElem?_map, Option.map_eq_some_iff] at hu
    obtain ⟨b, hb, rfl⟩ := hu
    exact hnew j b hb
  · intro u hu
    unfold bytV at hu
    rw [List.mem_map] at hu
    obtain ⟨b, _, rfl⟩ := hu
    rfl
  · intro v' w' h1 h2 _
    exact h v' w' (by rw [bytV_app, List.length_append]; exact h1) ((Below.refl _ _).grown h2 hbase fun k hk => (hown.lt k hk).1)
def RetB (base : Nat) (w : World) (l : List UInt8) (e : Ending) (w' : World) : Prop := ∃ v, e = .returned v ∧ w'.ownsRow base 5 1 v l.length (bytV l) ∧ Below base w w'
theorem grow_b (l : List UInt8) (v : Value) (n : Nat) (w : World) (L B : Nat) (A : Option Addr) (hv : v = .slice A l.length l.length) (hr : RdB w L B v l) (hn : 0 < n) (hl : l.length + n ≤ 140737488355328) :
    Calls Tryd.prog 17 #[v, .int .i64 n] w (RetB w.heap.size w l) := by
  subst hv
  obtain ⟨i0, hi, hz0, hz1, hz2⟩ := info_partsB infoB
  have hA : A = none → l = [] := fun e => by
    cases l with
    | nil => rfl
    | cons b t => obtain ⟨ad, h1, _⟩ := hr.at (k := 0) rfl; rw [e] at h1; cases h1
  have h := Any8.slices_Grow_grow Tryd.growB i0 (.int .u8 0) hi hz0 (by omega) A l.length l.length n (bytV l) w (Nat.le_refl _) (by omega) (by rw [hz2]; omega) (by omega) (by rw [bytV_len, hz1]; omega) (fun e => by rw [hA e]; rfl) (fun a ha j u hu => by
    subst ha
    unfold bytV at hu
    rw [List.getElem?_map, Option.map_eq_some_iff] at hu
    obtain ⟨b, hb, rfl⟩ := hu
    obtain ⟨ad, h1, _, _, h2⟩ := hr.at hb
    injection h1 with h1; subst h1
    exact h2)
  refine Calls.mono h ?_
  rintro e w' ⟨rfl, rfl⟩
  have hge := grownCap_ge w (l.length + n) l.length (Tryd.growB_ren.t 25)
  have hcm := grownCap_le_maxLen w (l.length + n) l.length (Tryd.growB_ren.t 25) (by unfold maxLen; omega)
  generalize grownCap w (l.length + n) l.length (Tryd.growB_ren.t 25) = G at *
  refine ⟨_, rfl, ⟨by rw [bytV_len]; omega, .inr ⟨w.heap.size, _, _, rfl, Nat.le_refl _, heap_alloc_new w.drew _, by omega, hcm, ?_, ?_⟩⟩, (Below.drew (Below.refl _ _)).alloc (by simp) _⟩
  · simp only [Array.size_append, List.size_toArray, size_zeroCells, bytV_len]
    have hz : (Value.int .u8 0).cells.size = 1 := rfl
    rw [hz]
    omega
  · simp only [Array.toList_append, List.append_assoc]
    rw [Nat.mul_one, List.take_append_of_le_length (by rw [bytV_len]; omega), List.take_of_length_le (by rw [bytV_len]; omega)]


theorem cell_add0 (w : World) (g k : Nat) : w.cell? ((⟨g, 0, none⟩ : Addr).add k) = w.cell? ⟨g, k, none⟩ := by
  have ha : (⟨g, 0, none⟩ : Addr).add k = ⟨g, k, none⟩ := by unfold Addr.add; split <;> simp_all
  rw [ha]
theorem add_add (ad : Addr) (i k : Nat) : (ad.add i).add k = ad.add (i + k) := by
  unfold Addr.add
  by_cases hi : i = 0
  · subst hi; simp
  · by_cases hk : k = 0
    · subst hk; simp [hi]
    · simp [hi, hk, Nat.add_assoc]
theorem rdB_sub {w : World} {L B : Nat} {ad : Addr} {n cap : Nat} {l : List UInt8} (h : RdB w L B (.slice (some ad) n cap) l) (i j c : Nat) (hij : i + j ≤ l.length) (hc : j ≤ c) : RdB w L B (.slice (some (ad.add i)) j c) ((l.drop i).take j) := by
  have hl : ((l.drop i).take j).length = j := by rw [List.length_take, List.length_drop]; omega
  have h63 : l.length ≤ 9223372036854775807 := by obtain ⟨_, _, _, h1, _⟩ := h; exact h1
  refine ⟨some (ad.add i), c, by rw [hl], by omega, by omega, fun k b hk => ?_⟩
  have hkj : k < j := by have := (List.getElem?_eq_some_iff.1 hk).1; omega
  rw [List.getElem?_take, if_pos hkj, List.getElem?_drop] at hk
  obtain ⟨ad2, h1, h2, h3, h4⟩ := h.at hk
  injection h1 with h1
  subst h1
  exact ⟨_, rfl, by rw [add_block]; exact h2, by rw [add_block]; exact h3, by rw [add_add]; exact h4⟩


theorem ownsRow_of_own {w : World} {g base : Nat} {l : List UInt8} (h : Own w g 5 (bytV l).toArray) (hb : base ≤ g) (hl : l.length ≤ maxLen) : w.ownsRow base 5 1 (.slice (some ⟨g, 0, none⟩) l.length l.length) l.length (bytV l) :=
  ⟨by rw [bytV_len]; omega, .inr ⟨g, l.length, _, rfl, hb, h, Nat.le_refl _, hl, by rw [List.size_toArray, bytV_len]; omega, by rw [List.take_of_length_le (by rw [bytV_len]; omega)]⟩⟩
theorem rdB_nil (w : World) (L B : Nat) : RdB w L B (.slice none 0 0) [] := ⟨none, 0, rfl, by simp, by simp, fun k b h => by simp at h⟩
theorem rdB_none (w : World) (L B : Nat) (A : Option Addr) (c : Nat) : RdB w L B (.slice A 0 c) [] := ⟨A, c, rfl, by simp, by simp, fun k b h => by simp at h⟩
theorem add_pos' (ad : Addr) (i : Nat) : ad.add (i + 1) = ⟨ad.block, ad.off + (i + 1), none⟩ := by unfold Addr.add; simp
theorem rdB_take {w : World} {L B : Nat} {A : Option Addr} {n cap : Nat} {l : List UInt8} (h : RdB w L B (.slice A n cap) l) (j c : Nat) (hij : j ≤ l.length) (hc : j ≤ c) : RdB w L B (.slice A j c) (l.take j) := by
  have hl : (l.take j).length = j := by rw [List.length_take]; omega
  obtain ⟨A', c', hv, h63, hcc, hx⟩ := h
  injection hv with e1 e2 e3
  subst e1
  refine ⟨A, c, by rw [hl], by omega, by omega, fun k b hk => ?_⟩
  have hkj : k < j := by have := (List.getElem?_eq_some_iff.1 hk).1; omega
  rw [List.getElem?_take, if_pos hkj] at hk
  exact hx k b hk


theorem append_x {ops : Array Oper} {rest : List Oper} {o : Oper} {a : Act} {Q : Exit → Act → World → Prop} (W : World) (hgd : o.guard = none) (s x : Operand)
    (ho : o.op = .call { callee := .builtin .append, args := #[s, x], argTypes := #[26, 26] }) (base : Nat) (v : Value) (l : List UInt8) (hs : a.eval s = v)
    (hown : W.ownsRow base 5 1 v l.length (bytV l)) (u : Value) (m : List UInt8) (L B : Nat) (hx : a.eval x = u) (hr : RdB W L B u m) (hun : ∀ n c, u = .slice none n c → c = 0) (hl : l.length + m.length ≤ 140737488355328) (hbase : base ≤ W.heap.size)
    (h : ∀ v' w', w'.ownsRow base 5 1 v' (l ++ m).length (bytV (l ++ m)) → Below base W w' → wpList Tryd.prog ops Q rest (a.put o.dst v') w') :
    wpList Tryd.prog ops Q (o :: rest) a W := by
  have hr0 := hr
  obtain ⟨A, c, rfl, _⟩ := hr
  cases A with
  | none =>
    have hm0 : m = [] := by
      cases m with
      | nil => rfl
      | cons b t => obtain ⟨ad, h1, _⟩ := hr0.at (k := 0) rfl; cases h1
    subst hm0
    obtain rfl := hun _ _ rfl
    obtain ⟨i0, hi, _, _, _⟩ := info_partsB infoB
    refine wpList_append_own_none hgd s x 26 ho base 5 i0 1 Tryd.underlying26 hi v _ _ hs hown hx ?_
    exact h v W (by rw [List.append_nil]; exact hown) (Below.refl _ _)
  | some ad =>
    exact append_b W hgd s x ho base v l hs hown ad c m hx (fun j b hj => by
      obtain ⟨ad2, h1, _, _, h4⟩ := hr0.at hj
      injection h1 with h1; subst h1; exact h4) hl hbase h
theorem own_lit (w : World) (l : List UInt8) (hl : l.length ≤ maxLen) (c : Array Value) (hc : c = (bytV l).toArray) : (w.alloc (.cells c 5)).ownsRow w.heap.size 5 1 (.slice (some ⟨w.heap.size, 0, none⟩) l.length l.length) l.length (bytV l) := by
  subst hc
  exact ownsRow_of_own (Own.new w _ _) (Nat.le_refl _) hl
theorem own_not_none {w : World} {base n : Nat} {v : Value} {xs : List Value} (h : w.ownsRow base 5 1 v n xs) : ∀ k c, v = .slice none k c → c = 0 := by
  intro k c e
  rcases h.2 with ⟨rfl, h0⟩ | ⟨g, cap, cur, rfl, _⟩
  · injection e with _ _ e3; exact e3.symm
  · cases e
theorem ownsRow_low {w : World} {b1 b2 e size n : Nat} {v : Value} {xs : List Value} (h : w.ownsRow b1 e size v n xs) (hb : b2 ≤ b1) : w.ownsRow b2 e size v n xs := by
  refine ⟨h.1, ?_⟩
  rcases h.2 with h0 | ⟨g, cap, cur, hv, hb2, hr⟩
  · exact .inl h0
  · exact .inr ⟨g, cap, cur, hv, Nat.le_trans hb hb2, hr⟩


theorem conv_rdB {w : World} {L B : Nat} {v : Value} {l : List UInt8} (h : RdB w L B v l) : (convert 26 9 v).run Tryd.prog w = .ok (.string (ByteArray.mk l.toArray)) w := by
  have h0 := h
  obtain ⟨A, c, rfl, _, _, _⟩ := h
  cases A with
  | none =>
    have hm0 : l = [] := by
      cases l with
      | nil => rfl
      | cons b t => obtain ⟨ad, h1, _⟩ := h0.at (k := 0) rfl; cases h1
    subst hm0
    exact Lib.run_convert_nil_bytes w _ _ 5 c Tryd.underlying26 Tryd.underlying5 Tryd.underlying9
  | some ad =>
    exact run_convert_bytes_back w _ _ 5 ad c l Tryd.underlying26 Tryd.underlying5 Tryd.underlying9 (fun j hj => by
      obtain ⟨ad2, h1, _, _, h4⟩ := h0.at (List.getElem?_eq_getElem hj)
      injection h1 with h1; subst h1; exact h4)
theorem rdB_cells {w : World} {g : Nat} {t : TypeId} {fr : Nat × Nat} {cs : Array Value} {l : List UInt8} (h : w.heap[g]? = some (.cells cs t fr)) (hcs : cs = (bytV l).toArray) (hl : l.length ≤ 9223372036854775807) : RdB w 0 w.heap.size (.slice (some ⟨g, 0, none⟩) l.length l.length) l := by
  subst hcs
  refine ⟨_, _, rfl, hl, Nat.le_refl _, fun k b hk => ⟨_, rfl, Nat.zero_le _, ?_, ?_⟩⟩
  · rcases Nat.lt_or_ge g w.heap.size with h1 | h1
    · exact h1
    · rw [Array.getElem?_eq_none h1] at h; cases h
  · have e : w.cell? ⟨g, k, none⟩ = (bytV l).toArray[k]? := cell_of_row w g k _ _ _ h
    have hv : (bytV l)[k]? = some (.int .u8 (b.toNat : Nat)) := by unfold bytV; rw [List.getElem?_map, hk]; rfl
    rw [show (⟨g, 0, none⟩ : Addr).add k = ⟨g, k, none⟩ by unfold Addr.add; split <;> simp_all, e]
    simpa using hv
theorem bel_mark (w : World) (o : Obj) : Below w.heap.size w (w.alloc o) := (Below.refl w.heap.size w).alloc (Nat.le_refl _) o
theorem heap_mark (w : World) (o : Obj) : (w.alloc o).heap[w.heap.size]? = some o := heap_alloc_new w o


theorem run_sl (w : World) (ad : Addr) (N c i j : Nat) (lo hi : Int) (hlo : lo = (i : Nat)) (hhi : hi = (i + j : Nat)) (hij : i + j ≤ c) (hc : i < c) :
    (Instr.slice 26 (.slice (some ad) N c) (some (.int .i64 lo)) (some (.int .i64 hi)) none).run Tryd.prog w = .ok (.slice (some (ad.add i)) j (c - i)) w := by
  subst hlo hhi
  obtain ⟨i0, hi0, hz0, hz1, hz2⟩ := info_partsB infoB
  have hs := run_slice_lh (P := Tryd.prog) (w := w) 26 (some ad) N c Tryd.underlying26 .i64 .i64 (i : Nat) (i + j : Nat) (by omega) (by omega) (by omega)
  rw [hs, show Tryd.prog.elem 26 = 5 by kernel_rfl, Tryd.sizeOf5]
  simp only [sliced, Result.andThen]
  rw [if_neg (by omega), show ((i + j : Nat) : Int).toNat - (i : Int).toNat = j by omega, show (i : Int).toNat = i by omega, Nat.mul_one]
  rfl
theorem run_sl0 (w : World) (ad : Addr) (N c : Nat) (lo hi : Int) (hlo : lo = (c : Nat)) (hhi : hi = (c : Nat)) :
    (Instr.slice 26 (.slice (some ad) N c) (some (.int .i64 lo)) (some (.int .i64 hi)) none).run Tryd.prog w = .ok (.slice (some ad) 0 0) w := by
  subst hlo hhi
  have hs := run_slice_lh (P := Tryd.prog) (w := w) 26 (some ad) N c Tryd.underlying26 .i64 .i64 (c : Nat) (c : Nat) (by omega) (by omega) (by omega)
  rw [hs, show Tryd.prog.elem 26 = 5 by kernel_rfl, Tryd.sizeOf5]
  simp only [sliced, Result.andThen]
  rw [if_pos (by omega), Nat.sub_self, show c - (c : Int).toNat = 0 by omega]
theorem wrap_eq {x : Int} (h1 : -9223372036854775808 ≤ x) (h2 : x ≤ 9223372036854775807) : IntKind.i64.wrap x = x := by
  rw [IntKind.wrap_i64]; omega
end Go.Proofs.YtclpemmpckjemaaDoor
