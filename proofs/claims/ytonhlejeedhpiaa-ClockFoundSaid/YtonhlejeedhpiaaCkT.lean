/-
  Contracts of Steps and Latest, of the program and of the reference: where the wall clock steps backwards, and the last stamp up to a time. Conditions: for Steps, the list is of at most 2^43 stamps.
-/
import Derived.Test.YtonhlejeedhpiaaCkS
import Derived.Test.YtonhlejeedhpiaaQui
import Derived.Deep.RegionHeld3
import Derived.WalkKit
import Derived.WalkSpells
import Derived.WalkLawsBesides
import Derived.Deep.QuietTactic
import Derived.BigQuiet
import Derived.Handy
import Derived.Lib.Hide
namespace Go.Proofs.Ytonhlejeedhpiaa
open Go.RowKit

theorem append_intG {ops : Array Oper} {rest : List Oper} {o : Oper} {a : Act} {Q : Exit → Act → World → Prop} (W : World) (hgd : o.guard = none) (s x : Operand)
    (ho : o.op = .call { callee := .builtin .append, args := #[s, x], argTypes := #[38, 38] }) (base : Nat) (v : Value) (l : List Int) (hs : a.eval s = v)
    (hown : W.ownsRow base 3 1 v l.length (intsV l)) (ad : Addr) (c : Int) (hx : a.eval x = .slice (some ad) 1 1)
    (hnew : ∀ j u, [Value.int .i64 c][j]? = some u → W.cell? (ad.add j) = some u) (hl : l.length ≤ 8796093022208) (hbase : base ≤ W.heap.size)
    (h : ∀ v' w', w'.ownsRow base 3 1 v' (l ++ [c]).length (intsV (l ++ [c])) → Below base W w' → wpList Try.prog ops Q rest (a.put o.dst v') w') :
    wpList Try.prog ops Q (o :: rest) a W := by
  obtain ⟨i0, hi, hz0, hz1, hz2⟩ := info_parts infoInt
  refine wpList_append_own _ hgd s x 38 ho base 3 i0 (.int .i64 0) 1 8 Try.underlying38 hi hz0 hz1 hz2 rfl (by decide) v l.length (intsV l) hs hown ad 1 1 [.int .i64 c] hx rfl
    hnew (fun u hu => by simp at hu; rcases hu with rfl; rfl) (by unfold maxLen; omega) (by omega) hbase ?_
  intro v' w' h1 h2 _
  refine h v' w' (by rw [show intsV (l ++ [c]) = intsV l ++ [.int .i64 c] by simp [intsV], List.length_append]; exact h1) ((Below.refl _ _).grown h2 hbase fun k hk => (hown.lt k hk).1)
theorem cell_one_new (W : World) (x : Value) (t : TypeId) : ∀ j u, [x][j]? = some u → (W.alloc (.cells #[x] t)).cell? ((⟨W.heap.size, 0, none⟩ : Addr).add j) = some u := by
  intro j u hu
  match j, hu with
  | 0, hu => simp at hu; subst hu; simp [Addr.add]
  | j + 1, hu => simp at hu

set_option maxRecDepth 100000 in
set_option maxHeartbeats 1600000 in
theorem pSteps_any (v : Value) (l : List (Int × Int)) (w : World) (L : Nat) (hv : RdP w L w.heap.size v l) (hbig : l.length ≤ 8796093022208) :
    Calls Try.prog 20 #[v] w (RetInts w (stp l l.length)) := by
  have hv0 := hv
  obtain ⟨A, c, rfl, hlen, _⟩ := hv
  generalize hR : stp l l.length = R
  go_enter Try.func20, Try.ntmps20
  go_wp2
  go_loopw [3, 4] (fun o i wr => ∃ k : Nat, Hid ((1 ≤ k ∧ k ≤ l.length) ∨ (k = 1 ∧ l.length = 0)) ∧ i = .int .i64 k ∧ wr.ownsRow w.heap.size 3 1 o (stp l k).length (intsV (stp l k)) ∧ Below w.heap.size w wr) (fun _ i _ => l.length - (intOf i).toNat)
  case atStart => exact ⟨1, Lib.hid (by omega), rfl, own_nilI _ _, Below.refl _ _⟩
  case round =>
    obtain ⟨k, hk, rfl, hown, hbr⟩ := hrel
    have hbz := hbr.size
    have HO := Lib.hid hown
    have hsl := stp_len l k
    clear hown
    have hk0 := hk.out
    by_cases hlt : k < l.length
    · obtain ⟨m, rfl⟩ : ∃ m, k = m + 1 := ⟨k - 1, by omega⟩
      have hx := List.getElem?_eq_getElem hlt
      have hy := List.getElem?_eq_getElem (show m < l.length by omega)
      generalize l[m + 1] = p at hx
      generalize l[m] = q at hy
      obtain ⟨t, r⟩ := p
      obtain ⟨t', r'⟩ := q
      obtain ⟨ad, rfl, _, hab, _, c1⟩ := (hv0.below hbr).at hx
      obtain ⟨_, e1, _, _, _, d1⟩ := (hv0.below hbr).at hy
      injection e1 with e1
      subst e1
      dsimp only at c1 d1
      have f0 : ∀ p : After wr, p.w.cell? ⟨(ad.add ((m + 1) * 2)).block, (ad.add ((m + 1) * 2)).off + 1, none⟩ = some (.int .i64 r) := after_cell (by show (ad.add ((m + 1) * 2)).block < _; rw [add_block]; omega) c1
      have f1 : ∀ p : After wr, p.w.cell? ⟨(ad.add (m * 2)).block, (ad.add (m * 2)).off + 1, none⟩ = some (.int .i64 r') := after_cell (by show (ad.add (m * 2)).block < _; rw [add_block]; omega) d1
      have i1 : IntKind.i64.wrap ((m : Int) + 1 - 1) = m := by rw [show (m : Int) + 1 - 1 = m by omega]; exact IntWalk.i64_in _ (by omega)
      have i7 : IntKind.i64.wrap (m : Int) = m := IntWalk.i64_in _ (by omega)
      have i2 : (0 : Int) ≤ (m : Int) := by omega
      have i3 : (m : Int) < (l.length : Int) := by omega
      have i4 : (m : Int) + 1 < (l.length : Int) := by omega
      have i5 : (0 : Int) ≤ (m : Int) + 1 := by omega
      have i6 : ((m : Int) + 1).toNat = m + 1 := by omega
      have i8 : IntKind.i64.wrap ((m : Int) + 1) = (m : Int) + 1 := IntWalk.i64_in _ (by omega)
      by_cases hr : r < r'
      · have hS := Lib.hid (stp_yes hy hx hr)
        clear hx hy c1 d1 hk0
        go_wp2
        (refine wp_region_after (by kernel_rfl) (by kernel_rfl) ?_; (repeat (go_big_quiet_step (fail))); refine wpQuiet_nil ?_; intro wq hw0; obtain ⟨⟨wq0, hbq⟩, hw1⟩ := hw0; subst hw1; (try dsimp only))
        have zq := hbq.size
        have HOq := Lib.hid (own_below HO.out hbq)
        clear f0 f1
        go_wp2_with (at_builtin; refine append_intG _ rfl _ _ rfl w.heap.size _ (stp l (m + 1)) rfl (World.ownsRow.alloc HOq.out _) ⟨wq.heap.size, 0, none⟩ (((m + 1 : Nat) : Int)) rfl (cell_one_new _ _ _) ?_ ?_ ?_; (focus omega); (focus go_size); intro v3 w3 hown3 hb3)
        go_roundw
        case rel => exact ⟨m + 1 + 1, Lib.hid (by omega), by go_num, by rw [hS.out]; exact hown3, (hbr.trans (hbq.mono hbz)).trans (((Below.refl _ _).alloc (by omega) _).trans hb3)⟩
        case measure => simp [intOf]; omega
      · have hS := Lib.hid (stp_no hy hx hr)
        clear hx hy c1 d1 hk0
        go_wp2
        (refine wp_region_after (by kernel_rfl) (by kernel_rfl) ?_; (repeat (go_big_quiet_step (fail))); refine wpQuiet_nil ?_; intro wq hw0; obtain ⟨⟨wq0, hbq⟩, hw1⟩ := hw0; subst hw1; (try dsimp only))
        have zq := hbq.size
        have HOq := Lib.hid (own_below HO.out hbq)
        clear f0 f1
        go_wp2
        go_roundw
        case rel => exact ⟨m + 1 + 1, Lib.hid (by omega), by go_num, by rw [hS.out]; exact HOq.out, hbr.trans (hbq.mono hbz)⟩
        case measure => simp [intOf]; omega
    · have hE : stp l k = R := by
        rw [← hR]
        rcases hk0 with h | h
        · rw [show k = l.length by omega]
        · rw [h.1, h.2]; rfl
      have hk9 : k ≤ 8796093022208 := by omega
      rw [hE] at HO hsl
      have hd : ¬ (k : Int) < l.length := by omega
      clear hk0
      go_wp2
      go_ret
      exact ⟨_, rfl, RdI.of_own HO.out (by omega), hbr⟩

set_option maxRecDepth 100000 in
set_option maxHeartbeats 1600000 in
theorem rSteps_any (v : Value) (l : List (Int × Int)) (w : World) (L : Nat) (hv : RdP w L w.heap.size v l) (hbig : l.length ≤ 8796093022208) :
    Calls Try.prog 21 #[v] w (RetInts w (stp l l.length)) := by
  have hv0 := hv
  obtain ⟨A, c, rfl, hlen, _⟩ := hv
  generalize hR : stp l l.length = R
  go_enter Try.func21, Try.ntmps21
  go_wp2
  go_loopw [3, 4] (fun o i wr => ∃ k : Nat, Hid ((1 ≤ k ∧ k ≤ l.length) ∨ (k = 1 ∧ l.length = 0)) ∧ i = .int .i64 k ∧ wr.ownsRow w.heap.size 3 1 o (stp l k).length (intsV (stp l k)) ∧ Below w.heap.size w wr) (fun _ i _ => l.length - (intOf i).toNat)
  case atStart => exact ⟨1, Lib.hid (by omega), rfl, own_nilI _ _, Below.refl _ _⟩
  case round =>
    obtain ⟨k, hk, rfl, hown, hbr⟩ := hrel
    have hbz := hbr.size
    have HO := Lib.hid hown
    have hsl := stp_len l k
    clear hown
    have hk0 := hk.out
    by_cases hlt : k < l.length
    · obtain ⟨m, rfl⟩ : ∃ m, k = m + 1 := ⟨k - 1, by omega⟩
      have hx := List.getElem?_eq_getElem hlt
      have hy := List.getElem?_eq_getElem (show m < l.length by omega)
      generalize l[m + 1] = p at hx
      generalize l[m] = q at hy
      obtain ⟨t, r⟩ := p
      obtain ⟨t', r'⟩ := q
      obtain ⟨ad, rfl, _, hab, _, c1⟩ := (hv0.below hbr).at hx
      obtain ⟨_, e1, _, _, _, d1⟩ := (hv0.below hbr).at hy
      injection e1 with e1
      subst e1
      dsimp only at c1 d1
      have f0 : ∀ p : After wr, p.w.cell? ⟨(ad.add ((m + 1) * 2)).block, (ad.add ((m + 1) * 2)).off + 1, none⟩ = some (.int .i64 r) := after_cell (by show (ad.add ((m + 1) * 2)).block < _; rw [add_block]; omega) c1
      have f1 : ∀ p : After wr, p.w.cell? ⟨(ad.add (m * 2)).block, (ad.add (m * 2)).off + 1, none⟩ = some (.int .i64 r') := after_cell (by show (ad.add (m * 2)).block < _; rw [add_block]; omega) d1
      have i1 : IntKind.i64.wrap ((m : Int) + 1 - 1) = m := by rw [show (m : Int) + 1 - 1 = m by omega]; exact IntWalk.i64_in _ (by omega)
      have i7 : IntKind.i64.wrap (m : Int) = m := IntWalk.i64_in _ (by omega)
      have i2 : (0 : Int) ≤ (m : Int) := by omega
      have i3 : (m : Int) < (l.length : Int) := by omega
      have i4 : (m : Int) + 1 < (l.length : Int) := by omega
      have i5 : (0 : Int) ≤ (m : Int) + 1 := by omega
      have i6 : ((m : Int) + 1).toNat = m + 1 := by omega
      have i8 : IntKind.i64.wrap ((m : Int) + 1) = (m : Int) + 1 := IntWalk.i64_in _ (by omega)
      by_cases hr : r < r'
      · have hS := Lib.hid (stp_yes hy hx hr)
        clear hx hy c1 d1 hk0
        go_wp2
        (refine wp_region_after (by kernel_rfl) (by kernel_rfl) ?_; (repeat (go_big_quiet_step (fail))); refine wpQuiet_nil ?_; intro wq hw0; obtain ⟨⟨wq0, hbq⟩, hw1⟩ := hw0; subst hw1; (try dsimp only))
        have zq := hbq.size
        have HOq := Lib.hid (own_below HO.out hbq)
        clear f0 f1
        go_wp2_with (at_builtin; refine append_intG _ rfl _ _ rfl w.heap.size _ (stp l (m + 1)) rfl (World.ownsRow.alloc HOq.out _) ⟨wq.heap.size, 0, none⟩ (((m + 1 : Nat) : Int)) rfl (cell_one_new _ _ _) ?_ ?_ ?_; (focus omega); (focus go_size); intro v3 w3 hown3 hb3)
        go_roundw
        case rel => exact ⟨m + 1 + 1, Lib.hid (by omega), by go_num, by rw [hS.out]; exact hown3, (hbr.trans (hbq.mono hbz)).trans (((Below.refl _ _).alloc (by omega) _).trans hb3)⟩
        case measure => simp [intOf]; omega
      · have hS := Lib.hid (stp_no hy hx hr)
        clear hx hy c1 d1 hk0
        go_wp2
        (refine wp_region_after (by kernel_rfl) (by kernel_rfl) ?_; (repeat (go_big_quiet_step (fail))); refine wpQuiet_nil ?_; intro wq hw0; obtain ⟨⟨wq0, hbq⟩, hw1⟩ := hw0; subst hw1; (try dsimp only))
        have zq := hbq.size
        have HOq := Lib.hid (own_below HO.out hbq)
        clear f0 f1
        go_wp2
        go_roundw
        case rel => exact ⟨m + 1 + 1, Lib.hid (by omega), by go_num, by rw [hS.out]; exact HOq.out, hbr.trans (hbq.mono hbz)⟩
        case measure => simp [intOf]; omega
    · have hE : stp l k = R := by
        rw [← hR]
        rcases hk0 with h | h
        · rw [show k = l.length by omega]
        · rw [h.1, h.2]; rfl
      have hk9 : k ≤ 8796093022208 := by omega
      rw [hE] at HO hsl
      have hd : ¬ (k : Int) < l.length := by omega
      clear hk0
      go_wp2
      go_ret
      exact ⟨_, rfl, RdI.of_own HO.out (by omega), hbr⟩

end Go.Proofs.Ytonhlejeedhpiaa
