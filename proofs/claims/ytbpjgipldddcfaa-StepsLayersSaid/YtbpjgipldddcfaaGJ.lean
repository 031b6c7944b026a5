import Derived.Test.YtbpjgipldddcfaaGI
import Derived.WalkKit
import Derived.WalkSpells
import Derived.WalkLawsBesides
import Derived.Deep.QuietTactic
import Derived.BigQuiet
import Derived.Handy
import Derived.Lib.Hide
/-
  Contract of the program's At on valid step functions. Conditions: at most 100000 steps.
-/
namespace Go.Proofs.Ytbpjgipldddcfaa
set_option maxRecDepth 100000
set_option linter.unusedVariables false
set_option linter.unusedSimpArgs false
open Go.RowKit

set_option maxRecDepth 100000 in
set_option maxHeartbeats 1600000 in
theorem search_any (g : Nat) (cb : Array Value) (n R : Nat) (p : Nat → Bool) (w : World) (eg : ∀ args w, (callFunc g args).run Try.prog w = .ok (.enter g args) w) (hsz : n ≤ 1000000)
    (hf : ∀ (i : Nat) (W' : World), Below w.heap.size w W' → i < n → Calls Try.prog g (#[.int .i64 i] ++ cb) W' fun e w' => e = .returned (.bool (p i)) ∧ Below W'.heap.size W' w')
    (hR : R ≤ n) (h0 : ∀ t, t < R → p t = false) (h1 : ∀ t, R ≤ t → t < n → p t = true) :
    Calls Try.prog 37 #[.int .i64 n, .func (.func g) #[] cb] w fun e w' => e = .returned (.int .i64 R) ∧ Below w.heap.size w w' := by
  have HF := Lib.hid hf
  have HM := Lib.hid (And.intro h0 h1)
  clear hf h0 h1
  go_enter Try.func37, Try.ntmps37
  go_wp2
  go_loopw [5, 6] (fun x y wr => ∃ lo hi : Nat, x = .int .i64 lo ∧ y = .int .i64 hi ∧ lo ≤ R ∧ R ≤ hi ∧ hi ≤ n ∧ Below w.heap.size w wr) (fun x y _ => (intOf y).toNat - (intOf x).toNat)
  case atStart => exact ⟨0, n, rfl, rfl, by omega, hR, Nat.le_refl _, Below.refl _ _⟩
  case round =>
    obtain ⟨lo, hi, rfl, rfl, hlo, hhi, hn, hbr⟩ := hrel
    have hbz := hbr.size
    by_cases hlt : lo < hi
    · have hc := HF.out ((lo + hi) / 2) wr hbr (by omega)
      rw [show (((lo + hi) / 2 : Nat) : Int) = ((lo : Int) + (hi : Int)) / 2 by omega] at hc
      cases hp : p ((lo + hi) / 2) <;> rw [hp] at hc
      · have hk : (lo + hi) / 2 < R := by
          rcases Nat.lt_or_ge ((lo + hi) / 2) R with h | h
          · exact h
          · have := HM.out.2 _ h (by omega); rw [hp] at this; cases this
        clear hp
        go_wp2_with (go_at_fn g; refine hc.mono ?_; rintro e w' ⟨rfl, hb2⟩)
        go_roundw
        case rel => exact ⟨(lo + hi) / 2 + 1, hi, by rw [show ((lo : Int) + (hi : Int)) / 2 + 1 = (((lo + hi) / 2 + 1 : Nat) : Int) by omega], rfl, by omega, hhi, hn, hbr.trans (hb2.mono hbz)⟩
        case measure => simp [intOf]; omega
      · have hk : R ≤ (lo + hi) / 2 := by
          rcases Nat.lt_or_ge ((lo + hi) / 2) R with h | h
          · have := HM.out.1 _ h; rw [hp] at this; cases this
          · exact h
        clear hp
        go_wp2_with (go_at_fn g; refine hc.mono ?_; rintro e w' ⟨rfl, hb2⟩)
        go_roundw
        case rel => exact ⟨lo, (lo + hi) / 2, rfl, by rw [show ((lo : Int) + (hi : Int)) / 2 = (((lo + hi) / 2 : Nat) : Int) by omega], hlo, hk, by omega, hbr.trans (hb2.mono hbz)⟩
        case measure => simp [intOf]; omega
    · obtain rfl : hi = lo := by omega
      obtain rfl : R = hi := by omega
      go_wp2
      go_ret
      exact ⟨rfl, hbr⟩
theorem rch_get {l : List (Int × Int)} {t : Int} (h : srt l) : (∀ k p, l[k]? = some p → k < rch l t → p.1 ≤ t) ∧ (∀ k p, l[k]? = some p → rch l t ≤ k → t < p.1) := by
  obtain ⟨h1, h2⟩ := rch_parts t h
  refine ⟨fun k p hk hr => h1 p ?_, fun k p hk hr => h2 p ?_⟩
  · exact List.mem_of_getElem? (i := k) (by rw [List.getElem?_take, if_pos hr]; exact hk)
  · exact List.mem_of_getElem? (i := k - rch l t) (by rw [List.getElem?_drop, show rch l t + (k - rch l t) = k by omega]; exact hk)
theorem at_zero {l : List (Int × Int)} {t : Int} (h : srt l) (h0 : rch l t = 0) (ht : 0 ≤ t ∧ t < 1099511627776) : atV l t = 0 := by
  obtain ⟨_, h2⟩ := rch_parts t h
  rw [h0] at h2
  unfold atV
  rw [if_pos ht, val_done (i := 0) 0 (fun p hp => by simp at hp) h2]
  rfl
theorem at_last {l : List (Int × Int)} {t : Int} {k : Nat} {p : Int × Int} (h : srt l) (h0 : rch l t = k + 1) (hp : l[k]? = some p) (ht : 0 ≤ t ∧ t < 1099511627776) : atV l t = p.2 := by
  obtain ⟨h1, h2⟩ := rch_parts t h
  unfold atV
  rw [if_pos ht, val_done (i := rch l t) 0 h1 h2, h0]
  exact lastN_step 0 hp
set_option maxRecDepth 100000 in
set_option maxHeartbeats 1600000 in
theorem at1_any (v : Value) (l : List (Int × Int)) (t : Int) (g1 g2 : Nat) (w : World) (L i : Nat) (p : Int × Int) (hg1 : g1 < w.heap.size) (hg2 : g2 < w.heap.size) (c1 : w.cell? ⟨g1, 0, none⟩ = some v) (c2 : w.cell? ⟨g2, 0, none⟩ = some (.int .i64 t)) (hv : RdP w L w.heap.size v l) (hp : l[i]? = some p) :
    Calls Try.prog 38 #[.int .i64 i, .pointer (some ⟨g1, 0, none⟩), .pointer (some ⟨g2, 0, none⟩)] w fun e w' => e = .returned (.bool (decide (t < p.1))) ∧ Below w.heap.size w w' := by
  have hv0 := hv
  obtain ⟨A, c, rfl, _, _⟩ := hv
  obtain ⟨ad, rfl, _, hab, d0, d1⟩ := hv0.at hp
  have hil := (List.getElem?_eq_some_iff.1 hp).1
  have i2 : (0 : Int) ≤ (i : Int) := by omega
  have i3 : (i : Int) < (l.length : Int) := by omega
  obtain ⟨x, y⟩ := p
  dsimp only at d0 d1 ⊢
  clear hp
  have hk1 := fun (p : After w) => after_cell hg1 c1 p
  have hk2 := fun (p : After w) => after_cell hg2 c2 p
  have hd0 := fun (p : After w) => after_cell (by rw [add_block]; exact hab) d0 p
  have hd1 := fun (p : After w) => after_cell (a := ⟨(ad.add (i * 2)).block, (ad.add (i * 2)).off + 1, none⟩) (by show (ad.add (i * 2)).block < _; rw [add_block]; exact hab) d1 p
  clear c1 c2 d0 d1
  go_enter Try.func38, Try.ntmps38
  go_wp2
  (refine wp_region_after (by kernel_rfl) (by kernel_rfl) ?_; (repeat (go_big_quiet_step (fail))); refine wpQuiet_nil ?_; intro wq hw0; obtain ⟨⟨wq0, hbq⟩, hw1⟩ := hw0; subst hw1; (try dsimp only))
  go_wp2
  go_ret
  exact ⟨rfl, hbq⟩
theorem two_boxes (w : World) (x y : Value) (t1 t2 : TypeId) : Below w.heap.size w ((w.alloc (.cells #[x] t1)).alloc (.cells #[y] t2)) ∧ ((w.alloc (.cells #[x] t1)).alloc (.cells #[y] t2)).cell? ⟨w.heap.size, 0, none⟩ = some x ∧ ((w.alloc (.cells #[x] t1)).alloc (.cells #[y] t2)).cell? ⟨w.heap.size + 1, 0, none⟩ = some y ∧ w.heap.size + 1 < ((w.alloc (.cells #[x] t1)).alloc (.cells #[y] t2)).heap.size := by
  have o1 := Own.new w t1 #[x]
  have s1 : (w.alloc (.cells #[x] t1)).heap.size = w.heap.size + 1 := World.size_alloc _ _
  have o2 := Own.new (w.alloc (.cells #[x] t1)) t2 #[y]
  rw [s1] at o2
  refine ⟨by (repeat' (first | (with_reducible exact Below.refl _ _) | (with_reducible assumption) | (with_reducible refine Below.alloc ?_ ?_ _) | (with_reducible refine Below.drew ?_) | (with_reducible refine Below.setCell ?_ ?_ _) | (with_reducible refine Below.trans ?_ (Below.mono (by assumption) ?_)) | go_size)), (o1.alloc _).cell 0, o2.cell 0, by rw [World.size_alloc, s1]; omega⟩
set_option maxRecDepth 100000 in
set_option maxHeartbeats 1600000 in
theorem pAt_any (v : Value) (l : List (Int × Int)) (t : Int) (w : World) (L : Nat) (hv : RdP w L w.heap.size v l) (hs : srt l) (hlen : l.length ≤ 100000) :
    Calls Try.prog 21 #[v, .int .i64 t] w fun e w' => e = .returned (.int .i64 (atV l t)) ∧ Below w.heap.size w w' := by
  have eg : ∀ args w, (callFunc 38 args).run Try.prog w = .ok (.enter 38 args) w := enters_of Try.func38 (by kernel_rfl) rfl
  have HV := Lib.hid (fun (w' : World) (hb : Below w.heap.size w w') => hv.step hb (Nat.le_refl _))
  have hv0 := Lib.hid hv
  have rle := rch_le l t
  obtain ⟨A, c, rfl, _, _⟩ := hv
  by_cases ht : 0 ≤ t ∧ t < 1099511627776
  · have q1 : ¬ t < 0 := by omega
    have q2 : ¬ 1099511627776 ≤ t := by omega
    have HS : Hid (∀ W : World, Below w.heap.size w W → W.cell? ⟨w.heap.size, 0, none⟩ = some (.slice A l.length c) → W.cell? ⟨w.heap.size + 1, 0, none⟩ = some (.int .i64 t) → w.heap.size + 1 < W.heap.size → Calls Try.prog 37 #[.int .i64 l.length, .func (.func 38) #[] #[.pointer (some ⟨w.heap.size, 0, none⟩), .pointer (some ⟨w.heap.size + 1, 0, none⟩)]] W fun e w' => e = .returned (.int .i64 (rch l t)) ∧ Below W.heap.size W w') := by
      refine Lib.hid (fun W hb c1 c2 hz => ?_)
      obtain ⟨g1, g2⟩ := rch_get (t := t) hs
      refine search_any 38 #[.pointer (some ⟨w.heap.size, 0, none⟩), .pointer (some ⟨w.heap.size + 1, 0, none⟩)] l.length (rch l t) (fun i => decide (t < (l.getD i (0, 0)).1)) W eg (by omega) (fun i W' hb' hi => ?_) rle (fun i hi => ?_) (fun i hi hl => ?_)
      · have hp := List.getElem?_eq_getElem hi
        have e : l.getD i (0, 0) = l[i] := by rw [List.getD_eq_getElem?_getD, hp]; rfl
        rw [e]
        have hz' := hb'.size
        exact at1_any _ l t w.heap.size (w.heap.size + 1) W' L i l[i] (by omega) (by omega) ((hb'.cell (p := ⟨w.heap.size, 0, none⟩) (by show w.heap.size < _; omega)).trans c1) ((hb'.cell (p := ⟨w.heap.size + 1, 0, none⟩) (by show w.heap.size + 1 < _; omega)).trans c2) (HV.out W' (hb.trans (hb'.mono hb.size))) hp
      · have hp := List.getElem?_eq_getElem (show i < l.length by omega)
        have e : l.getD i (0, 0) = l[i] := by rw [List.getD_eq_getElem?_getD, hp]; rfl
        show decide (t < (l.getD i (0, 0)).1) = false
        rw [e]
        have := g1 i _ hp hi
        exact decide_eq_false (by omega)
      · have hp := List.getElem?_eq_getElem hl
        have e : l.getD i (0, 0) = l[i] := by rw [List.getD_eq_getElem?_getD, hp]; rfl
        show decide (t < (l.getD i (0, 0)).1) = true
        rw [e]
        exact decide_eq_true (g2 i _ hp hi)
    cases hr : rch l t with
    | zero =>
      have he := at_zero hs hr ht
      rw [hr] at HS
      rw [he]
      clear he hr rle hs ht HV hv0
      go_enter Try.func21, Try.ntmps21
      go_wp2_with fail
      obtain ⟨b1, c1, c2, c3⟩ := two_boxes w (.slice A l.length c) (.int .i64 t) 22 3
      refine (HS.out _ b1 c1 c2 c3).mono ?_
      rintro e w2 ⟨rfl, hb2⟩
      have hb3 := b1.trans (hb2.mono b1.size)
      clear HS c1 c2 c3 b1
      go_wp2
      go_ret
      exact ⟨rfl, hb3⟩
    | succ k =>
      have hk : k < l.length := by omega
      have hp := List.getElem?_eq_getElem hk
      generalize l[k] = p at hp
      obtain ⟨x, y⟩ := p
      have he := at_last hs hr hp ht
      obtain ⟨ad, rfl, _, hab, d0, d1⟩ := hv0.out.at hp
      rw [hr] at HS
      rw [he]
      clear he hr rle hs ht HV hv0 hp
      dsimp only at d0 d1 ⊢
      go_enter Try.func21, Try.ntmps21
      go_wp2_with fail
      obtain ⟨b1, c1, c2, c3⟩ := two_boxes w (.slice (some ad) l.length c) (.int .i64 t) 22 3
      refine (HS.out _ b1 c1 c2 c3).mono ?_
      rintro e w2 ⟨rfl, hb2⟩
      have hb3 := b1.trans (hb2.mono b1.size)
      have k1 := (hb2.cell (p := ⟨w.heap.size, 0, none⟩) (by show w.heap.size < _; omega)).trans c1
      have k2 := (hb3.cell (p := ad.add (k * 2)) (by rw [add_block]; exact hab)).trans d0
      have k3 := (hb3.cell (p := ⟨(ad.add (k * 2)).block, (ad.add (k * 2)).off + 1, none⟩) (by show (ad.add (k * 2)).block < _; rw [add_block]; exact hab)).trans d1
      have i1 : ¬ (((k + 1 : Nat) : Int) = 0) := by omega
      have i2 : ((k + 1 : Nat) : Int) - 1 = (k : Int) := by omega
      have i3 : (k : Int) < (l.length : Int) := by omega
      have i4 : (0 : Int) ≤ (k : Int) := by omega
      clear HS c1 c2 c3 b1 d0 d1
      go_wp2
      go_ret
      exact ⟨rfl, hb3⟩
  · have he : atV l t = 0 := by unfold atV; rw [if_neg ht]
    rw [he]
    clear he HV hv0 hs
    by_cases q1 : t < 0
    · go_enter Try.func21, Try.ntmps21
      go_wp2
      go_ret
      refine ⟨rfl, ?_⟩
      (repeat' (first | (with_reducible exact Below.refl _ _) | (with_reducible assumption) | (with_reducible refine Below.alloc ?_ ?_ _) | (with_reducible refine Below.drew ?_) | (with_reducible refine Below.setCell ?_ ?_ _) | (with_reducible refine Below.trans ?_ (Below.mono (by assumption) ?_)) | go_size))
    · have q2 : 1099511627776 ≤ t := by omega
      go_enter Try.func21, Try.ntmps21
      go_wp2
      go_ret
      refine ⟨rfl, ?_⟩
      (repeat' (first | (with_reducible exact Below.refl _ _) | (with_reducible assumption) | (with_reducible refine Below.alloc ?_ ?_ _) | (with_reducible refine Below.drew ?_) | (with_reducible refine Below.setCell ?_ ?_ _) | (with_reducible refine Below.trans ?_ (Below.mono (by assumption) ?_)) | go_size))
end Go.Proofs.Ytbpjgipldddcfaa
