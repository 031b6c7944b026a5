import Derived.Test.YtbpjgipldddcfaaGU1
import Derived.WalkKit
import Derived.WalkSpells
import Derived.WalkLawsBesides
import Derived.Deep.QuietTactic
import Derived.BigQuiet
import Derived.Handy
import Derived.Lib.Hide
/-
  Helpers of the sum of pieces: the merge in all cases, the first list, and that the result is the reference's. Conditions: at most 10000 pieces.
-/
namespace Go.Proofs.Ytbpjgipldddcfaa
set_option maxRecDepth 100000
set_option linter.unusedVariables false
set_option linter.unusedSimpArgs false
open Go.RowKit

theorem RdB.kept {w w' : World} {L B : Nat} {v : Value} {l : List Bd} {row : Option Nat} (h : RdB w L B v l) (hB : B ≤ w.heap.size) (hg : w.grownBy w' row) (hne : v.ownBlock = none ∨ v.ownBlock ≠ row) : RdB w' L B v l := by
  obtain ⟨A, c, rfl, hl, hc⟩ := h
  refine ⟨A, c, rfl, hl, fun k n hk => ?_⟩
  obtain ⟨ad, rfl, h0, h2, h3, h4, h5⟩ := hc k n hk
  have hn : some ad.block ≠ row := by
    rcases hne with e | e
    · cases e
    · exact e
  have g := fun j => World.grownBy.cell_far hg (ad.add j) (by rw [add_block]; omega) (by rw [add_block]; exact hn)
  exact ⟨ad, rfl, h0, h2, (g _).trans h3, (g _).trans h4, (g _).trans h5⟩
set_option maxHeartbeats 800000 in
theorem constant_own (n : Int) (w : World) : Calls Try.prog 36 #[.int .i64 n] w fun e w' => ∃ v, e = .returned v ∧ w'.ownsRow w.heap.size 37 2 v [((0 : Int), n)].length (flatP [(0, n)]) ∧ Below w.heap.size w w' := by
  have hr := World.ownsRow_lit (e := 37) (size := 2) w #[.int .i64 0, .int .i64 n] 1 (Nat.le_refl _) (by unfold maxLen; omega) rfl
  go_enter Try.func36, Try.ntmps36
  go_wp2
  go_ret
  exact ⟨_, rfl, hr, by (repeat' (first | (with_reducible exact Below.refl _ _) | (with_reducible assumption) | (with_reducible refine Below.alloc ?_ ?_ _) | (with_reducible refine Below.drew ?_) | (with_reducible refine Below.setCell ?_ ?_ _) | (with_reducible refine Below.trans ?_ (Below.mono (by assumption) ?_)) | go_size))⟩
set_option maxRecDepth 100000 in
set_option maxHeartbeats 1600000 in
theorem mergeC_nil (Ab : Option Addr) (ca cb hr hv h0 : Nat) (w : World) (v0 : Value) (hb : BoxC w hr hv h0 0 v0 [(0, 0)]) (x y z : Value) :
    Calls Try.prog 50 #[.slice none 0 ca, .slice Ab 0 cb, x, y, z] w (RetMC w hr hv h0 [(0, 0)]) := by
  have HB := Lib.hid hb
  clear hb
  go_enter Try.func50, Try.ntmps50
  go_wp2
  go_loopw [0, 1] (fun a b wr => a = .slice none 0 ca ∧ b = .slice Ab 0 cb ∧ wr = w) (fun _ _ _ => 0)
  case atStart => exact ⟨rfl, rfl, rfl⟩
  case round =>
    obtain ⟨rfl, rfl, rfl⟩ := hrel
    go_wp2
    go_returns
    exact ⟨rfl, _, _, HB.out, Below.refl _ _⟩

theorem ends_sub {l : List Pc} (h : begsL l = []) : endsL l = [] := by
  rw [List.eq_nil_iff_forall_not_mem]
  intro c hc
  unfold endsL at hc
  obtain ⟨h1, h2⟩ := List.mem_filter.1 hc
  have h3 : c ∈ begsL l := List.mem_filter.2 ⟨h1, by simp at h2; exact h2.1⟩
  rw [h] at h3
  cases h3
theorem kS_map (κ : Pc → Int × Int) (key : Pc → Int) (h1 : ∀ c, (κ c).1 = key c) (h2 : ∀ c, (κ c).2 = c.2.2) (l : List Pc) (t : Int) : kS (l.map κ) t = keyS key l t := by
  unfold kS keyS
  rw [List.map_map]
  congr 1
  apply List.map_congr_left
  intro c _
  show (if (κ c).1 ≤ t then (κ c).2 else 0) = _
  rw [h1, h2]
theorem fC_ref {l D1 D2 : List Pc} (h1 : D1.Perm (begsL l)) (h2 : D2.Perm (endsL l)) (t : Int) (ht : t < 1099511627776) : fC (D1.map kBeg) (D2.map kEnd) t = refS l t := by
  unfold fC
  rw [refS_eq, sum_parts l t ht, kS_map kBeg (·.1) (fun _ => rfl) (fun _ => rfl), kS_map kEnd (·.2.1) (fun _ => rfl) (fun _ => rfl), keyS_perm h1, keyS_perm h2]
theorem mem_pts {l D1 D2 : List Pc} (h1 : D1.Perm (begsL l)) (h2 : D2.Perm (endsL l)) (x : Int) : x ∈ ptsS (D1.map kBeg) (D2.map kEnd) ↔ x < 1099511627776 ∧ ∃ c ∈ l, okPc c = true ∧ (x = c.1 ∨ x = c.2.1) := by
  rw [ptsS_mem]
  constructor
  · rintro (⟨p, hp, rfl⟩ | ⟨p, hp, rfl⟩)
    · obtain ⟨c, hc, rfl⟩ := List.mem_map.1 hp
      have hm := h1.mem_iff.1 hc
      obtain ⟨m1, m2⟩ := List.mem_filter.1 hm
      have hv := vld_iff.1 m2
      exact ⟨by show c.1 < _; omega, c, m1, m2, .inl rfl⟩
    · obtain ⟨c, hc, rfl⟩ := List.mem_map.1 hp
      have hm := h2.mem_iff.1 hc
      obtain ⟨m1, m2⟩ := List.mem_filter.1 hm
      simp at m2
      exact ⟨m2.2, c, m1, m2.1, .inr rfl⟩
  · rintro ⟨hx, c, hc, ho, rfl | rfl⟩
    · exact .inl ⟨kBeg c, List.mem_map.2 ⟨c, h1.mem_iff.2 (List.mem_filter.2 ⟨hc, ho⟩), rfl⟩, rfl⟩
    · exact .inr ⟨kEnd c, List.mem_map.2 ⟨c, h2.mem_iff.2 (List.mem_filter.2 ⟨hc, by simp [ho, hx]⟩), rfl⟩, rfl⟩
theorem ptsS_sorted (a b : List (Int × Int)) : (ptsS a b).Pairwise (· < ·) := by
  obtain ⟨a1, _⟩ := insAll_facts a [] .nil
  exact (insAll_facts b (insAll [] a) a1).1
theorem P0_sorted {P : List Int} (h : P.Pairwise (· < ·)) (hp : ∀ x ∈ P, 0 ≤ x) : (P0 P).Pairwise (· < ·) := by
  match P with
  | [] => simp [P0]
  | p :: P =>
    unfold P0
    dsimp only
    split
    · exact h
    · rename_i hne
      refine List.pairwise_cons.2 ⟨fun x hx => ?_, h⟩
      have h0 := hp p (by simp)
      rcases List.mem_cons.1 hx with rfl | hx
      · omega
      · have := (List.pairwise_cons.1 h).1 x hx; omega
theorem P0_iff {P : List Int} (x : Int) : x ∈ P0 P ↔ x = 0 ∨ x ∈ P := by
  refine ⟨P0_mem, ?_⟩
  match P with
  | [] => simp [P0]
  | p :: P =>
    unfold P0
    dsimp only
    split
    · rename_i h0
      rintro (h | h)
      · subst h; rw [h0]; simp
      · exact h
    · rintro (h | h)
      · subst h; simp
      · exact List.mem_cons_of_mem _ h
/-- The program's sum is the reference's. -/
theorem of_eq {l D1 D2 : List Pc} (h1 : D1.Perm (begsL l)) (h2 : D2.Perm (endsL l)) : resP (fC (D1.map kBeg) (D2.map kEnd)) (ptsS (D1.map kBeg) (D2.map kEnd)) = ofR l := by
  have hm := mem_pts h1 h2
  have hs := ptsS_sorted (D1.map kBeg) (D2.map kEnd)
  have hf := fun t ht => fC_ref h1 h2 t ht
  generalize fC (D1.map kBeg) (D2.map kEnd) = f at *
  generalize ptsS (D1.map kBeg) (D2.map kEnd) = P at *
  obtain ⟨r1, r2⟩ := ptsA_facts l [0] (by simp)
  have hP : P0 P = (ptsA [0] l).filter fun x => decide (x < 1099511627776) := by
    refine sorted_ext (P0_sorted hs fun x hx => ?_) (r1.sublist List.filter_sublist) fun x => ?_
    · obtain ⟨_, c, _, ho, h⟩ := (hm x).1 hx
      have hv := vld_iff.1 ho
      rcases h with rfl | rfl <;> omega
    · rw [P0_iff, List.mem_filter, r2 x, hm x]
      simp
      constructor
      · rintro (rfl | ⟨hx, a, b, c, hc, ho, he⟩)
        · exact ⟨.inl rfl, by decide⟩
        · exact ⟨.inr ⟨a, b, c, hc, ho, he⟩, hx⟩
      · rintro ⟨rfl | ⟨a, b, c, hc, ho, he⟩, hx⟩
        · exact .inl rfl
        · exact .inr ⟨hx, a, b, c, hc, ho, he⟩
  have hlt : ∀ x ∈ P0 P, x < 1099511627776 := fun x hx => by
    rw [hP] at hx
    exact of_decide_eq_true (List.mem_filter.1 hx).2
  unfold ofR
  rw [← hP]
  by_cases hn : P = []
  · subst hn
    have h0 : refS l 0 = 0 := by
      rw [← hf 0 (by decide)]
      rw [hf 0 (by decide), refS_eq, show sumT l 0 = 0 from ?_]
      · exact wr_zero
      · have : ∀ c ∈ l, okPc c = false := fun c hc => by
          cases ho : okPc c with
          | false => rfl
          | true =>
            have := (hm c.1).2 ⟨by have := vld_iff.1 ho; omega, c, hc, ho, .inl rfl⟩
            cases this
        clear hf r2 hP hm hlt r1 hs h1 h2
        induction l with
        | nil => rfl
        | cons c l ih =>
          rw [sumT_cons, ih (fun d hd => this d (List.mem_cons_of_mem _ hd)), if_neg]
          · rfl
          · have hc := this c (by simp)
            unfold okPc at hc
            unfold cnt
            rw [hc]
            simp
    show [(0, 0)] = [(0, refS l 0)]
    rw [h0]
  · rw [resP_ne hn]
    exact nrmV_congr fun t ht => hf t (hlt t ht)
theorem mergeC_all (u v : Value) (BL EL D1 D2 : List Pc) (hr hv h0 : Nat) (w : World) (v0 : Value) (hb : BoxC w hr hv h0 0 v0 [(0, 0)])
    (hu : (u = .slice none 0 0 ∧ BL.length = 0) ∨ ∃ g c, u = .slice (some ⟨g, 0, none⟩) BL.length c ∧ BL.length ≤ c) (hv2 : (v = .slice none 0 0 ∧ EL.length = 0) ∨ ∃ g c, v = .slice (some ⟨g, 0, none⟩) EL.length c ∧ EL.length ≤ c) (hsub : BL = [] → EL = [])
    (p1 : D1.Perm BL) (p2 : D2.Perm EL) (s1 : D1.Pairwise (fun x y => (kBeg x).1 ≤ (kBeg y).1)) (s2 : D2.Pairwise (fun x y => (kEnd x).1 ≤ (kEnd y).1)) (r1 : RdB w 0 h0 u D1) (r2 : RdB w 0 h0 v D2) (h1 : h0 ≤ hr) (h2 : h0 ≤ hv) (hne : hr ≠ hv)
    (in1 : ∀ c ∈ BL, 0 ≤ c.1 ∧ c.1 < 1099511627776) (in2 : ∀ c ∈ EL, 0 ≤ c.2.1 ∧ c.2.1 < 1099511627776) (la : BL.length ≤ 10000) (lb : EL.length ≤ 10000) :
    Calls Try.prog 50 #[u, v, .func (.func 47) #[] #[], .func (.func 48) #[] #[], .func (.func 51) #[] #[.pointer (some ⟨hv, 0, none⟩), .pointer (some ⟨hr, 0, none⟩)]] w (RetMC w hr hv h0 (resP (fC (D1.map kBeg) (D2.map kEnd)) (ptsS (D1.map kBeg) (D2.map kEnd)))) := by
  have l1 := p1.length_eq
  have l2 := p2.length_eq
  have sA : srt (D1.map kBeg) := List.pairwise_map.2 s1
  have sB : srt (D2.map kEnd) := List.pairwise_map.2 s2
  have hin : ∀ p ∈ D1.map kBeg ++ D2.map kEnd, 0 ≤ p.1 ∧ p.1 < 1099511627776 := fun p hp => by
    rcases List.mem_append.1 hp with hp | hp
    · obtain ⟨c, hc, rfl⟩ := List.mem_map.1 hp
      exact in1 c (p1.mem_iff.1 hc)
    · obtain ⟨c, hc, rfl⟩ := List.mem_map.1 hp
      exact in2 c (p2.mem_iff.1 hc)
  have hl : ∀ p ∈ D1.map kBeg ++ D2.map kEnd, p.1 < 9223372036854775807 := fun p hp => by have := hin p hp; omega
  have hpos : ∀ p ∈ D1.map kBeg ++ D2.map kEnd, 0 ≤ p.1 := fun p hp => (hin p hp).1
  rcases hu with ⟨rfl, hu0⟩ | ⟨g, c, rfl, hc⟩
  · have hBL := List.eq_nil_of_length_eq_zero hu0
    have hEL := hsub hBL
    subst hBL hEL
    obtain rfl := List.eq_nil_of_length_eq_zero l1
    obtain rfl := List.eq_nil_of_length_eq_zero l2
    rcases hv2 with ⟨rfl, _⟩ | ⟨g, c, rfl, hc⟩
    · exact mergeC_nil _ _ _ hr hv h0 w v0 hb _ _ _
    · exact mergeC_nil _ _ _ hr hv h0 w v0 hb _ _ _
  · rw [← l1] at hc r1 ⊢
    rcases hv2 with ⟨rfl, hv0⟩ | ⟨g2, c2, rfl, hc2⟩
    · obtain rfl := List.eq_nil_of_length_eq_zero (l2.trans hv0)
      exact mergeC_one ⟨g, 0, none⟩ c D1 hr hv h0 w v0 hb r1 hc h1 h2 hne sA sB hl hpos (by omega)
    · rw [← l2] at hc2 r2 ⊢
      exact mergeC_any ⟨g, 0, none⟩ ⟨g2, 0, none⟩ c c2 D1 D2 hr hv h0 w v0 hb r1 r2 hc hc2 h1 h2 hne sA sB hl hpos (by omega) (by omega)
theorem boxC_new (w2 w3 : World) (v : Value) (h : w3.ownsRow w2.heap.size 37 2 v [((0 : Int), (0 : Int))].length (flatP [(0, 0)])) :
    BoxC ((w3.alloc (.cells #[v] 22)).alloc (.cells #[.int .i64 0] 3)) w3.heap.size (w3.heap.size + 1) w2.heap.size 0 v [(0, 0)] := by
  have o1 := Own.new w3 22 #[v]
  have s1 : (w3.alloc (.cells #[v] 22)).heap.size = w3.heap.size + 1 := World.size_alloc _ _
  have o2 := Own.new (w3.alloc (.cells #[v] 22)) 3 #[.int .i64 0]
  rw [s1] at o2
  exact ⟨o1.alloc _, o2, (h.alloc _).alloc _⟩
theorem own_shape {w : World} {base e size : Nat} {v : Value} {n : Nat} {xs : List Value} (h : w.ownsRow base e size v n xs) : (v = .slice none 0 0 ∧ n = 0) ∨ ∃ g c, v = .slice (some ⟨g, 0, none⟩) n c ∧ n ≤ c := by
  rcases own_get h with h | ⟨g, c, hv, _, _, hc, _⟩
  · exact .inl h
  · exact .inr ⟨g, c, hv, hc⟩
end Go.Proofs.Ytbpjgipldddcfaa
/-
  Contract of the program's sum of pieces. Conditions: at most 10000 pieces.
-/
namespace Go.Proofs.Ytbpjgipldddcfaa
set_option maxRecDepth 100000
set_option linter.unusedVariables false
set_option linter.unusedSimpArgs false
open Go.RowKit

def Apart2 (u v : Value) : Prop := ∀ g, u.ownBlock = some g → v.ownBlock ≠ some g
theorem Apart2.symm {u v : Value} (h : Apart2 u v) : Apart2 v u := fun g hg hu => h g hu hg
theorem Apart2.row {u v : Value} (h : Apart2 u v) : v.ownBlock = none ∨ v.ownBlock ≠ u.ownBlock := by
  cases hu : u.ownBlock with
  | none => cases hv : v.ownBlock with
    | none => exact .inl rfl
    | some g => right; intro e; cases e
  | some g => exact .inr (h g hu)
theorem apart_lies {u v : Value} {g H n c : Nat} (h : Apart2 u v) (hl : u.ownBlock = some g ∨ g = H) (hv : ∀ j, v.ownBlock = some j → j < H) : Apart2 (.slice (some ⟨g, 0, none⟩) n c) v := by
  intro j hj hvj
  have e : g = j := by simpa [Value.ownBlock] using hj
  subst e
  rcases hl with hl | hl
  · exact h g hl hvj
  · have := hv g hvj; omega
theorem box_far {W w3 : World} {row : Option Nat} {g j : Nat} {v : Value} (hg : W.grownBy w3 row) (hlt : g < W.heap.size) (hne : row ≠ some g) (hc : W.cell? ⟨g, j, none⟩ = some v) : w3.cell? ⟨g, j, none⟩ = some v :=
  (World.grownBy.cell_far hg ⟨g, j, none⟩ hlt (fun e => hne e.symm)).trans hc
theorem begs_step {l : List Pc} {k : Nat} {c : Pc} (h : l[k]? = some c) : begsL (l.take (k + 1)) = begsL (l.take k) ++ if okPc c then [c] else [] := by
  rw [take_snocC h]; unfold begsL; rw [List.filter_append, List.filter_cons]; simp
theorem ends_step {l : List Pc} {k : Nat} {c : Pc} (h : l[k]? = some c) : endsL (l.take (k + 1)) = endsL (l.take k) ++ if okPc c && decide (c.2.1 < 1099511627776) then [c] else [] := by
  rw [take_snocC h]; unfold endsL; rw [List.filter_append, List.filter_cons]; simp
theorem begs_len (l : List Pc) : (begsL l).length ≤ l.length := List.length_filter_le _ _
theorem ends_len (l : List Pc) : (endsL l).length ≤ l.length := List.length_filter_le _ _

set_option maxRecDepth 100000 in
set_option maxHeartbeats 6400000 in
theorem pStOf_any (v : Value) (l : List Pc) (w : World) (L : Nat) (hv : RdB w L w.heap.size v l) (hlen : l.length ≤ 10000) :
    Calls Try.prog 32 #[v] w (RetPers w (ofR l)) := by
  have HV := Lib.hid hv
  obtain ⟨A, c, rfl, hl63, _⟩ := hv
  go_enter Try.func32, Try.ntmps32
  go_wp2
  go_loopw [3, 4, 13] (fun b e i wr => ∃ k : Nat, k ≤ l.length ∧ i = .int .i64 k ∧ wr.ownsRow w.heap.size 44 3 b (begsL (l.take k)).length (flatB (begsL (l.take k))) ∧ wr.ownsRow w.heap.size 44 3 e (endsL (l.take k)).length (flatB (endsL (l.take k))) ∧ Apart2 b e ∧ Below w.heap.size w wr) (fun _ _ i _ => l.length - (intOf i).toNat)
  case atStart => exact ⟨0, by omega, rfl, own_nilC _ _, own_nilC _ _, (fun g h => by cases h), Below.refl _ _⟩
  case round =>
    obtain ⟨k, hk, rfl, hob, hoe, hap, hbr⟩ := hrel
    have hbz := hbr.size
    have OB := Lib.hid hob
    have OE := Lib.hid hoe
    have AP := Lib.hid hap
    clear hob hoe hap
    by_cases hlt : k < l.length
    · have hx := List.getElem?_eq_getElem hlt
      generalize l[k] = s at hx
      obtain ⟨x, y, z⟩ := s
      obtain ⟨ad, rfl, _, hab, c0, c1, c2⟩ := (HV.out.below hbr).atw hx
      have hSb := begs_step hx
      have hSe := ends_step hx
      have lb := begs_len (l.take k)
      have le := ends_len (l.take k)
      rw [List.length_take] at lb le
      have i2 : (0 : Int) ≤ (k : Int) := by omega
      have i3 : (k : Int) < (l.length : Int) := by omega
      clear hx
      generalize begsL (l.take k) = BL at *
      generalize endsL (l.take k) = EL at *
      have bW : Below wr.heap.size wr (wr.alloc (.cells #[.int .i64 x, .int .i64 y, .int .i64 z] 44)) := (Below.refl _ _).alloc (Nat.le_refl _) _
      have oW := Own.new wr 44 #[.int .i64 x, .int .i64 y, .int .i64 z]
      cases hV : vld x y
      · have hV2 : okPc (x, y, z) = false := hV
        rw [hV2] at hSb hSe
        have HSb : Hid (begsL (l.take (k + 1)) = BL) := Lib.hid (by rw [hSb]; simp)
        have HSe : Hid (endsL (l.take (k + 1)) = EL) := Lib.hid (by rw [hSe]; simp)
        clear hSb hSe hV2
        go_wp2_with (go_at_call 46; refine (valid_any _ _ _).mono ?_; rw [hV]; rintro e w2 ⟨rfl, hb2⟩)
        have B2 := bW.trans (hb2.mono bW.size)
        go_roundw
        case rel => exact ⟨k + 1, by omega, by go_num, by rw [HSb.out]; exact own_below OB.out B2, by rw [HSe.out]; exact own_below OE.out B2, AP.out, hbr.trans (B2.mono hbz)⟩
        case measure => simp [intOf]; omega
      · have hV2 : okPc (x, y, z) = true := hV
        rw [hV2] at hSb hSe
        have HSb : Hid (begsL (l.take (k + 1)) = BL ++ [(x, y, z)]) := Lib.hid (by rw [hSb]; simp)
        have HSe : Hid (endsL (l.take (k + 1)) = EL ++ if y < 1099511627776 then [(x, y, z)] else []) := Lib.hid (by rw [hSe]; simp)
        clear hSb hSe hV2
        have hn3 : ∀ j, u3.ownBlock = some j → j < wr.heap.size := fun j hj => (OB.out.lt j hj).2
        have hn4 : ∀ j, u4.ownBlock = some j → j < wr.heap.size := fun j hj => (OE.out.lt j hj).2
        by_cases hyF : y < 1099511627776
        · rw [if_pos hyF] at HSe
          go_wp2_with (first
            | (go_at_call 46; refine (valid_any _ _ _).mono ?_; rw [hV]; rintro e w2 ⟨rfl, hb2⟩; have B2 := bW.trans (hb2.mono bW.size); have z2 := B2.size; have zw2 : wr.heap.size < w2.heap.size := (by have := oW.lt; have := hb2.size; omega); have o2 := Own.below oW hb2 (by simp); have d0 : w2.cell? ⟨wr.heap.size, 0, none⟩ = some (.int .i64 x) := o2.cell 0; have d1 : w2.cell? ⟨wr.heap.size, 1, none⟩ = some (.int .i64 y) := o2.cell 1; have d2 : w2.cell? ⟨wr.heap.size, 2, none⟩ = some (.int .i64 z) := o2.cell 2; have OB2 := Lib.hid (own_below OB.out B2); have OE2 := Lib.hid (own_below OE.out B2); clear hb2 o2)
            | (at_builtin; refine append_pc _ rfl _ _ rfl w.heap.size _ BL rfl (World.ownsRow.alloc OB2.out _) ⟨w2.heap.size, 0, none⟩ (x, y, z) rfl (World.news_of_block (heap_alloc_new _ _)) ?_ ?_ _ rfl ?_; (focus omega); (focus go_size); intro g3 c3 w3 hown3 hb3 hg3 hlie3 hlt3; (try dsimp only [Act.eval, Act.put] at hg3 hlie3); have G3 : (w2.alloc (.cells #[.int .i64 x, .int .i64 y, .int .i64 z] 44)).grownBy w3 u3.ownBlock := hg3; have L3 : u3.ownBlock = some g3 ∨ g3 = (w2.alloc (.cells #[.int .i64 x, .int .i64 y, .int .i64 z] 44)).heap.size := hlie3; clear hg3 hlie3; have sA : (w2.alloc (.cells #[.int .i64 x, .int .i64 y, .int .i64 z] 44)).heap.size = w2.heap.size + 1 := World.size_alloc _ _; rw [sA] at L3; have bA : Below w2.heap.size w2 (w2.alloc (.cells #[.int .i64 x, .int .i64 y, .int .i64 z] 44)) := (Below.refl _ _).alloc (Nat.le_refl _) _; have e0 := box_far G3 (by rw [sA]; omega) (fun e => by have := hn3 _ e; omega) ((bA.cell (p := ⟨wr.heap.size, 0, none⟩) zw2).trans d0); have e1 := box_far G3 (by rw [sA]; omega) (fun e => by have := hn3 _ e; omega) ((bA.cell (p := ⟨wr.heap.size, 1, none⟩) zw2).trans d1); have e2 := box_far G3 (by rw [sA]; omega) (fun e => by have := hn3 _ e; omega) ((bA.cell (p := ⟨wr.heap.size, 2, none⟩) zw2).trans d2); have OE3 := Lib.hid ((World.ownsRow.alloc OE2.out (.cells #[.int .i64 x, .int .i64 y, .int .i64 z] 44)).kept G3 AP.out.row); have OB3 := Lib.hid hown3; have AP3 := Lib.hid (apart_lies (n := BL.length + 1) (c := c3) AP.out L3 (fun j hj => by have := hn4 j hj; omega)); have z3 : w2.heap.size + 1 ≤ w3.heap.size := (by have := G3.size; omega); have B3 : Below w.heap.size wr w3 := (B2.mono hbz).trans (((Below.refl _ _).alloc (by omega) _).trans hb3); clear G3 d0 d1 d2 bA sA hown3)
            | (at_builtin; refine append_pc _ rfl _ _ rfl w.heap.size _ EL rfl (World.ownsRow.alloc OE3.out _) ⟨w3.heap.size, 0, none⟩ (x, y, z) rfl (World.news_of_block (heap_alloc_new _ _)) ?_ ?_ _ rfl ?_; (focus omega); (focus go_size); intro g5 c5 w5 hown5 hb5 hg5 hlie5 hlt5; (try dsimp only [Act.eval, Act.put] at hg5 hlie5); have G5 : (w3.alloc (.cells #[.int .i64 x, .int .i64 y, .int .i64 z] 44)).grownBy w5 u4.ownBlock := hg5; have L5 : u4.ownBlock = some g5 ∨ g5 = (w3.alloc (.cells #[.int .i64 x, .int .i64 y, .int .i64 z] 44)).heap.size := hlie5; clear hg5 hlie5; have sA : (w3.alloc (.cells #[.int .i64 x, .int .i64 y, .int .i64 z] 44)).heap.size = w3.heap.size + 1 := World.size_alloc _ _; rw [sA] at L5; have OB5 := Lib.hid ((World.ownsRow.alloc OB3.out (.cells #[.int .i64 x, .int .i64 y, .int .i64 z] 44)).kept G5 AP3.out.symm.row); have AP5 := Lib.hid ((apart_lies (n := EL.length + 1) (c := c5) AP3.out.symm L5 (fun j hj => by have e : g3 = j := (by simpa [Value.ownBlock] using hj); omega)).symm); have OE5 := Lib.hid hown5; clear hown5 G5))
          go_roundw
          case rel => exact ⟨k + 1, by omega, by go_num, by rw [HSb.out]; exact OB5.out, by rw [HSe.out]; exact OE5.out, AP5.out, hbr.trans (B3.trans (((Below.refl _ _).alloc (by omega) _).trans hb5))⟩
          case measure => simp [intOf]; omega
        · rw [if_neg hyF] at HSe
          go_wp2_with (first
            | (go_at_call 46; refine (valid_any _ _ _).mono ?_; rw [hV]; rintro e w2 ⟨rfl, hb2⟩; have B2 := bW.trans (hb2.mono bW.size); have z2 := B2.size; have zw2 : wr.heap.size < w2.heap.size := (by have := oW.lt; have := hb2.size; omega); have o2 := Own.below oW hb2 (by simp); have d0 : w2.cell? ⟨wr.heap.size, 0, none⟩ = some (.int .i64 x) := o2.cell 0; have d1 : w2.cell? ⟨wr.heap.size, 1, none⟩ = some (.int .i64 y) := o2.cell 1; have d2 : w2.cell? ⟨wr.heap.size, 2, none⟩ = some (.int .i64 z) := o2.cell 2; have OB2 := Lib.hid (own_below OB.out B2); have OE2 := Lib.hid (own_below OE.out B2); clear hb2 o2)
            | (at_builtin; refine append_pc _ rfl _ _ rfl w.heap.size _ BL rfl (World.ownsRow.alloc OB2.out _) ⟨w2.heap.size, 0, none⟩ (x, y, z) rfl (World.news_of_block (heap_alloc_new _ _)) ?_ ?_ _ rfl ?_; (focus omega); (focus go_size); intro g3 c3 w3 hown3 hb3 hg3 hlie3 hlt3; (try dsimp only [Act.eval, Act.put] at hg3 hlie3); have G3 : (w2.alloc (.cells #[.int .i64 x, .int .i64 y, .int .i64 z] 44)).grownBy w3 u3.ownBlock := hg3; have L3 : u3.ownBlock = some g3 ∨ g3 = (w2.alloc (.cells #[.int .i64 x, .int .i64 y, .int .i64 z] 44)).heap.size := hlie3; clear hg3 hlie3; have sA : (w2.alloc (.cells #[.int .i64 x, .int .i64 y, .int .i64 z] 44)).heap.size = w2.heap.size + 1 := World.size_alloc _ _; rw [sA] at L3; have bA : Below w2.heap.size w2 (w2.alloc (.cells #[.int .i64 x, .int .i64 y, .int .i64 z] 44)) := (Below.refl _ _).alloc (Nat.le_refl _) _; have e0 := box_far G3 (by rw [sA]; omega) (fun e => by have := hn3 _ e; omega) ((bA.cell (p := ⟨wr.heap.size, 0, none⟩) zw2).trans d0); have e1 := box_far G3 (by rw [sA]; omega) (fun e => by have := hn3 _ e; omega) ((bA.cell (p := ⟨wr.heap.size, 1, none⟩) zw2).trans d1); have e2 := box_far G3 (by rw [sA]; omega) (fun e => by have := hn3 _ e; omega) ((bA.cell (p := ⟨wr.heap.size, 2, none⟩) zw2).trans d2); have OE3 := Lib.hid ((World.ownsRow.alloc OE2.out (.cells #[.int .i64 x, .int .i64 y, .int .i64 z] 44)).kept G3 AP.out.row); have OB3 := Lib.hid hown3; have AP3 := Lib.hid (apart_lies (n := BL.length + 1) (c := c3) AP.out L3 (fun j hj => by have := hn4 j hj; omega)); have z3 : w2.heap.size + 1 ≤ w3.heap.size := (by have := G3.size; omega); have B3 : Below w.heap.size wr w3 := (B2.mono hbz).trans (((Below.refl _ _).alloc (by omega) _).trans hb3); clear G3 d0 d1 d2 bA sA hown3))
          go_roundw
          case rel => exact ⟨k + 1, by omega, by go_num, by rw [HSb.out]; exact OB3.out, by rw [HSe.out, List.append_nil]; exact OE3.out, AP3.out, hbr.trans B3⟩
          case measure => simp [intOf]; omega
    · have hkl : k = l.length := by omega
      subst hkl
      have hT : l.take l.length = l := List.take_length
      rw [hT] at OB OE
      have hd : ¬ ((l.length : Nat) : Int) < l.length := by omega
      have lb := begs_len l
      have le := ends_len l
      have eg1 : ∀ args w, (callFunc 47 args).run Try.prog w = .ok (.enter 47 args) w := enters_of Try.func47 (by kernel_rfl) rfl
      have eg2 : ∀ args w, (callFunc 48 args).run Try.prog w = .ok (.enter 48 args) w := enters_of Try.func48 (by kernel_rfl) rfl
      have HSub : Hid (begsL l = [] → endsL l = []) := Lib.hid ends_sub
      have HEq : Hid (∀ D1 D2 : List Pc, D1.Perm (begsL l) → D2.Perm (endsL l) → resP (fC (D1.map kBeg) (D2.map kEnd)) (ptsS (D1.map kBeg) (D2.map kEnd)) = ofR l) := Lib.hid (fun D1 D2 h1 h2 => of_eq h1 h2)
      have HIn : Hid ((∀ c ∈ begsL l, 0 ≤ c.1 ∧ c.1 < 1099511627776) ∧ (∀ c ∈ endsL l, 0 ≤ c.2.1 ∧ c.2.1 < 1099511627776)) := Lib.hid ⟨fun c hc => by
        obtain ⟨_, m2⟩ := List.mem_filter.1 hc
        have hv := vld_iff.1 m2
        omega, fun c hc => by
        obtain ⟨_, m2⟩ := List.mem_filter.1 hc
        simp at m2
        have hv := vld_iff.1 m2.1
        omega⟩
      have HofL : Hid ((ofR l).length ≤ 100000) := Lib.hid (by
        have h1 := nrmV_len (refS l) ((ptsA [0] l).filter fun x => decide (x < 1099511627776))
        have h2 := List.length_filter_le (fun x => decide (x < 1099511627776)) (ptsA [0] l)
        have h3 := ptsA_len [0] l
        unfold ofR
        simp at h3
        omega)
      generalize ofR l = R at *
      generalize begsL l = BL at *
      generalize endsL l = EL at *
      clear hk hlt hT
      have HS1 := Lib.hid (sortBy_any _ kBeg askG_beg eg1 u3 BL wr w.heap.size OB.out (by omega) hbz)
      obtain ⟨Au, nu, cu, hu3⟩ := own_slice OB.out
      obtain ⟨Ae, ne, ce, hu4⟩ := own_slice OE.out
      subst hu3 hu4
      go_wp2_with fail
      refine HS1.out.mono ?_
      intro e w1 hR
      unfold SortedC at hR
      obtain ⟨rfl, D1, hp1, hs1, hr1, hg1, hb1⟩ := hR
      have OE1 := Lib.hid (OE.out.kept hg1 AP.out.row)
      have F1 := Lib.hid (And.intro hp1 (And.intro hs1 hr1))
      have z1 := hb1.size
      have zz1 : wr.heap.size ≤ w1.heap.size := hg1.size
      have HS2 := Lib.hid (sortBy_any _ kEnd askG_end eg2 _ EL w1 w.heap.size OE1.out (by omega) (by omega))
      clear hp1 hs1 hr1 HS1
      go_wp2_with fail
      refine HS2.out.mono ?_
      intro e w2 hR
      unfold SortedC at hR
      obtain ⟨rfl, D2, hp2, hs2, hr2, hg2, hb2⟩ := hR
      have zz2 : w1.heap.size ≤ w2.heap.size := hg2.size
      have F2 := Lib.hid (And.intro hp2 (And.intro hs2 hr2))
      have R1 := Lib.hid ((F1.out.2.2.kept (Nat.le_refl _) hg2 AP.out.symm.row).more zz2 (Nat.zero_le _))
      have R2 := Lib.hid (hr2.more (Nat.le_refl w2.heap.size) (Nat.zero_le _))
      clear hp2 hs2 hr2 HS2
      go_wp2_with fail
      refine (constant_own 0 w2).mono ?_
      rintro e w3 ⟨v3, rfl, hown3, hb3⟩
      have zz3 := hb3.size
      have OB3 := Lib.hid hown3
      obtain ⟨A3, n3, c3, rfl⟩ := own_slice hown3
      clear hown3
      have b4 : Below w2.heap.size w2 ((w3.alloc (.cells #[.slice A3 n3 c3] 22)).alloc (.cells #[.int .i64 0] 3)) := hb3.trans (((Below.refl _ _).alloc zz3 _).alloc (by rw [World.size_alloc]; omega) _)
      have HM := Lib.hid (mergeC_all _ _ BL EL D1 D2 w3.heap.size (w3.heap.size + 1) w2.heap.size _ _ (boxC_new w2 w3 _ OB3.out) (own_shape OB.out) (own_shape OE.out) HSub.out F1.out.1 F2.out.1 F1.out.2.1 F2.out.2.1 (R1.out.below b4) (R2.out.below b4) zz3 (by omega) (by omega) HIn.out.1 HIn.out.2 (by omega) (by omega))
      rw [HEq.out D1 D2 F1.out.1 F2.out.1] at HM
      go_wp2_with fail
      refine HM.out.mono ?_
      intro e w5 hR
      unfold RetMC at hR
      obtain ⟨rfl, nn, v5, HB5, hb5⟩ := hR
      have hfin : RdP w5 w.heap.size w5.heap.size v5 R := (RdP.of_ownS HB5.row (by have := HofL.out; omega)).more (Nat.le_refl _) (by omega)
      have q1 := HB5.res.cell 0
      have bfin : Below w.heap.size w w5 := (hbr.trans (hb1.trans hb2)).trans ((b4.trans hb5).mono (by omega))
      obtain ⟨A5, n5, c5, rfl⟩ := own_slice HB5.row
      have HF := Lib.hid (And.intro hfin bfin)
      clear HB5 hfin bfin HM
      go_wp2
      go_ret
      exact ⟨_, rfl, HF.out.1, HF.out.2⟩
end Go.Proofs.Ytbpjgipldddcfaa
