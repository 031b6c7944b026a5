/-
  Helpers of the sum of pieces: the merge in all cases, the first list, and that the result is the reference's. Conditions: at most 10000 pieces.
-/
import Derived.Test.YtbdioabeopnfeaaStU1
import Derived.WalkKit
import Derived.WalkSpells
import Derived.WalkLawsBesides
import Derived.Deep.QuietTactic
import Derived.BigQuiet
import Derived.Handy
import Derived.Lib.Hide
namespace Go.Proofs.Ytbdioabeopnfeaa
open Go.RowKit

theorem RdB.kept {w w' : World} {L B : Nat} {v : Value} {l : List Bd} {row : Option Nat} (h : RdB w L B v l) (hB : B ≤ w.heap.size) (hg : w.grownBy w' row) (hne : v.ownBlock = none ∨ v.ownBlock ≠ row) : RdB w' L B v l := by
  obtain ⟨A, c, rfl, hl, hc⟩ := h
  refine ⟨A, c, rfl, hl, fun k n hk => ?_⟩
  obtain ⟨ad, rfl, h0, h2, h3, h4, h5⟩ := hc k n hk
  have hn : some ad.block ≠ row := by
    rcases hne with e | e
    · cases e
    · exact e
  have g := fun j => World.grownBy.cell_far hg (ad.add j) (by rw [add_block]; omega) (by rw [add_block]; exact hn)
  exact ⟨ad, rfl, h0, h2, (g _).trans h3, (g _).trans h4, (g _).trans h5⟩
set_option maxHeartbeats 800000 in
theorem constant_own (n : Int) (w : World) : Calls Try.prog 47 #[.int .i64 n] w fun e w' => ∃ v, e = .returned v ∧ w'.ownsRow w.heap.size 48 2 v [((0 : Int), n)].length (flatP [(0, n)]) ∧ Below w.heap.size w w' := by
  have hr := World.ownsRow_lit (e := 48) (size := 2) w #[.int .i64 0, .int .i64 n] 1 (Nat.le_refl _) (by unfold maxLen; omega) rfl
  go_enter Try.func47, Try.ntmps47
  go_wp2
  go_ret
  exact ⟨_, rfl, hr, by (repeat' (first | (with_reducible exact Below.refl _ _) | (with_reducible assumption) | (with_reducible refine Below.alloc ?_ ?_ _) | (with_reducible refine Below.drew ?_) | (with_reducible refine Below.setCell ?_ ?_ _) | (with_reducible refine Below.trans ?_ (Below.mono (by assumption) ?_)) | go_size))⟩
set_option maxRecDepth 100000 in
set_option maxHeartbeats 1600000 in
theorem mergeC_nil (Ab : Option Addr) (ca cb hr hv h0 : Nat) (w : World) (v0 : Value) (hb : BoxC w hr hv h0 0 v0 [(0, 0)]) (x y z : Value) :
    Calls Try.prog 48 #[.slice none 0 ca, .slice Ab 0 cb, x, y, z] w (RetMC w hr hv h0 [(0, 0)]) := by
  have HB := Lib.hid hb
  clear hb
  go_enter Try.func48, Try.ntmps48
  go_wp2
  go_loopw [0, 1] (fun a b wr => a = .slice none 0 ca ∧ b = .slice Ab 0 cb ∧ wr = w) (fun _ _ _ => 0)
  case atStart => exact ⟨rfl, rfl, rfl⟩
  case round =>
    obtain ⟨rfl, rfl, rfl⟩ := hrel
    go_wp2
    go_returns
    exact ⟨rfl, _, _, HB.out, Below.refl _ _⟩

theorem ends_sub {l : List Pc} (h : begsL l = []) : endsL l = [] := by
  rw [List.eq_nil_iff_forall_not_mem]
  intro c hc
  unfold endsL at hc
  obtain ⟨h1, h2⟩ := List.mem_filter.1 hc
  have h3 : c ∈ begsL l := List.mem_filter.2 ⟨h1, by simp at h2; exact h2.1⟩
  rw [h] at h3
  cases h3
theorem kS_map (κ : Pc → Int × Int) (key : Pc → Int) (h1 : ∀ c, (κ c).1 = key c) (h2 : ∀ c, (κ c).2 = c.2.2) (l : List Pc) (t : Int) : kS (l.map κ) t = keyS key l t := by
  unfold kS keyS
  rw [List.map_map]
  congr 1
  apply List.map_congr_left
  intro c _
  show (if (κ c).1 ≤ t then (κ c).2 else 0) = _
  rw [h1, h2]
theorem fC_ref {l D1 D2 : List Pc} (h1 : D1.Perm (begsL l)) (h2 : D2.Perm (endsL l)) (t : Int) (ht : t < 1099511627776) : fC (D1.map kBeg) (D2.map kEnd) t = refS l t := by
  unfold fC
  rw [refS_eq, sum_parts l t ht, kS_map kBeg (·.1) (fun _ => rfl) (fun _ => rfl), kS_map kEnd (·.2.1) (fun _ => rfl) (fun _ => rfl), keyS_perm h1, keyS_perm h2]
theorem mem_pts {l D1 D2 : List Pc} (h1 : D1.Perm (begsL l)) (h2 : D2.Perm (endsL l)) (x : Int) : x ∈ ptsS (D1.map kBeg) (D2.map kEnd) ↔ x < 1099511627776 ∧ ∃ c ∈ l, okPc c = true ∧ (x = c.1 ∨ x = c.2.1) := by
  rw [ptsS_mem]
  constructor
  · rintro (⟨p, hp, rfl⟩ | ⟨p, hp, rfl⟩)
    · obtain ⟨c, hc, rfl⟩ := List.mem_map.1 hp
      have hm := h1.mem_iff.1 hc
      obtain ⟨m1, m2⟩ := List.mem_filter.1 hm
      have hv := vld_iff.1 m2
      exact ⟨by show c.1 < _; omega, c, m1, m2, .inl rfl⟩
    · obtain ⟨c, hc, rfl⟩ := List.mem_map.1 hp
      have hm := h2.mem_iff.1 hc
      obtain ⟨m1, m2⟩ := List.mem_filter.1 hm
      simp at m2
      exact ⟨m2.2, c, m1, m2.1, .inr rfl⟩
  · rintro ⟨hx, c, hc, ho, rfl | rfl⟩
    · exact .inl ⟨kBeg c, List.mem_map.2 ⟨c, h1.mem_iff.2 (List.mem_filter.2 ⟨hc, ho⟩), rfl⟩, rfl⟩
    · exact .inr ⟨kEnd c, List.mem_map.2 ⟨c, h2.mem_iff.2 (List.mem_filter.2 ⟨hc, by simp [ho, hx]⟩), rfl⟩, rfl⟩
theorem ptsS_sorted (a b : List (Int × Int)) : (ptsS a b).Pairwise (· < ·) := by
  obtain ⟨a1, _⟩ := insAll_facts a [] .nil
  exact (insAll_facts b (insAll [] a) a1).1
theorem P0_sorted {P : List Int} (h : P.Pairwise (· < ·)) (hp : ∀ x ∈ P, 0 ≤ x) : (P0 P).Pairwise (· < ·) := by
  match P with
  | [] => simp [P0]
  | p :: P =>
    unfold P0
    dsimp only
    split
    · exact h
    · rename_i hne
      refine List.pairwise_cons.2 ⟨fun x hx => ?_, h⟩
      have h0 := hp p (by simp)
      rcases List.mem_cons.1 hx with rfl | hx
      · omega
      · have := (List.pairwise_cons.1 h).1 x hx; omega
theorem P0_iff {P : List Int} (x : Int) : x ∈ P0 P ↔ x = 0 ∨ x ∈ P := by
  refine ⟨P0_mem, ?_⟩
  match P with
  | [] => simp [P0]
  | p :: P =>
    unfold P0
    dsimp only
    split
    · rename_i h0
      rintro (h | h)
      · subst h; rw [h0]; simp
      · exact h
    · rintro (h | h)
      · subst h; simp
      · exact List.mem_cons_of_mem _ h
/-- The program's sum is the reference's. -/
theorem of_eq {l D1 D2 : List Pc} (h1 : D1.Perm (begsL l)) (h2 : D2.Perm (endsL l)) : resP (fC (D1.map kBeg) (D2.map kEnd)) (ptsS (D1.map kBeg) (D2.map kEnd)) = ofR l := by
  have hm := mem_pts h1 h2
  have hs := ptsS_sorted (D1.map kBeg) (D2.map kEnd)
  have hf := fun t ht => fC_ref h1 h2 t ht
  generalize fC (D1.map kBeg) (D2.map kEnd) = f at *
  generalize ptsS (D1.map kBeg) (D2.map kEnd) = P at *
  obtain ⟨r1, r2⟩ := ptsA_facts l [0] (by simp)
  have hP : P0 P = (ptsA [0] l).filter fun x => decide (x < 1099511627776) := by
    refine sorted_ext (P0_sorted hs fun x hx => ?_) (r1.sublist List.filter_sublist) fun x => ?_
    · obtain ⟨_, c, _, ho, h⟩ := (hm x).1 hx
      have hv := vld_iff.1 ho
      rcases h with rfl | rfl <;> omega
    · rw [P0_iff, List.mem_filter, r2 x, hm x]
      simp
      constructor
      · rintro (rfl | ⟨hx, a, b, c, hc, ho, he⟩)
        · exact ⟨.inl rfl, by decide⟩
        · exact ⟨.inr ⟨a, b, c, hc, ho, he⟩, hx⟩
      · rintro ⟨rfl | ⟨a, b, c, hc, ho, he⟩, hx⟩
        · exact .inl rfl
        · exact .inr ⟨hx, a, b, c, hc, ho, he⟩
  have hlt : ∀ x ∈ P0 P, x < 1099511627776 := fun x hx => by
    rw [hP] at hx
    exact of_decide_eq_true (List.mem_filter.1 hx).2
  unfold ofR
  rw [← hP]
  by_cases hn : P = []
  · subst hn
    have h0 : refS l 0 = 0 := by
      rw [← hf 0 (by decide)]
      rw [hf 0 (by decide), refS_eq, show sumT l 0 = 0 from ?_]
      · exact wr_zero
      · have : ∀ c ∈ l, okPc c = false := fun c hc => by
          cases ho : okPc c with
          | false => rfl
          | true =>
            have := (hm c.1).2 ⟨by have := vld_iff.1 ho; omega, c, hc, ho, .inl rfl⟩
            cases this
        clear hf r2 hP hm hlt r1 hs h1 h2
        induction l with
        | nil => rfl
        | cons c l ih =>
          rw [sumT_cons, ih (fun d hd => this d (List.mem_cons_of_mem _ hd)), if_neg]
          · rfl
          · have hc := this c (by simp)
            unfold okPc at hc
            unfold cnt
            rw [hc]
            simp
    show [(0, 0)] = [(0, refS l 0)]
    rw [h0]
  · rw [resP_ne hn]
    exact nrmV_congr fun t ht => hf t (hlt t ht)
theorem mergeC_all (u v : Value) (BL EL D1 D2 : List Pc) (hr hv h0 : Nat) (w : World) (v0 : Value) (hb : BoxC w hr hv h0 0 v0 [(0, 0)])
    (hu : (u = .slice none 0 0 ∧ BL.length = 0) ∨ ∃ g c, u = .slice (some ⟨g, 0, none⟩) BL.length c ∧ BL.length ≤ c) (hv2 : (v = .slice none 0 0 ∧ EL.length = 0) ∨ ∃ g c, v = .slice (some ⟨g, 0, none⟩) EL.length c ∧ EL.length ≤ c) (hsub : BL = [] → EL = [])
    (p1 : D1.Perm BL) (p2 : D2.Perm EL) (s1 : D1.Pairwise (fun x y => (kBeg x).1 ≤ (kBeg y).1)) (s2 : D2.Pairwise (fun x y => (kEnd x).1 ≤ (kEnd y).1)) (r1 : RdB w 0 h0 u D1) (r2 : RdB w 0 h0 v D2) (h1 : h0 ≤ hr) (h2 : h0 ≤ hv) (hne : hr ≠ hv)
    (in1 : ∀ c ∈ BL, 0 ≤ c.1 ∧ c.1 < 1099511627776) (in2 : ∀ c ∈ EL, 0 ≤ c.2.1 ∧ c.2.1 < 1099511627776) (la : BL.length ≤ 10000) (lb : EL.length ≤ 10000) :
    Calls Try.prog 48 #[u, v, .func (.func 44) #[] #[], .func (.func 45) #[] #[], .func (.func 49) #[] #[.pointer (some ⟨hv, 0, none⟩), .pointer (some ⟨hr, 0, none⟩)]] w (RetMC w hr hv h0 (resP (fC (D1.map kBeg) (D2.map kEnd)) (ptsS (D1.map kBeg) (D2.map kEnd)))) := by
  have l1 := p1.length_eq
  have l2 := p2.length_eq
  have sA : srt (D1.map kBeg) := List.pairwise_map.2 s1
  have sB : srt (D2.map kEnd) := List.pairwise_map.2 s2
  have hin : ∀ p ∈ D1.map kBeg ++ D2.map kEnd, 0 ≤ p.1 ∧ p.1 < 1099511627776 := fun p hp => by
    rcases List.mem_append.1 hp with hp | hp
    · obtain ⟨c, hc, rfl⟩ := List.mem_map.1 hp
      exact in1 c (p1.mem_iff.1 hc)
    · obtain ⟨c, hc, rfl⟩ := List.mem_map.1 hp
      exact in2 c (p2.mem_iff.1 hc)
  have hl : ∀ p ∈ D1.map kBeg ++ D2.map kEnd, p.1 < 9223372036854775807 := fun p hp => by have := hin p hp; omega
  have hpos : ∀ p ∈ D1.map kBeg ++ D2.map kEnd, 0 ≤ p.1 := fun p hp => (hin p hp).1
  rcases hu with ⟨rfl, hu0⟩ | ⟨g, c, rfl, hc⟩
  · have hBL := List.eq_nil_of_length_eq_zero hu0
    have hEL := hsub hBL
    subst hBL hEL
    obtain rfl := List.eq_nil_of_length_eq_zero l1
    obtain rfl := List.eq_nil_of_length_eq_zero l2
    rcases hv2 with ⟨rfl, _⟩ | ⟨g, c, rfl, hc⟩
    · exact mergeC_nil _ _ _ hr hv h0 w v0 hb _ _ _
    · exact mergeC_nil _ _ _ hr hv h0 w v0 hb _ _ _
  · rw [← l1] at hc r1 ⊢
    rcases hv2 with ⟨rfl, hv0⟩ | ⟨g2, c2, rfl, hc2⟩
    · obtain rfl := List.eq_nil_of_length_eq_zero (l2.trans hv0)
      exact mergeC_one ⟨g, 0, none⟩ c D1 hr hv h0 w v0 hb r1 hc h1 h2 hne sA sB hl hpos (by omega)
    · rw [← l2] at hc2 r2 ⊢
      exact mergeC_any ⟨g, 0, none⟩ ⟨g2, 0, none⟩ c c2 D1 D2 hr hv h0 w v0 hb r1 r2 hc hc2 h1 h2 hne sA sB hl hpos (by omega) (by omega)
theorem boxC_new (w2 w3 : World) (v : Value) (h : w3.ownsRow w2.heap.size 48 2 v [((0 : Int), (0 : Int))].length (flatP [(0, 0)])) :
    BoxC ((w3.alloc (.cells #[v] 22)).alloc (.cells #[.int .i64 0] 3)) w3.heap.size (w3.heap.size + 1) w2.heap.size 0 v [(0, 0)] := by
  have o1 := Own.new w3 22 #[v]
  have s1 : (w3.alloc (.cells #[v] 22)).heap.size = w3.heap.size + 1 := World.size_alloc _ _
  have o2 := Own.new (w3.alloc (.cells #[v] 22)) 3 #[.int .i64 0]
  rw [s1] at o2
  exact ⟨o1.alloc _, o2, (h.alloc _).alloc _⟩
theorem own_shape {w : World} {base e size : Nat} {v : Value} {n : Nat} {xs : List Value} (h : w.ownsRow base e size v n xs) : (v = .slice none 0 0 ∧ n = 0) ∨ ∃ g c, v = .slice (some ⟨g, 0, none⟩) n c ∧ n ≤ c := by
  rcases own_get h with h | ⟨g, c, hv, _, _, hc, _⟩
  · exact .inl h
  · exact .inr ⟨g, c, hv, hc⟩
end Go.Proofs.Ytbdioabeopnfeaa
