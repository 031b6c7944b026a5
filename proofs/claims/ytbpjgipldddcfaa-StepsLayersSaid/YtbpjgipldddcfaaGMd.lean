import Derived.Test.YtbpjgipldddcfaaGMc
import Derived.WalkKit
import Derived.WalkSpells
import Derived.WalkLawsBesides
import Derived.Deep.QuietTactic
import Derived.BigQuiet
import Derived.Handy
import Derived.Lib.Hide
/-
  Contracts of the reference's place and Levels. Conditions: valid step functions of at most 24 steps with values of at most 12.
-/
namespace Go.Proofs.Ytbpjgipldddcfaa
set_option maxRecDepth 100000
set_option linter.unusedVariables false
set_option linter.unusedSimpArgs false
open Go.RowKit

theorem plc_split (p : Int × Int) : ∀ {l : List (Int × Int)} {k : Nat}, k ≤ l.length → (∀ q ∈ l.take k, lexL q p = true) → (∀ q, l[k]? = some q → lexL q p = false) → plc p l = l.take k ++ p :: l.drop k
  | [], k, hk, _, _ => by simp at hk; subst hk; rfl
  | q :: l, 0, _, _, h2 => by
    have := h2 q rfl
    unfold plc
    rw [this]
    rfl
  | q :: l, k + 1, hk, h1, h2 => by
    unfold plc
    rw [h1 q (by simp), if_pos rfl, plc_split p (l := l) (k := k) (by simpa using hk) (fun r hr => h1 r (by rw [List.take_succ_cons]; exact List.mem_cons_of_mem _ hr)) (fun r hr => h2 r (by simpa using hr))]
    rfl
theorem plc_len (p : Int × Int) (l : List (Int × Int)) : (plc p l).length = l.length + 1 := (plc_perm p l).length_eq
theorem plcs_len (l acc : List (Int × Int)) : (plcs acc l).length = acc.length + l.length := by
  induction l generalizing acc with
  | nil => rfl
  | cons p l ih =>
    show (plcs (plc p acc) l).length = _
    rw [ih, plc_len, List.length_cons]
    omega
theorem atL_len (n : Int) (l : List (Int × Int)) : (atL n l).length ≤ l.length := by
  have h1 := foldl_rstep_len (hiT n l l.length) []
  have h2 := hiT_len n l l.length
  unfold atL
  simp at h1
  omega
theorem rlv_len (l : List (Int × Int)) : ∀ m, (rlv l m).length ≤ m * l.length
  | 0 => by simp [rlv]
  | m + 1 => by
    have h1 := rlv_len l m
    have h2 := atL_len ((m : Int) + 1) l
    rw [rlv, plcs_len, Nat.add_mul]
    omega
theorem atL_nil_up {l : List (Int × Int)} (hv : stV l = true) {n n' : Int} (h : atL n l = []) (hn : n ≤ n') : atL n' l = [] := by
  obtain ⟨_, b⟩ := atL_sp hv n
  obtain ⟨a1, b1⟩ := atL_sp hv n'
  refine sp_ext (z' := -1) a1 rfl fun t => ?_
  have hb := b t
  rw [h, memL_nil] at hb
  rw [b1 t, memL_nil, Bool.eq_false_iff]
  intro hc
  simp at hc hb
  have := hb hc.1.1 hc.1.2
  omega
theorem rlv_stop {l : List (Int × Int)} (hv : stV l = true) {m : Nat} (h : atL ((m : Int) + 1) l = []) : ∀ d, rlv l (m + d) = rlv l m
  | 0 => rfl
  | d + 1 => by
    have ih := rlv_stop hv h d
    have hn : atL (((m + d : Nat) : Int) + 1) l = [] := atL_nil_up hv h (by omega)
    show rlv l (m + d + 1) = _
    rw [rlv, hn, ih]
    rfl
set_option maxRecDepth 100000 in
set_option maxHeartbeats 6400000 in
theorem place_any (v : Value) (l : List (Int × Int)) (a b : Int) (w : World) (L : Nat) (hv : RdP w L w.heap.size v l) (hlen : l.length ≤ 100000) :
    Calls Try.prog 29 #[v, .agg #[.int .i64 a, .int .i64 b]] w (RetPers w (plc (a, b) l)) := by
  have HV := Lib.hid hv
  obtain ⟨A, c, rfl, hl63, hcap, _⟩ := hv
  have o0 := Own.new w 33 #[.int .i64 a, .int .i64 b]
  have b0 : Below w.heap.size w (w.alloc (.cells #[.int .i64 a, .int .i64 b] 33)) := (by (repeat' (first | (with_reducible exact Below.refl _ _) | (with_reducible assumption) | (with_reducible refine Below.alloc ?_ ?_ _) | (with_reducible refine Below.drew ?_) | (with_reducible refine Below.setCell ?_ ?_ _) | (with_reducible refine Below.trans ?_ (Below.mono (by assumption) ?_)) | go_size)))
  have z0 : (w.alloc (.cells #[.int .i64 a, .int .i64 b] 33)).heap.size = w.heap.size + 1 := World.size_alloc _ _
  have O0 := Lib.hid o0
  go_enter Try.func29, Try.ntmps29
  go_wp2
  generalize hpb : w.heap.size = pb at *
  generalize w.alloc (.cells #[.int .i64 a, .int .i64 b] 33) = W at *
  clear o0
  go_loopw [5, 6] (fun o i wr => ∃ k : Nat, k ≤ l.length ∧ i = .int .i64 k ∧ Hid (∀ q ∈ l.take k, lexL q (a, b) = true) ∧ wr.ownsRow W.heap.size 33 2 o (l.take k).length (flatP (l.take k)) ∧ Below W.heap.size W wr) (fun _ i _ => l.length - (intOf i).toNat)
  case atStart => exact ⟨0, by omega, rfl, Lib.hid (by simp), own_nilP _ _, Below.refl _ _⟩
  case round =>
    obtain ⟨k, hk, rfl, hall, hown, hbr⟩ := hrel
    have hbz := hbr.size
    have OR := Lib.hid hown
    clear hown
    have oB := O0.out.below hbr (by omega)
    have g0 : wr.cell? ⟨pb, 0, none⟩ = some (.int .i64 a) := oB.cell 0
    have g1 : wr.cell? ⟨pb, 1, none⟩ = some (.int .i64 b) := oB.cell 1
    have hpl : pb < wr.heap.size := by omega
    have hkb0 := fun (p : After wr) => after_cell (a := ⟨pb, 0, none⟩) hpl g0 p
    have hkb1 := fun (p : After wr) => after_cell (a := ⟨pb, 1, none⟩) hpl g1 p
    have htl : (l.take k).length ≤ 100000 := by rw [List.length_take]; omega
    have HVr := Lib.hid (HV.out.below (b0.trans (hbr.mono (by omega))))
    by_cases hlt : k < l.length
    · have hx := List.getElem?_eq_getElem hlt
      generalize l[k] = s at hx
      obtain ⟨x, y⟩ := s
      obtain ⟨ad, rfl, _, hab, c0, c1⟩ := HVr.out.at hx
      dsimp only at c0 c1
      have i2 : (0 : Int) ≤ (k : Int) := by omega
      have i3 : (k : Int) < (l.length : Int) := by omega
      have hadl : ad.block < wr.heap.size := by omega
      have hk0 := fun (p : After wr) => after_cell (by rw [add_block]; exact hadl) c0 p
      have hk1 := fun (p : After wr) => after_cell (a := ⟨(ad.add (k * 2)).block, (ad.add (k * 2)).off + 1, none⟩) (by show (ad.add (k * 2)).block < _; rw [add_block]; exact hadl) c1 p
      have HC := Lib.hid (fun w' => rcompare_any x y a b w')
      have hS := Lib.hid (take_snocP hx)
      cases hle : lexL (x, y) (a, b)
      · have hc : ¬ cmpP x y a b ≤ 0 := by unfold lexL at hle; simpa using hle
        have hE := Lib.hid (plc_split (a, b) hk hall.out (fun q hq => by rw [hx] at hq; cases hq; exact hle))
        clear hx
        generalize cmpP x y a b = cc at *
        go_wp2
        (refine wp_region_after (by kernel_rfl) (by kernel_rfl) ?_; (repeat (go_big_quiet_step ((go_at_call 44; exact calls_after (HC.out _))))); refine wpQuiet_nil ?_; intro wq hw0; obtain ⟨⟨wq0, hbq⟩, hw1⟩ := hw0; subst hw1; (try dsimp only))
        have RD := Lib.hid (HVr.out.below (hbq.mono (by omega)))
        have OQ := Lib.hid (own_below OR.out hbq)
        have zq := hbq.size
        have gq0 := (hbq.cell (p := ⟨pb, 0, none⟩) hpl).trans g0
        have gq1 := (hbq.cell (p := ⟨pb, 1, none⟩) hpl).trans g1
        have hTl : (l.take k).length ≤ 100000 := htl
        generalize l.take k = TL at *
        go_wp2_with (first
          | (at_builtin; refine append_per _ rfl _ _ rfl W.heap.size _ TL rfl (World.ownsRow.alloc OQ.out _) ⟨wq.heap.size, 0, none⟩ a b rfl (cell_two_new _ _ _ _) ?_ ?_ ?_; (focus omega); (focus go_size); intro v3 w3 hown3 hb3; have O3 := Lib.hid hown3; have b3 : Below W.heap.size wq w3 := (((Below.refl _ _).alloc (by omega) _).trans hb3); have R3 := Lib.hid (RD.out.below (b3.mono (by omega))); have z3 := b3.size; clear hown3)
          | (at_builtin; refine append_rdP _ rfl _ _ rfl W.heap.size _ (TL ++ [(a, b)]) rfl O3.out L pb _ (l.drop k) _ _ rfl (by first | exact RdP.drop R3.out k _ _ rfl (by omega) | exact RdP.dropIf R3.out hcap k _ _ rfl (by omega)) ?_ ?_ ?_; (focus (rw [List.length_append, List.length_drop]; simp only [List.length_cons, List.length_nil]; omega)); (focus omega); intro v4 w4 hown4 hb4))
        have z4 := hb4.size
        go_ret
        exact ⟨_, rfl, by rw [hpb, hE.out, show TL ++ (a, b) :: l.drop k = TL ++ [(a, b)] ++ l.drop k by simp]; exact (RdP.of_own hown4 (by rw [List.length_append, List.length_append, List.length_drop]; simp only [List.length_cons, List.length_nil]; omega)).more (Nat.le_refl _) (by omega), by rw [hpb]; exact (b0.trans (hbr.mono (by omega))).trans (((hbq.mono hbz).trans (b3.trans hb4)).mono (by omega))⟩
      · have hc : cmpP x y a b ≤ 0 := by unfold lexL at hle; simpa using hle
        have HA : Hid (∀ q ∈ l.take (k + 1), lexL q (a, b) = true) := Lib.hid (fun q hq => by
          rw [hS.out] at hq
          rcases List.mem_append.1 hq with hq | hq
          · exact hall.out q hq
          · simp at hq; subst hq; exact hle)
        clear hx
        generalize cmpP x y a b = cc at *
        go_wp2
        (refine wp_region_after (by kernel_rfl) (by kernel_rfl) ?_; (repeat (go_big_quiet_step ((go_at_call 44; exact calls_after (HC.out _))))); refine wpQuiet_nil ?_; intro wq hw0; obtain ⟨⟨wq0, hbq⟩, hw1⟩ := hw0; subst hw1; (try dsimp only))
        have OQ := Lib.hid (own_below OR.out hbq)
        have zq := hbq.size
        have d0 := (hbq.cell (p := ad.add (k * 2)) (by rw [add_block]; exact hadl)).trans c0
        have d1 := (hbq.cell (p := ⟨(ad.add (k * 2)).block, (ad.add (k * 2)).off + 1, none⟩) (by show (ad.add (k * 2)).block < _; rw [add_block]; exact hadl)).trans c1
        generalize l.take k = TL at *
        go_wp2_with (at_builtin; refine append_per _ rfl _ _ rfl W.heap.size _ TL rfl (World.ownsRow.alloc OQ.out _) ⟨wq.heap.size, 0, none⟩ x y rfl (cell_two_new _ _ _ _) ?_ ?_ ?_; (focus omega); (focus go_size); intro v3 w3 hown3 hb3)
        go_roundw
        case rel => exact ⟨k + 1, by omega, by go_num, HA, by rw [hS.out]; exact hown3, hbr.trans ((hbq.mono hbz).trans (((Below.refl _ _).alloc (by omega) _).trans hb3))⟩
        case measure => simp [intOf] <;> omega
    · have hkl : k = l.length := by omega
      have hE := Lib.hid (plc_split (a, b) hk hall.out (fun q hq => by rw [List.getElem?_eq_none (by omega)] at hq; cases hq))
      have hd : ¬ (k : Int) < (l.length : Int) := by omega
      go_wp2
      (refine wp_region_after (by kernel_rfl) (by kernel_rfl) ?_; (repeat (go_big_quiet_step (fail))); refine wpQuiet_nil ?_; intro wq hw0; obtain ⟨⟨wq0, hbq⟩, hw1⟩ := hw0; subst hw1; (try dsimp only))
      have RD := Lib.hid (HVr.out.below (hbq.mono (by omega)))
      have OQ := Lib.hid (own_below OR.out hbq)
      have zq := hbq.size
      have gq0 := (hbq.cell (p := ⟨pb, 0, none⟩) hpl).trans g0
      have gq1 := (hbq.cell (p := ⟨pb, 1, none⟩) hpl).trans g1
      have hTl : (l.take k).length ≤ 100000 := htl
      generalize l.take k = TL at *
      have hdn : l.drop k = [] := List.drop_eq_nil_of_le (by omega)
      cases A with
      | none =>
        go_wp2_with (first
          | (at_builtin; refine append_per _ rfl _ _ rfl W.heap.size _ TL rfl (World.ownsRow.alloc OQ.out _) ⟨wq.heap.size, 0, none⟩ a b rfl (cell_two_new _ _ _ _) ?_ ?_ ?_; (focus omega); (focus go_size); intro v3 w3 hown3 hb3; have O3 := Lib.hid hown3; have b3 : Below W.heap.size wq w3 := (((Below.refl _ _).alloc (by omega) _).trans hb3); have R3 := Lib.hid (RD.out.below (b3.mono (by omega))); have z3 := b3.size; clear hown3)
          | (at_builtin; refine append_rdP _ rfl _ _ rfl W.heap.size _ (TL ++ [(a, b)]) rfl O3.out L pb _ (l.drop k) _ _ rfl (by rw [hdn]; exact RdP.nil _ _ _ _ _) ?_ ?_ ?_; (focus (rw [List.length_append, List.length_drop]; simp only [List.length_cons, List.length_nil]; omega)); (focus omega); intro v4 w4 hown4 hb4))
        have z4 := hb4.size
        go_ret
        exact ⟨_, rfl, by rw [hpb, hE.out, show TL ++ (a, b) :: l.drop k = TL ++ [(a, b)] ++ l.drop k by simp]; exact (RdP.of_own hown4 (by rw [List.length_append, List.length_append, List.length_drop]; simp only [List.length_cons, List.length_nil]; omega)).more (Nat.le_refl _) (by omega), by rw [hpb]; exact (b0.trans (hbr.mono (by omega))).trans (((hbq.mono hbz).trans (b3.trans hb4)).mono (by omega))⟩
      | some ad =>
        go_wp2_with (first
          | (at_builtin; refine append_per _ rfl _ _ rfl W.heap.size _ TL rfl (World.ownsRow.alloc OQ.out _) ⟨wq.heap.size, 0, none⟩ a b rfl (cell_two_new _ _ _ _) ?_ ?_ ?_; (focus omega); (focus go_size); intro v3 w3 hown3 hb3; have O3 := Lib.hid hown3; have b3 : Below W.heap.size wq w3 := (((Below.refl _ _).alloc (by omega) _).trans hb3); have R3 := Lib.hid (RD.out.below (b3.mono (by omega))); have z3 := b3.size; clear hown3)
          | (at_builtin; refine append_rdP _ rfl _ _ rfl W.heap.size _ (TL ++ [(a, b)]) rfl O3.out L pb _ (l.drop k) _ _ rfl (by rw [hdn]; first | exact RdP.nil _ _ _ _ _ | (rw [show l.length - k = 0 by omega]; exact RdP.nil _ _ _ _ _)) ?_ ?_ ?_; (focus (rw [List.length_append, List.length_drop]; simp only [List.length_cons, List.length_nil]; omega)); (focus omega); intro v4 w4 hown4 hb4))
        all_goals have z4 := hb4.size
        all_goals go_ret
        all_goals exact ⟨_, rfl, by rw [hpb, hE.out, show TL ++ (a, b) :: l.drop k = TL ++ [(a, b)] ++ l.drop k by simp]; exact (RdP.of_own hown4 (by rw [List.length_append, List.length_append, List.length_drop]; simp only [List.length_cons, List.length_nil]; omega)).more (Nat.le_refl _) (by omega), by rw [hpb]; exact (b0.trans (hbr.mono (by omega))).trans (((hbq.mono hbz).trans (b3.trans hb4)).mono (by omega))⟩
set_option maxRecDepth 100000 in
set_option maxHeartbeats 6400000 in
theorem rLevels_any (v : Value) (l : List (Int × Int)) (w : World) (L : Nat) (hv : RdP w L w.heap.size v l) (hlen : l.length ≤ 24) (hst : stV l = true) (hcl : ∀ p ∈ l, p.2 ≤ 12) :
    Calls Try.prog 12 #[v] w (RetPers w (levL l)) := by
  have HV := Lib.hid hv
  have HK : Hid (rlv l 12 = levL l) := Lib.hid (rlv_levL hst (by decide) fun p hp => by have := hcl p hp; unfold cl; omega)
  have H12 : Hid (atL ((12 : Int) + 1) l = []) := Lib.hid (by
    obtain ⟨a, b⟩ := atL_sp hst ((12 : Int) + 1)
    refine sp_ext (z' := -1) a rfl fun t => ?_
    rw [b t, memL_nil, Bool.eq_false_iff]
    intro hc
    simp at hc
    have hle : ∀ (m : List (Int × Int)) (n : Int), n ≤ 12 → (∀ p ∈ m, p.2 ≤ 12) → valF n m t ≤ 12 := by
      intro m
      induction m with
      | nil => intro n hn _; exact hn
      | cons p m ih =>
        intro n hn hm
        rw [valF_cons]
        exact ih _ (by split <;> first | exact hm p (by simp) | exact hn) (fun q hq => hm q (List.mem_cons_of_mem _ hq))
    have := hle l 0 (by decide) hcl
    omega)
  have HStop : Hid (∀ m : Nat, m ≤ 12 → atL ((m : Int) + 1) l = [] → rlv l m = levL l) := Lib.hid (fun m hm h => by
    have := rlv_stop hst h (12 - m)
    rw [show m + (12 - m) = 12 by omega] at this
    rw [← this, HK.out])
  obtain ⟨A, c, rfl, hl63, hcap, _⟩ := hv
  have HLen := Lib.hid (rlv_len l)
  have HAl := Lib.hid (fun n => atL_len n l)
  go_enter Try.func12, Try.ntmps12
  go_wp2
  go_loopw [3, 4] (fun o i wr => ∃ m : Nat, m ≤ 12 ∧ i = .int .i64 ((m : Int) + 1) ∧ Hid (RdP wr w.heap.size wr.heap.size o (rlv l m)) ∧ Below w.heap.size w wr) (fun _ i _ => 20 - (intOf i).toNat)
  case atStart => exact ⟨0, by omega, rfl, Lib.hid (RdP.nil _ _ _ _ _), Below.refl _ _⟩
  case round =>
    obtain ⟨m, hm, rfl, hR, hbr⟩ := hrel
    have hbz := hbr.size
    have hlim : ((m : Int) + 1) ≤ 1048576 := by omega
    have hx := rAtLeast_any _ l ((m : Int) + 1) wr _ (HV.out.step hbr (Nat.le_refl _)) (by omega)
    have hst2 := HStop.out m hm
    have hR0 := hR.out
    obtain ⟨A2, c2, rfl, _, _⟩ := hR0
    have hrl := HLen.out m
    have hal := HAl.out ((m : Int) + 1)
    have h12 : m = 12 → atL ((m : Int) + 1) l = [] := fun h => by subst h; exact H12.out
    have HS : Hid (rlv l (m + 1) = plcs (rlv l m) (atL ((m : Int) + 1) l)) := Lib.hid rfl
    have hml : m * l.length ≤ 12 * 24 := Nat.mul_le_mul hm hlen
    generalize atL ((m : Int) + 1) l = S at *
    generalize rlv l m = RM at *
    by_cases hSe : S = []
    · have HE := Lib.hid (hst2 hSe)
      rw [hSe] at hx
      clear hst2 h12 hSe hal HS
      go_wp2_with fail
      refine hx.mono ?_
      rintro e w1 ⟨v1, rfl, hr1, hb1⟩
      obtain ⟨A1, c1, rfl, _, _⟩ := hr1
      have HR1 := Lib.hid (hR.out.step hb1 (Nat.le_refl _))
      go_wp2
      go_ret
      exact ⟨_, rfl, by rw [← HE.out]; exact HR1.out, hbr.trans (hb1.mono hbz)⟩
    · have hSn : S ≠ [] := hSe
      have hm11 : m < 12 := by
        rcases Nat.lt_or_ge m 12 with h | h
        · exact h
        · exact absurd (h12 (by omega)) hSn
      have hSl : ¬ ((S.length : Nat) : Int) = 0 := by
        intro h
        exact hSn (List.eq_nil_of_length_eq_zero (by omega))
      have hRM : RM.length ≤ 288 := by omega
      have hS24 : S.length ≤ 24 := by omega
      have hSl2 : (0 : Int) < (S.length : Int) := by omega
      clear hst2 h12 hSe hSn hrl hml hal hSl
      go_wp2_with fail
      refine hx.mono ?_
      rintro e w1 ⟨v1, rfl, hr1, hb1⟩
      have hn1 := Lib.hid hr1
      obtain ⟨A1, c1, rfl, _, _⟩ := hr1
      have HR1 := Lib.hid (hR.out.step hb1 (Nat.le_refl _))
      have z1 := hb1.size
      have B1 := hbr.trans (hb1.mono hbz)
      clear hR hbr hx hb1
      generalize hsn : S.length = sn at *
      have HSn := Lib.hid hsn
      clear hsn
      have hsn0 : ((sn : Int) == 0) = false := by simp; omega
      have B1h := B1
      clear B1
      go_wp2
      generalize w1 = W1 at *
      go_loopw [3, 6] (fun o i wx => ∃ j : Nat, j ≤ sn ∧ i = .int .i64 j ∧ Hid (RdP wx w.heap.size wx.heap.size o (plcs RM (S.take j))) ∧ Below W1.heap.size W1 wx) (fun _ i _ => sn - (intOf i).toNat)
      case atStart => exact ⟨0, by omega, rfl, HR1, Below.refl _ _⟩
      case round =>
        obtain ⟨j, hj, rfl, hP, hby⟩ := hrel
        have hyz := hby.size
        by_cases hjl : j < sn
        · have hjS : j < S.length := Nat.lt_of_lt_of_eq hjl HSn.out.symm
          have hx := List.getElem?_eq_getElem hjS
          generalize S[j] = s at hx
          clear hjS
          obtain ⟨x, y⟩ := s
          obtain ⟨ad, rfl, _, hab, c0, c1⟩ := (hn1.out.below hby).at hx
          dsimp only at c0 c1
          have hSj : Hid (plcs RM (S.take (j + 1)) = plc (x, y) (plcs RM (S.take j))) := Lib.hid (by rw [take_snocP hx, plcs_append]; rfl)
          have hpl : (plcs RM (S.take j)).length ≤ 100000 := by rw [plcs_len, List.length_take]; omega
          have j2 : (0 : Int) ≤ (j : Int) := by omega
          have j3 : (j : Int) < (sn : Int) := by omega
          clear hx
          generalize plcs RM (S.take j) = PL at *
          have hxx := place_any _ PL x y wr _ hP.out hpl
          have hP0 := hP.out
          obtain ⟨A4, c4, rfl, _, _⟩ := hP0
          clear hP
          go_wp2_with fail
          refine hxx.mono ?_
          rintro e w2 ⟨v2, rfl, hr2, hb2⟩
          have HR2 := Lib.hid (hr2.more (Nat.le_refl _) (show w.heap.size ≤ wr.heap.size by have := B1h.size; omega))
          clear hr2 hxx
          go_wp2
          go_roundw
          case rel => exact ⟨j + 1, by omega, by go_num, Lib.hid (by rw [hSj.out]; exact HR2.out), hby.trans (hb2.mono hyz)⟩
          case measure => simp [intOf] <;> omega
        · have hjs : j = sn := by omega
          subst hjs
          have hT : S.take j = S := List.take_of_length_le (Nat.le_of_eq HSn.out)
          rw [hT, ← HS.out] at hP
          clear hT
          have hd : ¬ (j : Int) < (j : Int) := by omega
          go_wp2
          go_roundw
          case rel => exact ⟨m + 1, by omega, by go_num, hP, B1h.trans (hby.mono (by have := B1h.size; omega))⟩
          case measure => simp [intOf] <;> omega
end Go.Proofs.Ytbpjgipldddcfaa
