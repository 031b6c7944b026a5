/-
  Lists of counted periods; the reference's Of. Conditions: at most 10000 pieces.
-/
import Derived.Test.YtbdioabeopnfeaaStK
import Derived.Test.YtbdioabeopnfeaaStO
import Derived.WalkKit
import Derived.WalkSpells
import Derived.WalkLawsBesides
import Derived.Deep.QuietTactic
import Derived.BigQuiet
import Derived.Handy
import Derived.Lib.Hide
namespace Go.Proofs.Ytbdioabeopnfeaa
open Go.RowKit

theorem RdB.step {w w' : World} {L B : Nat} {v : Value} {l : List Bd} (h : RdB w L B v l) (hb : Below w.heap.size w w') (hB : B ≤ w.heap.size) : RdB w' L w'.heap.size v l :=
  (h.below (hb.mono hB)).more (Nat.le_trans hB hb.size) (Nat.le_refl _)
/-- An element's cells, spelled as the walk spells them. -/
theorem RdB.atw {w : World} {L B : Nat} {A : Option Addr} {m c : Nat} {l : List Bd} (h : RdB w L B (.slice A m c) l) {k : Nat} {x y z : Int} (hk : l[k]? = some (x, y, z)) : ∃ ad : Addr, A = some ad ∧ L ≤ ad.block ∧ ad.block < B ∧
    w.cell? (ad.add (k * 3)) = some (.int .i64 x) ∧ w.cell? ⟨(ad.add (k * 3)).block, (ad.add (k * 3)).off + 1, none⟩ = some (.int .i64 y) ∧ w.cell? ⟨(ad.add (k * 3)).block, (ad.add (k * 3)).off + 2, none⟩ = some (.int .i64 z) := by
  obtain ⟨ad, h1, h2, h3, c0, c1, c2⟩ := h.at hk
  rw [add_next] at c1
  rw [add_next2] at c2
  exact ⟨ad, h1, h2, h3, c0, c1, c2⟩
/-- The points of a list of pieces. -/
def ptsA (acc : List Int) (l : List Pc) : List Int := l.foldl (fun p c => if okPc c then insI c.2.1 (insI c.1 p) else p) acc
theorem take_snocC {l : List Pc} {k : Nat} {x : Pc} (hx : l[k]? = some x) : l.take (k + 1) = l.take k ++ [x] := by
  obtain ⟨h, rfl⟩ := List.getElem?_eq_some_iff.1 hx
  exact List.take_succ_eq_append_getElem h
theorem ptsA_step {acc : List Int} {l : List Pc} {k : Nat} {c : Pc} (h : l[k]? = some c) : ptsA acc (l.take (k + 1)) = if okPc c then insI c.2.1 (insI c.1 (ptsA acc (l.take k))) else ptsA acc (l.take k) := by
  rw [take_snocC h]; unfold ptsA; rw [List.foldl_append]; rfl
theorem ptsA_len (acc : List Int) : ∀ l : List Pc, (ptsA acc l).length ≤ acc.length + 2 * l.length := by
  intro l
  induction l generalizing acc with
  | nil => simp [ptsA]
  | cons c l ih =>
    have h2 := insI_len c.2.1 (insI c.1 acc)
    have h3 := insI_len c.1 acc
    show (ptsA (if okPc c then insI c.2.1 (insI c.1 acc) else acc) l).length ≤ _
    have h1 := ih (if okPc c then insI c.2.1 (insI c.1 acc) else acc)
    simp only [List.length_cons]
    split at h1 <;> split <;> first | omega | contradiction
theorem refS_step {l : List Pc} {k : Nat} {c : Pc} (t : Int) (h : l[k]? = some c) : refS (l.take (k + 1)) t = if cnt c.1 c.2.1 t then IntKind.i64.wrap (refS (l.take k) t + c.2.2) else refS (l.take k) t := by
  rw [take_snocC h]; unfold refS; rw [List.foldl_append]; rfl
theorem RdI.one (w : World) (x : Int) (t : TypeId) : RdI (w.alloc (.cells #[.int .i64 x] t)) w.heap.size (w.heap.size + 1) (.slice (some ⟨w.heap.size, 0, none⟩) 1 1) [x] := by
  refine ⟨_, 1, rfl, by simp, fun k p hk => ?_⟩
  match k, hk with
  | 0, hk =>
    have hk : x = p := by simpa using hk
    subst hk
    exact ⟨_, rfl, Nat.le_refl _, Nat.lt_succ_self _, cell_one_new w (.int .i64 x) t 0 _ rfl⟩
  | k + 1, hk => simp at hk
theorem ptsA_facts : ∀ (l : List Pc) (acc : List Int), acc.Pairwise (· < ·) → (ptsA acc l).Pairwise (· < ·) ∧ ∀ x, x ∈ ptsA acc l ↔ x ∈ acc ∨ ∃ c ∈ l, okPc c = true ∧ (x = c.1 ∨ x = c.2.1)
  | [], acc, h => ⟨h, fun x => by simp [ptsA]⟩
  | c :: l, acc, h => by
    have hstep : ptsA acc (c :: l) = ptsA (if okPc c then insI c.2.1 (insI c.1 acc) else acc) l := rfl
    cases hc : okPc c with
    | false =>
      rw [hc, if_neg (by decide)] at hstep
      obtain ⟨h1, h2⟩ := ptsA_facts l acc h
      rw [hstep]
      refine ⟨h1, fun x => ?_⟩
      rw [h2 x]
      constructor
      · rintro (hx | ⟨d, hd, e⟩)
        · exact .inl hx
        · exact .inr ⟨d, List.mem_cons_of_mem _ hd, e⟩
      · rintro (hx | ⟨d, hd, e⟩)
        · exact .inl hx
        · rcases List.mem_cons.1 hd with rfl | hd
          · rw [hc] at e; cases e.1
          · exact .inr ⟨d, hd, e⟩
    | true =>
      rw [hc, if_pos rfl] at hstep
      obtain ⟨h1, h2⟩ := ptsA_facts l _ (insI_sorted (n := c.2.1) (insI_sorted (n := c.1) h))
      rw [hstep]
      refine ⟨h1, fun x => ?_⟩
      rw [h2 x, insI_mem, insI_mem]
      constructor
      · rintro ((rfl | rfl | hx) | ⟨d, hd, e⟩)
        · exact .inr ⟨c, by simp, hc, .inr rfl⟩
        · exact .inr ⟨c, by simp, hc, .inl rfl⟩
        · exact .inl hx
        · exact .inr ⟨d, List.mem_cons_of_mem _ hd, e⟩
      · rintro (hx | ⟨d, hd, e⟩)
        · exact .inl (.inr (.inr hx))
        · rcases List.mem_cons.1 hd with rfl | hd
          · rcases e.2 with rfl | rfl
            · exact .inl (.inr (.inl rfl))
            · exact .inl (.inl rfl)
          · exact .inr ⟨d, hd, e⟩
theorem ptsA_sorted (l : List Pc) : (ptsA [0] l).Pairwise (· < ·) := (ptsA_facts l [0] (by simp)).1
/-- The reference's sum of pieces. -/
def ofR (l : List Pc) : List (Int × Int) := nrmV (refS l) ((ptsA [0] l).filter fun x => decide (x < 1099511627776))

theorem filt_all {P : List Int} {k : Nat} (hT : P.take k = P) (h : ∀ x ∈ P.take k, x < 1099511627776) : (P.filter fun z => decide (z < 1099511627776)) = P.take k := by
  rw [hT] at h ⊢
  exact List.filter_eq_self.2 fun x hx => decide_eq_true (h x hx)
theorem filt_take {P : List Int} {k : Nat} {x : Int} (hs : P.Pairwise (· < ·)) (h : ∀ x ∈ P.take k, x < 1099511627776) (hx : P[k]? = some x) (hn : ¬ x < 1099511627776) : (P.filter fun z => decide (z < 1099511627776)) = P.take k := by
  have hs2 := hs
  rw [← List.take_append_drop k P] at hs2 ⊢
  rw [List.filter_append, List.filter_eq_self.2 (fun x hx => decide_eq_true (h x hx))]
  have hd : P.drop k = x :: P.drop (k + 1) := by
    obtain ⟨hk, rfl⟩ := List.getElem?_eq_some_iff.1 hx
    exact List.drop_eq_getElem_cons hk
  have hnil : (P.drop k).filter (fun z => decide (z < 1099511627776)) = [] := by
    rw [List.filter_eq_nil_iff]
    intro y hy
    rw [hd] at hy
    have hp := (List.pairwise_append.1 hs2).2.1
    rw [hd] at hp
    rcases List.mem_cons.1 hy with rfl | hy
    · simpa using hn
    · have := (List.pairwise_cons.1 hp).1 y hy
      simp; omega
  rw [hnil, List.append_nil]
  simp [List.take_append_drop]
set_option maxRecDepth 100000 in
set_option maxHeartbeats 6400000 in
theorem rStOf_any (v : Value) (l : List Pc) (w : World) (L : Nat) (hv : RdB w L w.heap.size v l) (hlen : l.length ≤ 10000) :
    Calls Try.prog 18 #[v] w (RetPers w (ofR l)) := by
  have HV := Lib.hid hv
  obtain ⟨A, c, rfl, hl63, _⟩ := hv
  have b0 : Below w.heap.size w (w.alloc (.cells #[.int .i64 0] 3)) := (by (repeat' (first | (with_reducible exact Below.refl _ _) | (with_reducible assumption) | (with_reducible refine Below.alloc ?_ ?_ _) | (with_reducible refine Below.drew ?_) | (with_reducible refine Below.setCell ?_ ?_ _) | (with_reducible refine Below.trans ?_ (Below.mono (by assumption) ?_)) | go_size)))
  have z0 : (w.alloc (.cells #[.int .i64 0] 3)).heap.size = w.heap.size + 1 := World.size_alloc _ _
  have HP0 := Lib.hid (RdI.one w 0 3)
  go_enter Try.func18, Try.ntmps18
  go_wp2
  go_loopw [3, 4] (fun p i wr => ∃ k : Nat, k ≤ l.length ∧ i = .int .i64 k ∧ Hid (RdI wr w.heap.size wr.heap.size p (ptsA [0] (l.take k))) ∧ Below w.heap.size w wr) (fun _ i _ => l.length - (intOf i).toNat)
  case atStart => exact ⟨0, by omega, rfl, Lib.hid (by rw [z0]; exact HP0.out), b0⟩
  case round =>
    obtain ⟨k, hk, rfl, hP, hbr⟩ := hrel
    have hbz := hbr.size
    by_cases hlt : k < l.length
    · have hx := List.getElem?_eq_getElem hlt
      generalize l[k] = s at hx
      obtain ⟨x, y, z⟩ := s
      obtain ⟨ad, rfl, _, hab, c0, c1, c2⟩ := (HV.out.below hbr).atw hx
      have hS := ptsA_step (acc := [0]) hx
      have hle := ptsA_len [0] (l.take k)
      rw [List.length_take] at hle
      have i2 : (0 : Int) ≤ (k : Int) := by omega
      have i3 : (k : Int) < (l.length : Int) := by omega
      clear hx
      generalize ptsA [0] (l.take k) = PL at *
      have hlen2 : PL.length ≤ 900000 := by (try simp at hle); omega
      have hlen3 := insI_len x PL
      cases hV : vld x y
      · have hV2 : okPc (x, y, z) = false := hV
        rw [hV2, if_neg (by decide)] at hS
        have HS := Lib.hid hS
        clear hS hV2
        go_wp2_with (go_at_call 52; refine (rvalid_any _ _ _).mono ?_; rw [hV]; rintro e w2 ⟨rfl, hb2⟩)
        go_roundw
        case rel => exact ⟨k + 1, by omega, by go_num, Lib.hid (by rw [HS.out]; exact hP.out.step hb2 (Nat.le_refl _)), hbr.trans (hb2.mono hbz)⟩
        case measure => simp [intOf]; omega
      · have hV2 : okPc (x, y, z) = true := hV
        rw [hV2, if_pos rfl] at hS
        have HS := Lib.hid hS
        clear hS hV2
        go_wp2_with fail
        refine (rvalid_any _ _ _).mono ?_
        rw [hV]
        rintro e w2 ⟨rfl, hb2⟩
        have e0 := (hb2.cell (p := ad.add (k * 3)) (by rw [add_block]; omega)).trans c0
        have e1 := (hb2.cell (p := ⟨(ad.add (k * 3)).block, (ad.add (k * 3)).off + 1, none⟩) (by show (ad.add (k * 3)).block < _; rw [add_block]; omega)).trans c1
        have e2 := (hb2.cell (p := ⟨(ad.add (k * 3)).block, (ad.add (k * 3)).off + 2, none⟩) (by show (ad.add (k * 3)).block < _; rw [add_block]; omega)).trans c2
        have hz2 := hb2.size
        have hP2 := hP.out.step hb2 (Nat.le_refl _)
        clear hP c0 c1 c2
        go_wp2_with fail
        refine (insert_any _ PL x _ _ hP2 (by omega)).mono ?_
        rintro e w3 ⟨v3, rfl, hr3, hb3⟩
        have f0 := (hb3.cell (p := ad.add (k * 3)) (by rw [add_block]; omega)).trans e0
        have f1 := (hb3.cell (p := ⟨(ad.add (k * 3)).block, (ad.add (k * 3)).off + 1, none⟩) (by show (ad.add (k * 3)).block < _; rw [add_block]; omega)).trans e1
        have f2 := (hb3.cell (p := ⟨(ad.add (k * 3)).block, (ad.add (k * 3)).off + 2, none⟩) (by show (ad.add (k * 3)).block < _; rw [add_block]; omega)).trans e2
        have hz3 := hb3.size
        have HR3 := Lib.hid hr3
        clear hr3 hP2 e0 e1 e2
        go_wp2_with fail
        refine (insert_any _ (insI x PL) y _ _ HR3.out (by omega)).mono ?_
        rintro e w4 ⟨v4, rfl, hr4, hb4⟩
        have HR4 := Lib.hid hr4
        clear hr4
        go_wp2
        go_roundw
        case rel => exact ⟨k + 1, by omega, by go_num, Lib.hid (by rw [HS.out]; exact HR4.out.more (Nat.le_refl _) (by omega)), hbr.trans ((hb2.trans (hb3.mono hz2)).trans (hb4.mono (by omega)) |>.mono hbz)⟩
        case measure => simp [intOf]; omega
    · have hkl : k = l.length := by omega
      subst hkl
      have hT : l.take l.length = l := List.take_length
      rw [hT] at hP
      have hle := ptsA_len [0] l
      have hsorted := (ptsA_sorted l)
      have hOf : ofR l = nrmV (refS l) ((ptsA [0] l).filter fun x => decide (x < 1099511627776)) := rfl
      generalize ptsA [0] l = P at *
      have HOF := Lib.hid hOf
      clear hOf
      have hPl : P.length ≤ 100000 := by (try simp at hle); omega
      have hd : ¬ ((l.length : Nat) : Int) < l.length := by omega
      have hP0 := hP.out
      obtain ⟨A3, c3, rfl, hl3, _⟩ := hP0
      have HSo := Lib.hid hsorted
      have B1 := hbr
      clear hbr hsorted HP0 b0 z0
      generalize wr = W at *
      have zW := B1.size
      go_wp2
      go_loopw [5, 6] (fun o i wx => ∃ k : Nat, k ≤ P.length ∧ i = .int .i64 k ∧ Hid (∀ x ∈ P.take k, x < 1099511627776) ∧ wx.ownsRow W.heap.size 48 2 o (nrmV (refS l) (P.take k)).length (flatP (nrmV (refS l) (P.take k))) ∧ Below W.heap.size W wx) (fun _ i _ => P.length - (intOf i).toNat)
      case atStart => exact ⟨0, by omega, rfl, Lib.hid (by simp), own_nilT _ _, Below.refl _ _⟩
      case round =>
        obtain ⟨k, hk, rfl, hlow, hown, hbr⟩ := hrel
        have hbz := hbr.size
        have HO := Lib.hid hown
        clear hown
        have hnl := nrmV_len (refS l) (P.take k)
        rw [List.length_take] at hnl
        by_cases hlt : k < P.length
        · have hx := List.getElem?_eq_getElem hlt
          generalize P[k] = x at hx
          obtain ⟨ad3, rfl, _, hab3, c0⟩ := (hP.out.below hbr).at hx
          have i2 : (0 : Int) ≤ (k : Int) := by omega
          have i3 : (k : Int) < (P.length : Int) := by omega
          by_cases hxF : x < 1099511627776
          · have hS : Hid (nrmV (refS l) (P.take (k + 1)) = putL (nrmV (refS l) (P.take k)) x (refS l x)) := Lib.hid (by
              rw [take_snoc_I hx]
              by_cases hk0 : P.take k = []
              · rw [hk0]; exact putL_one (refS l) x
              · exact putL_nrm (refS l) hk0 x)
            have HL : Hid (∀ y ∈ P.take (k + 1), y < 1099511627776) := Lib.hid (fun y hy => by
              rw [take_snoc_I hx] at hy
              rcases List.mem_append.1 hy with hy | hy
              · exact hlow.out y hy
              · simp at hy; omega)
            have HVx := Lib.hid (fun (w' : World) (hb : Below wr.heap.size wr w') => HV.out.below (B1.trans ((hbr.trans (hb.mono hbz)).mono zW)))
            generalize nrmV (refS l) (P.take k) = OL at *
            have HBx := Lib.hid (fun (w' : World) (hb : Below wr.heap.size wr w') => (hb.cell (p := ad3.add k) (by rw [add_block]; omega)).trans c0)
            have HBW := hbr
            clear hx hbr
            generalize wr = W2 at *
            go_wp2
            go_loopw [7, 8] (fun n i wy => ∃ j : Nat, j ≤ l.length ∧ i = .int .i64 j ∧ n = .int .i64 (refS (l.take j) x) ∧ Below W2.heap.size W2 wy) (fun _ i _ => l.length - (intOf i).toNat)
            case atStart => exact ⟨0, by omega, rfl, rfl, Below.refl _ _⟩
            case round =>
              obtain ⟨j, hj, rfl, rfl, hby⟩ := hrel
              have hyz := hby.size
              have hc0 := HBx.out wr hby
              by_cases hjl : j < l.length
              · have hx := List.getElem?_eq_getElem hjl
                generalize l[j] = s at hx
                obtain ⟨x1, y1, z1⟩ := s
                have hSn := refS_step x hx
                obtain ⟨ad, rfl, _, hab, d0, d1, d2⟩ := (HVx.out wr hby).atw hx
                have j2 : (0 : Int) ≤ (j : Int) := by omega
                have j3 : (j : Int) < (l.length : Int) := by omega
                have hadl : ad.block < wr.heap.size := by omega
                have hk0 := fun (p : After wr) => after_cell (by rw [add_block]; exact hadl) d0 p
                have hk1 := fun (p : After wr) => after_cell (a := ⟨(ad.add (j * 3)).block, (ad.add (j * 3)).off + 1, none⟩) (by show (ad.add (j * 3)).block < _; rw [add_block]; exact hadl) d1 p
                have hk3 := fun (p : After wr) => after_cell (by rw [add_block]; omega) hc0 p
                have HC := Lib.hid (fun w' => rcontains_any x1 y1 x w')
                clear hx
                dsimp only at hSn
                generalize refS (l.take j) x = nn at *
                cases hcn : cnt x1 y1 x
                · rw [hcn, if_neg (by decide)] at hSn
                  rw [hcn] at HC
                  have HSn := Lib.hid hSn
                  clear hSn
                  go_wp2
                  (refine wp_region_after (by kernel_rfl) (by kernel_rfl) ?_; (repeat (go_big_quiet_step ((go_at_call 54; exact calls_after (HC.out _))))); refine wpQuiet_nil ?_; intro wq hw0; obtain ⟨⟨wq0, hbq⟩, hw1⟩ := hw0; subst hw1; (try dsimp only))
                  go_wp2
                  go_roundw
                  case rel => exact ⟨j + 1, by omega, by go_num, by rw [HSn.out], hby.trans (hbq.mono hyz)⟩
                  case measure => simp [intOf]; omega
                · rw [hcn, if_pos rfl] at hSn
                  rw [hcn] at HC
                  have HSn := Lib.hid hSn
                  clear hSn
                  go_wp2
                  (refine wp_region_after (by kernel_rfl) (by kernel_rfl) ?_; (repeat (go_big_quiet_step ((go_at_call 54; exact calls_after (HC.out _))))); refine wpQuiet_nil ?_; intro wq hw0; obtain ⟨⟨wq0, hbq⟩, hw1⟩ := hw0; subst hw1; (try dsimp only))
                  have d2q := (hbq.cell (p := ⟨(ad.add (j * 3)).block, (ad.add (j * 3)).off + 2, none⟩) (by show (ad.add (j * 3)).block < _; rw [add_block]; exact hadl)).trans d2
                  go_wp2
                  go_roundw
                  case rel => exact ⟨j + 1, by omega, by go_num, by rw [HSn.out]; exact congrArg (Value.int IntKind.i64) (wrap64_eq _), hby.trans (hbq.mono hyz)⟩
                  case measure => simp [intOf]; omega
              · have hjl2 : j = l.length := by omega
                subst hjl2
                have hT2 : l.take l.length = l := List.take_length
                rw [hT2]
                have hd2 : ¬ ((l.length : Nat) : Int) < l.length := by omega
                have zz : W.heap.size ≤ wr.heap.size := by omega
                have HPut := Lib.hid (put_any _ OL x (refS l x) wr W.heap.size (own_below HO.out hby) zz (by omega))
                generalize refS l x = fx at *
                go_wp2_with (go_at_call 55; refine (HPut.out).mono ?_; rintro e w5 ⟨v5, rfl, hown5, hb5⟩)
                go_roundw
                case rel => exact ⟨k + 1, by omega, by go_num, HL, by rw [hS.out]; exact hown5, HBW.trans ((hby.mono hbz).trans hb5)⟩
                case measure => simp [intOf]; omega
          · have HE : Hid ((P.filter fun z => decide (z < 1099511627776)) = P.take k) := Lib.hid (filt_take HSo.out hlow.out hx hxF)
            clear hx
            go_wp2
            go_ret
            exact ⟨_, rfl, (RdP.of_ownS (by rw [HOF.out, HE.out]; exact HO.out) (by rw [HOF.out, HE.out]; omega)).more (Nat.le_refl _) zW, B1.trans (hbr.mono zW)⟩
        · have hT2 : P.take k = P := List.take_of_length_le (by omega)
          have hd2 : ¬ (k : Int) < P.length := by omega
          have HE : Hid ((P.filter fun z => decide (z < 1099511627776)) = P.take k) := Lib.hid (filt_all hT2 hlow.out)
          clear hT2
          go_wp2
          go_ret
          exact ⟨_, rfl, (RdP.of_ownS (by rw [HOF.out, HE.out]; exact HO.out) (by rw [HOF.out, HE.out]; omega)).more (Nat.le_refl _) zW, B1.trans (hbr.mono zW)⟩
end Go.Proofs.Ytbdioabeopnfeaa
