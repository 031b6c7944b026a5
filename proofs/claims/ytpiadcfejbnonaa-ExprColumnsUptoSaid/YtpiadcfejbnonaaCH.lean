import Derived.Test.YtpiadcfejbnonaaUK
import Derived.Test.YtpiadcfejbnonaaTB
import Derived.Test.YtpiadcfejbnonaaUA
import Derived.Test.YtpiadcfejbnonaaQW
import Derived.WalkKit
import Derived.WalkSpells
import Derived.WalkLawsBesides
import Derived.Deep.QuietTactic
import Derived.BigQuiet
import Derived.Handy
import Derived.Lib.Hide
/-
  The walk of the statement ExprChanges. Conditions: a bounded depth; the number of columns.
-/
namespace Go.Proofs.Ytpiadcfejbnonaa
set_option linter.unusedVariables false
set_option linter.unusedSimpArgs false
set_option maxRecDepth 100000
open Go.RowKit

theorem sameL_selfC (f : Ex → Ex → Bool) : ∀ l : List Ex, (∀ a ∈ l, f a a = true) → sameL f l l = true
  | [], _ => rfl
  | a :: l, h => by
    unfold sameL
    rw [h a (List.mem_cons_self ..), sameL_selfC f l fun b hb => h b (List.mem_cons_of_mem _ hb)]
    rfl
theorem sameE_selfC : ∀ (d : Nat) (a : Ex), sameE d a a = true
  | 0, _ => rfl
  | d + 1, a => by
    unfold sameE
    rw [sameL_selfC (sameE d) a.args fun b _ => sameE_selfC d b]
    unfold sameF Va.eqV
    simp
theorem isE_ret {V : World} {L d : Nat} {r : Ex} {u : Value} (h : RdE V L V.heap.size d u r.args) : IsE d r (exV r u) V := by
  obtain ⟨A, c, rfl, _⟩ := h.slice
  exact ⟨A, c, rfl, RdE.more (Nat.le_refl _) (Nat.zero_le _) h⟩
theorem same_isE {d : Nat} {r : Ex} {x y : Value} {V : World} (hx : IsE d r x V) (hy : IsE d r y V) : Calls Try.prog 18 #[x, y] V fun e' w' => e' = .returned (.bool true) ∧ Below V.heap.size V w' := by
  obtain ⟨A, c, rfl, h1⟩ := hx
  obtain ⟨A2, c2, rfl, h2⟩ := hy
  have h := rSame_any d r r A A2 c c2 V 0 0 h1 h2
  rwa [sameE_selfC] at h
/-- A call that leaves a tree of the call's own. -/
def GivesE (d : Nat) (r : Ex) (f : FuncId) (args : Array Value) (V : World) : Prop := Calls Try.prog f args V fun e w' => ∃ v, e = .returned v ∧ IsE d r v w' ∧ Below V.heap.size V w'
theorem GivesE.mono {d : Nat} {r : Ex} {f : FuncId} {args : Array Value} {V : World} {Q : Ending → World → Prop} (h : GivesE d r f args V) (hQ : ∀ e w', (∃ v, e = .returned v ∧ IsE d r v w' ∧ Below V.heap.size V w') → Q e w') : Calls Try.prog f args V Q := Calls.mono h hQ
theorem gives_ret {d : Nat} {r : Ex} {f : FuncId} {args : Array Value} {V : World} (h : Calls Try.prog f args V (RetX V d r)) : GivesE d r f args V :=
  h.mono fun _ _ ⟨_, he, hr, hb⟩ => ⟨_, he, isE_ret hr, hb⟩
set_option maxRecDepth 100000 in
set_option maxHeartbeats 12800000 in
theorem law_changes (n : Int) (D : Nat) (e : Ex) (A : Option Addr) (c : Nat) (vl : Value) (ls : List Ex) (w : World) (h : RdE w 0 w.heap.size D (.slice A e.args.length c) e.args) (hls : RdE w 0 w.heap.size (D + 1) vl ls)
    (hcol : (colE D e).length ≤ 1099511627775) (hok : ∀ a ∈ ls, okX D a) :
    Calls Try.prog 5 #[exV e (.slice A e.args.length c), .int .i64 n, vl] w fun e' w' => e' = .returned (.bool true) ∧ Below w.heap.size w w' := by
  obtain ⟨Al, cl, rfl, _⟩ := hls.slice
  have b1 := bel_mk w (.cells (exA e (.slice A e.args.length c)) 26)
  have oa := Own.new w 26 (exA e (.slice A e.args.length c))
  obtain ⟨x0, x1, x2, x3, x4, x5, x6⟩ := ex_cells oa.lt oa
  have RA := h.step b1 (Nat.le_refl _)
  have RL := hls.step b1 (Nat.le_refl _)
  have HB := Lib.hid b1
  have HBS := Lib.hid b1.size
  clear b1 oa h hls
  generalize hWW : w.alloc (.cells (exA e (.slice A e.args.length c)) 26) = W at *
  have H1 := Lib.hid (pColumns_any D e (.slice A e.args.length c) W 0 RA (by omega))
  have H2 := Lib.hid (show ∀ V, Below W.heap.size W V → Calls Try.prog 17 #[exV e (.slice A e.args.length c)] V (RetIn V (colS (colE D e))) from fun V hb => by have h := rColumns_any D e (.slice A e.args.length c) V 0 (RA.step hb (Nat.le_refl _)) hcol; rwa [refE_eq] at h)
  have H3 := Lib.hid (fun V (hb : Below W.heap.size W V) => gives_ret (pShift_any n D e (.slice A e.args.length c) V 0 (RA.step hb (Nat.le_refl _))))
  have H4 := Lib.hid (fun V (hb : Below W.heap.size W V) => gives_ret (rShift_any n D e (.slice A e.args.length c) V 0 (RA.step hb (Nat.le_refl _))))
  have H5 := Lib.hid (fun V (hb : Below W.heap.size W V) => gives_ret (pSubst_any (.slice Al ls.length cl) ls D D e (.slice A e.args.length c) V 0 0 (RA.step hb (Nat.le_refl _)) (RL.step hb (Nat.le_refl _))))
  have H6 := Lib.hid (show ∀ V, Below W.heap.size W V → GivesE (D + D) (sbX ls D e) 22 #[exV e (.slice A e.args.length c), .slice Al ls.length cl] V from fun V hb => by have h := gives_ret (rSubst_any Al cl ls D D e (.slice A e.args.length c) V 0 0 (RA.step hb (Nat.le_refl _)) (RL.step hb (Nat.le_refl _))); rwa [sbY_eq ls D hok] at h)
  have HLZ := Lib.hid (Nat.le_trans (colS_len (colE D e)) hcol)
  generalize shX n D e = rs at *
  generalize sbX ls D e = rb at *
  generalize colS (colE D e) = zs at *
  unfold exA exV at *
  have HK := Lib.hid (show ∀ V, Below W.heap.size W V → V.cell? ⟨w.heap.size, 0, none⟩ = some (.int .i64 e.op) ∧ V.cell? ⟨w.heap.size, 1, none⟩ = some (.int .i64 e.n) ∧ V.cell? ⟨w.heap.size, 2, none⟩ = some (.int .i64 e.v.1) ∧ V.cell? ⟨w.heap.size, 3, none⟩ = some (.int .i64 e.v.2.1) ∧ V.cell? ⟨w.heap.size, 4, none⟩ = some (.string e.v.2.2) ∧ V.cell? ⟨w.heap.size, 5, none⟩ = some (.string e.nm) ∧ V.cell? ⟨w.heap.size, 6, none⟩ = some (.slice A e.args.length c) from fun V hb => ⟨x0 ⟨V, hb⟩, x1 ⟨V, hb⟩, x2 ⟨V, hb⟩, x3 ⟨V, hb⟩, x4 ⟨V, hb⟩, x5 ⟨V, hb⟩, x6 ⟨V, hb⟩⟩)
  clear RA RL hcol hok x0 x1 x2 x3 x4 x5 x6
  obtain ⟨x0, x1, x2, x3, x4, x5, x6⟩ := HK.out W (Below.refl _ _)
  go_enter Try.func5, Try.ntmps5
  go_wp2_with fail
  with_reducible refine H1.out.mono ?_
  rintro e' w1 ⟨v1, rfl, hr1, hb1⟩
  have HR1 := Lib.hid hr1
  have HB1 := Lib.hid hb1
  have HC2 := Lib.hid (H2.out w1 hb1)
  clear hr1 hb1 x0 x1 x2 x3 x4 x5 x6 H1 H2
  obtain ⟨x0, x1, x2, x3, x4, x5, x6⟩ := HK.out w1 HB1.out
  go_wp2_with fail
  with_reducible refine HC2.out.mono ?_
  rintro e' w2 ⟨v2, rfl, hr2, hb2⟩
  have HB2 := Lib.hid (HB1.out.trans (hb2.mono HB1.out.size))
  obtain ⟨A1, c1, rfl, _, hc1⟩ := HR1.out.step hb2 (Nat.le_refl _)
  obtain ⟨A2, c2, rfl, _, hc2⟩ := rdI_own hr2 (by have := HLZ.out; omega)
  have HC1 := Lib.hid hc1
  have HD2 := Lib.hid hc2
  clear hr2 hb2 hc1 hc2 HR1 HB1 HC2 x0 x1 x2 x3 x4 x5 x6
  have hnn : ((zs.length : Int) != (zs.length : Int)) = false := by simp
  by_cases hn1 : (-1048576 : Int) ≤ n
  · go_wp2_with fail
    go_loopw [9, 10, 28] (fun s _ j wr => ∃ k : Nat, k ≤ zs.length ∧ j = .int .i64 k ∧ (∃ b, s = .bool b) ∧ Below w2.heap.size w2 wr) (fun _ _ j _ => zs.length - (intOf j).toNat)
    case atStart => exact ⟨0, Nat.zero_le _, rfl, ⟨_, rfl⟩, Below.refl _ _⟩
    case round =>
      obtain ⟨k, hk, rfl, ⟨b, rfl⟩, hbr⟩ := hrel
      have hbz := hbr.size
      by_cases hlt : k < zs.length
      · have hki : (k : Int) < zs.length := by omega
        have hk0 : (0 : Int) ≤ (k : Int) := by omega
        obtain ⟨ad, rfl, _, hab, a0⟩ := HC1.out k _ (List.getElem?_eq_getElem hlt)
        obtain ⟨ad2, rfl, _, hab2, a1⟩ := HD2.out k _ (List.getElem?_eq_getElem hlt)
        generalize zs[k] = q at *
        have f0 : ∀ p : After wr, p.w.cell? (ad.add k) = some (.int .i64 q) := after_cell (by rw [add_block]; omega) ((hbr.cell (p := ad.add k) (by rw [add_block]; exact hab)).trans a0)
        have f1 : ∀ p : After wr, p.w.cell? (ad2.add k) = some (.int .i64 q) := after_cell (by rw [add_block]; omega) ((hbr.cell (p := ad2.add k) (by rw [add_block]; exact hab2)).trans a1)
        have hqn : (q != q) = false := by simp
        clear a0 a1
        cases b
        · go_wp2
          (refine wp_region_after (by kernel_rfl) (by kernel_rfl) ?_; (repeat (go_big_quiet_step (fail))); refine wpQuiet_nil ?_; intro wq hw0; obtain ⟨⟨wq0, hbq⟩, hw1⟩ := hw0; subst hw1; (try dsimp only))
          go_wp2
          go_roundw
          case rel => exact ⟨k + 1, by omega, by go_num, ⟨_, rfl⟩, hbr.trans (hbq.mono hbz)⟩
          case measure => simp [intOf]; omega
        · by_cases hq1 : (-1048576 : Int) ≤ q
          all_goals
            go_wp2
            (refine wp_region_after (by kernel_rfl) (by kernel_rfl) ?_; (repeat (go_big_quiet_step (fail))); refine wpQuiet_nil ?_; intro wq hw0; obtain ⟨⟨wq0, hbq⟩, hw1⟩ := hw0; subst hw1; (try dsimp only))
            have g0 : wq.cell? (ad2.add k) = some (.int .i64 q) := f1 ⟨wq, hbq⟩
            go_wp2
            go_roundw
            case rel => exact ⟨k + 1, by omega, by go_num, ⟨_, rfl⟩, hbr.trans (hbq.mono hbz)⟩
            case measure => simp [intOf]; omega
      · have hki : ¬ (k : Int) < zs.length := by omega
        have HBV := Lib.hid (HB2.out.trans (hbr.mono HB2.out.size))
        clear HC1 HD2 HB2 hbr hbz hnn hlt hk HLZ
        cases b
        · go_wp2
          (refine wp_region_after (by kernel_rfl) (by kernel_rfl) ?_; (repeat (go_big_quiet_step (fail))); refine wpQuiet_nil ?_; intro wq hw0; obtain ⟨⟨wq0, hbq⟩, hw1⟩ := hw0; subst hw1; (try dsimp only))
          have HBQ := Lib.hid (HBV.out.trans (hbq.mono HBV.out.size))
          clear HBV hbq
          go_wp2_with fail
          refine wp_region_invV (w := wq) (fun x => { tmps := #[.agg #[.int .i64 e.op, .int .i64 e.n, .int .i64 e.v.1, .int .i64 e.v.2.1, .string e.v.2.2, .string e.nm, .slice A e.args.length c], .int .i64 n, .slice Al ls.length cl, .pointer (some ⟨w.heap.size, 0, none⟩), undef, undef, x 10, .slice A1 zs.length c1, .slice A2 zs.length c2, .bool false, u10, .agg #[.int .i64 e.op, .int .i64 e.n, .int .i64 e.v.1, .int .i64 e.v.2.1, .string e.v.2.2, .string e.nm, .slice A e.args.length c], .slice A1 zs.length c1, .agg #[.int .i64 e.op, .int .i64 e.n, .int .i64 e.v.1, .int .i64 e.v.2.1, .string e.v.2.2, .string e.nm, .slice A e.args.length c], .slice A2 zs.length c2, .slice A1 zs.length c1, .int .i64 (zs.length : Nat), .slice A2 zs.length c2, .int .i64 (zs.length : Nat), .bool false, .int .i64 n, .bool true, .bool true, .int .i64 n, .bool (decide (n ≤ 1048576)), .bool (decide (n ≤ 1048576)), .slice A1 zs.length c1, .int .i64 (zs.length : Nat), .int .i64 (k : Nat), .bool false, u30, u31, u32, u33, u34, u35, u36, u37, u38, u39, u40, u41, u42, u43, u44, u45, u46, u47, u48, u49, u50, u51, u52, u53, u54, u55, .bool false, .bool false, undef, undef, undef, undef, undef, undef, undef, undef, .bool false, x 0, x 1, x 2, x 3, x 4, x 5, x 6, x 7, x 8, x 9], defers := [] }) [isF (.agg #[.int .i64 e.op, .int .i64 e.n, .int .i64 e.v.1, .int .i64 e.v.2.1, .string e.v.2.2, .string e.nm, .slice A e.args.length c]), isF (.slice Al ls.length cl), exF (D + D) rb, isF (.agg #[.int .i64 e.op, .int .i64 e.n, .int .i64 e.v.1, .int .i64 e.v.2.1, .string e.v.2.2, .string e.nm, .slice A e.args.length c]), isF (.slice Al ls.length cl), exF (D + D) rb, isF (.bool true), isF (.bool true), isF (.bool true), isF (.bool true), isF (.bool true)] (fun j => if j = 10 then u6 else undef) (by kernel_rfl) (by kernel_rfl) (by rfl) ?_ ?_ ?_
          · intro x i o v ho
            have hi : i < 11 := (Array.getElem?_eq_some_iff.1 ho).1
            have hi2 : i = 0 ∨ i = 1 ∨ i = 2 ∨ i = 3 ∨ i = 4 ∨ i = 5 ∨ i = 6 ∨ i = 7 ∨ i = 8 ∨ i = 9 ∨ i = 10 := by omega
            rcases hi2 with rfl | rfl | rfl | rfl | rfl | rfl | rfl | rfl | rfl | rfl | rfl
            all_goals (obtain rfl := Option.some.inj ho; rfl)
          · intro i o ho x W hb hd K hK
            have hi : i < 11 := (Array.getElem?_eq_some_iff.1 ho).1
            have hi2 : i = 0 ∨ i = 1 ∨ i = 2 ∨ i = 3 ∨ i = 4 ∨ i = 5 ∨ i = 6 ∨ i = 7 ∨ i = 8 ∨ i = 9 ∨ i = 10 := by omega
            clear hi
            rcases hi2 with rfl | rfl | rfl | rfl | rfl | rfl | rfl | rfl | rfl | rfl | rfl
            · obtain rfl := Option.some.inj ho
              obtain ⟨k0, k1, k2, k3, k4, k5, k6⟩ := HK.out W (HBQ.out.trans (hb.mono HBQ.out.size))
              clear hd
              rw [if_pos (by rfl)]
              try dsimp only at hK ⊢
              go_simp
              exact hK.out _ W (Below.refl _ _) rfl
            · obtain rfl := Option.some.inj ho
              clear hd
              rw [if_pos (by rfl)]
              try dsimp only at hK ⊢
              go_simp
              exact hK.out _ W (Below.refl _ _) rfl
            · obtain rfl := Option.some.inj ho
              have h0 : x 0 = .agg #[.int .i64 e.op, .int .i64 e.n, .int .i64 e.v.1, .int .i64 e.v.2.1, .string e.v.2.2, .string e.nm, .slice A e.args.length c] := hd 0 (by kernel_rfl)
              simp only [h0] at hK ⊢
              have h1 : x 1 = .slice Al ls.length cl := hd 1 (by kernel_rfl)
              simp only [h1] at hK ⊢
              have hcl := Lib.hid (H5.out W (HBQ.out.trans (hb.mono HBQ.out.size)))
              clear hd
              rw [if_pos (by rfl)]
              try dsimp only at hK ⊢
              go_simp
              (go_at_call 21; refine hcl.out.mono ?_; rintro e1 W1 ⟨v, rfl, hr, hb1⟩; exact hK.out _ W1 hb1 hr)
            · obtain rfl := Option.some.inj ho
              obtain ⟨k0, k1, k2, k3, k4, k5, k6⟩ := HK.out W (HBQ.out.trans (hb.mono HBQ.out.size))
              clear hd
              rw [if_pos (by rfl)]
              try dsimp only at hK ⊢
              go_simp
              exact hK.out _ W (Below.refl _ _) rfl
            · obtain rfl := Option.some.inj ho
              clear hd
              rw [if_pos (by rfl)]
              try dsimp only at hK ⊢
              go_simp
              exact hK.out _ W (Below.refl _ _) rfl
            · obtain rfl := Option.some.inj ho
              have h3 : x 3 = .agg #[.int .i64 e.op, .int .i64 e.n, .int .i64 e.v.1, .int .i64 e.v.2.1, .string e.v.2.2, .string e.nm, .slice A e.args.length c] := hd 3 (by kernel_rfl)
              simp only [h3] at hK ⊢
              have h4 : x 4 = .slice Al ls.length cl := hd 4 (by kernel_rfl)
              simp only [h4] at hK ⊢
              have hcl := Lib.hid (H6.out W (HBQ.out.trans (hb.mono HBQ.out.size)))
              clear hd
              rw [if_pos (by rfl)]
              try dsimp only at hK ⊢
              go_simp
              (go_at_call 22; refine hcl.out.mono ?_; rintro e1 W1 ⟨v, rfl, hr, hb1⟩; exact hK.out _ W1 hb1 hr)
            · obtain rfl := Option.some.inj ho
              have hcl := Lib.hid (same_isE (d := D + D) (r := rb) (hd 2 (by kernel_rfl)) (hd 5 (by kernel_rfl)))
              clear hd
              rw [if_pos (by rfl)]
              try dsimp only at hK ⊢
              go_simp
              (go_at_call 18; refine hcl.out.mono ?_; rintro e1 W1 ⟨rfl, hb1⟩; exact hK.out _ W1 hb1 rfl)
            · obtain rfl := Option.some.inj ho
              have h6 : x 6 = .bool true := hd 6 (by kernel_rfl)
              simp only [h6] at hK ⊢
              clear hd
              rw [if_pos (by rfl)]
              try dsimp only at hK ⊢
              go_simp
              exact hK.out _ W (Below.refl _ _) rfl
            · obtain rfl := Option.some.inj ho
              have h7 : x 7 = .bool true := hd 7 (by kernel_rfl)
              simp only [h7] at hK ⊢
              clear hd
              rw [if_pos (by rfl)]
              try dsimp only at hK ⊢
              go_simp
              (go_at_call 11; refine (awake_any W).mono ?_; rintro e1 W1 ⟨rfl, hb1⟩; exact hK.out _ W1 hb1 rfl)
            · obtain rfl := Option.some.inj ho
              have h7 : x 7 = .bool true := hd 7 (by kernel_rfl)
              simp only [h7] at hK ⊢
              have h8 : x 8 = .bool true := hd 8 (by kernel_rfl)
              simp only [h8] at hK ⊢
              clear hd
              rw [if_pos (by rfl)]
              try dsimp only at hK ⊢
              go_simp
              exact hK.out _ W (Below.refl _ _) rfl
            · obtain rfl := Option.some.inj ho
              have h9 : x 9 = .bool true := hd 9 (by kernel_rfl)
              simp only [h9] at hK ⊢
              clear hd
              rw [if_pos (by rfl)]
              try dsimp only at hK ⊢
              go_simp
              exact hK.out _ W (Below.refl _ _) rfl
          · intro x U hb hf
            have h10 : x 10 = .bool true := hf 10 (by decide)
            have BU := Lib.hid (HBQ.out.trans (hb.mono HBQ.out.size))
            clear hf hb
            try dsimp only
            rw [h10]
            clear h10
            generalize x 0 = y0
            generalize x 1 = y1
            generalize x 2 = y2
            generalize x 3 = y3
            generalize x 4 = y4
            generalize x 5 = y5
            generalize x 6 = y6
            generalize x 7 = y7
            generalize x 8 = y8
            generalize x 9 = y9
            clear x
            go_wp2
            go_ret
            exact ⟨rfl, HB.out.trans (BU.out.mono HBS.out)⟩
        · go_wp2_with fail
          refine wp_region_invV (w := wr) (fun x => { tmps := #[.agg #[.int .i64 e.op, .int .i64 e.n, .int .i64 e.v.1, .int .i64 e.v.2.1, .string e.v.2.2, .string e.nm, .slice A e.args.length c], .int .i64 n, .slice Al ls.length cl, .pointer (some ⟨w.heap.size, 0, none⟩), undef, undef, u6, .slice A1 zs.length c1, .slice A2 zs.length c2, .bool true, u10, .agg #[.int .i64 e.op, .int .i64 e.n, .int .i64 e.v.1, .int .i64 e.v.2.1, .string e.v.2.2, .string e.nm, .slice A e.args.length c], .slice A1 zs.length c1, .agg #[.int .i64 e.op, .int .i64 e.n, .int .i64 e.v.1, .int .i64 e.v.2.1, .string e.v.2.2, .string e.nm, .slice A e.args.length c], .slice A2 zs.length c2, .slice A1 zs.length c1, .int .i64 (zs.length : Nat), .slice A2 zs.length c2, .int .i64 (zs.length : Nat), .bool false, .int .i64 n, .bool true, .bool true, .int .i64 n, .bool (decide (n ≤ 1048576)), .bool (decide (n ≤ 1048576)), .slice A1 zs.length c1, .int .i64 (zs.length : Nat), .int .i64 (k : Nat), .bool false, u30, u31, u32, u33, u34, u35, u36, u37, u38, u39, u40, u41, u42, u43, u44, u45, u46, u47, u48, u49, u50, u51, u52, u53, u54, u55, x 0, x 1, x 2, x 3, x 4, x 5, x 6, x 7, x 8, x 9, x 10, undef, undef, undef, undef, undef, undef, undef, undef, undef, undef], defers := [] }) [isF (.bool true), isF (.bool true), isF (.agg #[.int .i64 e.op, .int .i64 e.n, .int .i64 e.v.1, .int .i64 e.v.2.1, .string e.v.2.2, .string e.nm, .slice A e.args.length c]), isF (.int .i64 n), exF (D) rs, isF (.agg #[.int .i64 e.op, .int .i64 e.n, .int .i64 e.v.1, .int .i64 e.v.2.1, .string e.v.2.2, .string e.nm, .slice A e.args.length c]), isF (.int .i64 n), exF (D) rs, isF (.bool true), isF (.bool false), isF (.bool false)] (fun j => undef) (by kernel_rfl) (by kernel_rfl) (by rfl) ?_ ?_ ?_
          · intro x i o v ho
            have hi : i < 11 := (Array.getElem?_eq_some_iff.1 ho).1
            have hi2 : i = 0 ∨ i = 1 ∨ i = 2 ∨ i = 3 ∨ i = 4 ∨ i = 5 ∨ i = 6 ∨ i = 7 ∨ i = 8 ∨ i = 9 ∨ i = 10 := by omega
            rcases hi2 with rfl | rfl | rfl | rfl | rfl | rfl | rfl | rfl | rfl | rfl | rfl
            all_goals (obtain rfl := Option.some.inj ho; rfl)
          · intro i o ho x W hb hd K hK
            have hi : i < 11 := (Array.getElem?_eq_some_iff.1 ho).1
            have hi2 : i = 0 ∨ i = 1 ∨ i = 2 ∨ i = 3 ∨ i = 4 ∨ i = 5 ∨ i = 6 ∨ i = 7 ∨ i = 8 ∨ i = 9 ∨ i = 10 := by omega
            clear hi
            rcases hi2 with rfl | rfl | rfl | rfl | rfl | rfl | rfl | rfl | rfl | rfl | rfl
            · obtain rfl := Option.some.inj ho
              clear hd
              rw [if_pos (by rfl)]
              try dsimp only at hK ⊢
              go_simp
              exact hK.out _ W (Below.refl _ _) rfl
            · obtain rfl := Option.some.inj ho
              have h0 : x 0 = .bool true := hd 0 (by kernel_rfl)
              simp only [h0] at hK ⊢
              clear hd
              rw [if_pos (by rfl)]
              try dsimp only at hK ⊢
              go_simp
              exact hK.out _ W (Below.refl _ _) rfl
            · obtain rfl := Option.some.inj ho
              have h1 : x 1 = .bool true := hd 1 (by kernel_rfl)
              simp only [h1] at hK ⊢
              obtain ⟨k0, k1, k2, k3, k4, k5, k6⟩ := HK.out W (HBV.out.trans (hb.mono HBV.out.size))
              clear hd
              rw [if_pos (by rfl)]
              try dsimp only at hK ⊢
              go_simp
              exact hK.out _ W (Below.refl _ _) rfl
            · obtain rfl := Option.some.inj ho
              have h1 : x 1 = .bool true := hd 1 (by kernel_rfl)
              simp only [h1] at hK ⊢
              clear hd
              rw [if_pos (by rfl)]
              try dsimp only at hK ⊢
              go_simp
              exact hK.out _ W (Below.refl _ _) rfl
            · obtain rfl := Option.some.inj ho
              have h1 : x 1 = .bool true := hd 1 (by kernel_rfl)
              simp only [h1] at hK ⊢
              have h2 : x 2 = .agg #[.int .i64 e.op, .int .i64 e.n, .int .i64 e.v.1, .int .i64 e.v.2.1, .string e.v.2.2, .string e.nm, .slice A e.args.length c] := hd 2 (by kernel_rfl)
              simp only [h2] at hK ⊢
              have h3 : x 3 = .int .i64 n := hd 3 (by kernel_rfl)
              simp only [h3] at hK ⊢
              have hcl := Lib.hid (H3.out W (HBV.out.trans (hb.mono HBV.out.size)))
              clear hd
              rw [if_pos (by rfl)]
              try dsimp only at hK ⊢
              go_simp
              (go_at_call 19; refine hcl.out.mono ?_; rintro e1 W1 ⟨v, rfl, hr, hb1⟩; exact hK.out _ W1 hb1 hr)
            · obtain rfl := Option.some.inj ho
              have h1 : x 1 = .bool true := hd 1 (by kernel_rfl)
              simp only [h1] at hK ⊢
              obtain ⟨k0, k1, k2, k3, k4, k5, k6⟩ := HK.out W (HBV.out.trans (hb.mono HBV.out.size))
              clear hd
              rw [if_pos (by rfl)]
              try dsimp only at hK ⊢
              go_simp
              exact hK.out _ W (Below.refl _ _) rfl
            · obtain rfl := Option.some.inj ho
              have h1 : x 1 = .bool true := hd 1 (by kernel_rfl)
              simp only [h1] at hK ⊢
              clear hd
              rw [if_pos (by rfl)]
              try dsimp only at hK ⊢
              go_simp
              exact hK.out _ W (Below.refl _ _) rfl
            · obtain rfl := Option.some.inj ho
              have h1 : x 1 = .bool true := hd 1 (by kernel_rfl)
              simp only [h1] at hK ⊢
              have h5 : x 5 = .agg #[.int .i64 e.op, .int .i64 e.n, .int .i64 e.v.1, .int .i64 e.v.2.1, .string e.v.2.2, .string e.nm, .slice A e.args.length c] := hd 5 (by kernel_rfl)
              simp only [h5] at hK ⊢
              have h6 : x 6 = .int .i64 n := hd 6 (by kernel_rfl)
              simp only [h6] at hK ⊢
              have hcl := Lib.hid (H4.out W (HBV.out.trans (hb.mono HBV.out.size)))
              clear hd
              rw [if_pos (by rfl)]
              try dsimp only at hK ⊢
              go_simp
              (go_at_call 20; refine hcl.out.mono ?_; rintro e1 W1 ⟨v, rfl, hr, hb1⟩; exact hK.out _ W1 hb1 hr)
            · obtain rfl := Option.some.inj ho
              have h1 : x 1 = .bool true := hd 1 (by kernel_rfl)
              simp only [h1] at hK ⊢
              have hcl := Lib.hid (same_isE (d := D) (r := rs) (hd 4 (by kernel_rfl)) (hd 7 (by kernel_rfl)))
              clear hd
              rw [if_pos (by rfl)]
              try dsimp only at hK ⊢
              go_simp
              (go_at_call 18; refine hcl.out.mono ?_; rintro e1 W1 ⟨rfl, hb1⟩; exact hK.out _ W1 hb1 rfl)
            · obtain rfl := Option.some.inj ho
              have h1 : x 1 = .bool true := hd 1 (by kernel_rfl)
              simp only [h1] at hK ⊢
              have h8 : x 8 = .bool true := hd 8 (by kernel_rfl)
              simp only [h8] at hK ⊢
              clear hd
              rw [if_pos (by rfl)]
              try dsimp only at hK ⊢
              go_simp
              exact hK.out _ W (Below.refl _ _) rfl
            · obtain rfl := Option.some.inj ho
              have h1 : x 1 = .bool true := hd 1 (by kernel_rfl)
              simp only [h1] at hK ⊢
              have h9 : x 9 = .bool false := hd 9 (by kernel_rfl)
              simp only [h9] at hK ⊢
              clear hd
              rw [if_pos (by rfl)]
              try dsimp only at hK ⊢
              go_simp
              exact hK.out _ W (Below.refl _ _) rfl
          · intro x V hb hf
            have h10 : x 10 = .bool false := hf 10 (by decide)
            have HBX := Lib.hid (HBV.out.trans (hb.mono HBV.out.size))
            clear hf hb HBV
            try dsimp only
            rw [h10]
            clear h10
            generalize x 0 = z0
            generalize x 1 = z1
            generalize x 2 = z2
            generalize x 3 = z3
            generalize x 4 = z4
            generalize x 5 = z5
            generalize x 6 = z6
            generalize x 7 = z7
            generalize x 8 = z8
            generalize x 9 = z9
            clear x
            go_wp2_with fail
            refine wp_region_invV (w := V) (fun x => { tmps := #[.agg #[.int .i64 e.op, .int .i64 e.n, .int .i64 e.v.1, .int .i64 e.v.2.1, .string e.v.2.2, .string e.nm, .slice A e.args.length c], .int .i64 n, .slice Al ls.length cl, .pointer (some ⟨w.heap.size, 0, none⟩), undef, undef, x 10, .slice A1 zs.length c1, .slice A2 zs.length c2, .bool true, u10, .agg #[.int .i64 e.op, .int .i64 e.n, .int .i64 e.v.1, .int .i64 e.v.2.1, .string e.v.2.2, .string e.nm, .slice A e.args.length c], .slice A1 zs.length c1, .agg #[.int .i64 e.op, .int .i64 e.n, .int .i64 e.v.1, .int .i64 e.v.2.1, .string e.v.2.2, .string e.nm, .slice A e.args.length c], .slice A2 zs.length c2, .slice A1 zs.length c1, .int .i64 (zs.length : Nat), .slice A2 zs.length c2, .int .i64 (zs.length : Nat), .bool false, .int .i64 n, .bool true, .bool true, .int .i64 n, .bool (decide (n ≤ 1048576)), .bool (decide (n ≤ 1048576)), .slice A1 zs.length c1, .int .i64 (zs.length : Nat), .int .i64 (k : Nat), .bool false, u30, u31, u32, u33, u34, u35, u36, u37, u38, u39, u40, u41, u42, u43, u44, u45, u46, u47, u48, u49, u50, u51, u52, u53, u54, u55, z0, z1, z2, z3, z4, z5, z6, z7, z8, z9, .bool false, x 0, x 1, x 2, x 3, x 4, x 5, x 6, x 7, x 8, x 9], defers := [] }) [isF (.agg #[.int .i64 e.op, .int .i64 e.n, .int .i64 e.v.1, .int .i64 e.v.2.1, .string e.v.2.2, .string e.nm, .slice A e.args.length c]), isF (.slice Al ls.length cl), exF (D + D) rb, isF (.agg #[.int .i64 e.op, .int .i64 e.n, .int .i64 e.v.1, .int .i64 e.v.2.1, .string e.v.2.2, .string e.nm, .slice A e.args.length c]), isF (.slice Al ls.length cl), exF (D + D) rb, isF (.bool true), isF (.bool true), isF (.bool true), isF (.bool true), isF (.bool true)] (fun j => if j = 10 then u6 else undef) (by kernel_rfl) (by kernel_rfl) (by rfl) ?_ ?_ ?_
            · intro x i o v ho
              have hi : i < 11 := (Array.getElem?_eq_some_iff.1 ho).1
              have hi2 : i = 0 ∨ i = 1 ∨ i = 2 ∨ i = 3 ∨ i = 4 ∨ i = 5 ∨ i = 6 ∨ i = 7 ∨ i = 8 ∨ i = 9 ∨ i = 10 := by omega
              rcases hi2 with rfl | rfl | rfl | rfl | rfl | rfl | rfl | rfl | rfl | rfl | rfl
              all_goals (obtain rfl := Option.some.inj ho; rfl)
            · intro i o ho x W hb hd K hK
              have hi : i < 11 := (Array.getElem?_eq_some_iff.1 ho).1
              have hi2 : i = 0 ∨ i = 1 ∨ i = 2 ∨ i = 3 ∨ i = 4 ∨ i = 5 ∨ i = 6 ∨ i = 7 ∨ i = 8 ∨ i = 9 ∨ i = 10 := by omega
              clear hi
              rcases hi2 with rfl | rfl | rfl | rfl | rfl | rfl | rfl | rfl | rfl | rfl | rfl
              · obtain rfl := Option.some.inj ho
                obtain ⟨k0, k1, k2, k3, k4, k5, k6⟩ := HK.out W (HBX.out.trans (hb.mono HBX.out.size))
                clear hd
                rw [if_pos (by rfl)]
                try dsimp only at hK ⊢
                go_simp
                exact hK.out _ W (Below.refl _ _) rfl
              · obtain rfl := Option.some.inj ho
                clear hd
                rw [if_pos (by rfl)]
                try dsimp only at hK ⊢
                go_simp
                exact hK.out _ W (Below.refl _ _) rfl
              · obtain rfl := Option.some.inj ho
                have h0 : x 0 = .agg #[.int .i64 e.op, .int .i64 e.n, .int .i64 e.v.1, .int .i64 e.v.2.1, .string e.v.2.2, .string e.nm, .slice A e.args.length c] := hd 0 (by kernel_rfl)
                simp only [h0] at hK ⊢
                have h1 : x 1 = .slice Al ls.length cl := hd 1 (by kernel_rfl)
                simp only [h1] at hK ⊢
                have hcl := Lib.hid (H5.out W (HBX.out.trans (hb.mono HBX.out.size)))
                clear hd
                rw [if_pos (by rfl)]
                try dsimp only at hK ⊢
                go_simp
                (go_at_call 21; refine hcl.out.mono ?_; rintro e1 W1 ⟨v, rfl, hr, hb1⟩; exact hK.out _ W1 hb1 hr)
              · obtain rfl := Option.some.inj ho
                obtain ⟨k0, k1, k2, k3, k4, k5, k6⟩ := HK.out W (HBX.out.trans (hb.mono HBX.out.size))
                clear hd
                rw [if_pos (by rfl)]
                try dsimp only at hK ⊢
                go_simp
                exact hK.out _ W (Below.refl _ _) rfl
              · obtain rfl := Option.some.inj ho
                clear hd
                rw [if_pos (by rfl)]
                try dsimp only at hK ⊢
                go_simp
                exact hK.out _ W (Below.refl _ _) rfl
              · obtain rfl := Option.some.inj ho
                have h3 : x 3 = .agg #[.int .i64 e.op, .int .i64 e.n, .int .i64 e.v.1, .int .i64 e.v.2.1, .string e.v.2.2, .string e.nm, .slice A e.args.length c] := hd 3 (by kernel_rfl)
                simp only [h3] at hK ⊢
                have h4 : x 4 = .slice Al ls.length cl := hd 4 (by kernel_rfl)
                simp only [h4] at hK ⊢
                have hcl := Lib.hid (H6.out W (HBX.out.trans (hb.mono HBX.out.size)))
                clear hd
                rw [if_pos (by rfl)]
                try dsimp only at hK ⊢
                go_simp
                (go_at_call 22; refine hcl.out.mono ?_; rintro e1 W1 ⟨v, rfl, hr, hb1⟩; exact hK.out _ W1 hb1 hr)
              · obtain rfl := Option.some.inj ho
                have hcl := Lib.hid (same_isE (d := D + D) (r := rb) (hd 2 (by kernel_rfl)) (hd 5 (by kernel_rfl)))
                clear hd
                rw [if_pos (by rfl)]
                try dsimp only at hK ⊢
                go_simp
                (go_at_call 18; refine hcl.out.mono ?_; rintro e1 W1 ⟨rfl, hb1⟩; exact hK.out _ W1 hb1 rfl)
              · obtain rfl := Option.some.inj ho
                have h6 : x 6 = .bool true := hd 6 (by kernel_rfl)
                simp only [h6] at hK ⊢
                clear hd
                rw [if_pos (by rfl)]
                try dsimp only at hK ⊢
                go_simp
                exact hK.out _ W (Below.refl _ _) rfl
              · obtain rfl := Option.some.inj ho
                have h7 : x 7 = .bool true := hd 7 (by kernel_rfl)
                simp only [h7] at hK ⊢
                clear hd
                rw [if_pos (by rfl)]
                try dsimp only at hK ⊢
                go_simp
                (go_at_call 11; refine (awake_any W).mono ?_; rintro e1 W1 ⟨rfl, hb1⟩; exact hK.out _ W1 hb1 rfl)
              · obtain rfl := Option.some.inj ho
                have h7 : x 7 = .bool true := hd 7 (by kernel_rfl)
                simp only [h7] at hK ⊢
                have h8 : x 8 = .bool true := hd 8 (by kernel_rfl)
                simp only [h8] at hK ⊢
                clear hd
                rw [if_pos (by rfl)]
                try dsimp only at hK ⊢
                go_simp
                exact hK.out _ W (Below.refl _ _) rfl
              · obtain rfl := Option.some.inj ho
                have h9 : x 9 = .bool true := hd 9 (by kernel_rfl)
                simp only [h9] at hK ⊢
                clear hd
                rw [if_pos (by rfl)]
                try dsimp only at hK ⊢
                go_simp
                exact hK.out _ W (Below.refl _ _) rfl
            · intro x U hb hf
              have h10 : x 10 = .bool true := hf 10 (by decide)
              have BU := Lib.hid (HBX.out.trans (hb.mono HBX.out.size))
              clear hf hb
              try dsimp only
              rw [h10]
              clear h10
              generalize x 0 = y0
              generalize x 1 = y1
              generalize x 2 = y2
              generalize x 3 = y3
              generalize x 4 = y4
              generalize x 5 = y5
              generalize x 6 = y6
              generalize x 7 = y7
              generalize x 8 = y8
              generalize x 9 = y9
              clear x
              go_wp2
              go_ret
              exact ⟨rfl, HB.out.trans (BU.out.mono HBS.out)⟩
  · go_wp2_with fail
    go_loopw [9, 10, 28] (fun s _ j wr => ∃ k : Nat, k ≤ zs.length ∧ j = .int .i64 k ∧ (∃ b, s = .bool b) ∧ Below w2.heap.size w2 wr) (fun _ _ j _ => zs.length - (intOf j).toNat)
    case atStart => exact ⟨0, Nat.zero_le _, rfl, ⟨_, rfl⟩, Below.refl _ _⟩
    case round =>
      obtain ⟨k, hk, rfl, ⟨b, rfl⟩, hbr⟩ := hrel
      have hbz := hbr.size
      by_cases hlt : k < zs.length
      · have hki : (k : Int) < zs.length := by omega
        have hk0 : (0 : Int) ≤ (k : Int) := by omega
        obtain ⟨ad, rfl, _, hab, a0⟩ := HC1.out k _ (List.getElem?_eq_getElem hlt)
        obtain ⟨ad2, rfl, _, hab2, a1⟩ := HD2.out k _ (List.getElem?_eq_getElem hlt)
        generalize zs[k] = q at *
        have f0 : ∀ p : After wr, p.w.cell? (ad.add k) = some (.int .i64 q) := after_cell (by rw [add_block]; omega) ((hbr.cell (p := ad.add k) (by rw [add_block]; exact hab)).trans a0)
        have f1 : ∀ p : After wr, p.w.cell? (ad2.add k) = some (.int .i64 q) := after_cell (by rw [add_block]; omega) ((hbr.cell (p := ad2.add k) (by rw [add_block]; exact hab2)).trans a1)
        have hqn : (q != q) = false := by simp
        clear a0 a1
        cases b
        · go_wp2
          (refine wp_region_after (by kernel_rfl) (by kernel_rfl) ?_; (repeat (go_big_quiet_step (fail))); refine wpQuiet_nil ?_; intro wq hw0; obtain ⟨⟨wq0, hbq⟩, hw1⟩ := hw0; subst hw1; (try dsimp only))
          go_wp2
          go_roundw
          case rel => exact ⟨k + 1, by omega, by go_num, ⟨_, rfl⟩, hbr.trans (hbq.mono hbz)⟩
          case measure => simp [intOf]; omega
        · by_cases hq1 : (-1048576 : Int) ≤ q
          all_goals
            go_wp2
            (refine wp_region_after (by kernel_rfl) (by kernel_rfl) ?_; (repeat (go_big_quiet_step (fail))); refine wpQuiet_nil ?_; intro wq hw0; obtain ⟨⟨wq0, hbq⟩, hw1⟩ := hw0; subst hw1; (try dsimp only))
            have g0 : wq.cell? (ad2.add k) = some (.int .i64 q) := f1 ⟨wq, hbq⟩
            go_wp2
            go_roundw
            case rel => exact ⟨k + 1, by omega, by go_num, ⟨_, rfl⟩, hbr.trans (hbq.mono hbz)⟩
            case measure => simp [intOf]; omega
      · have hki : ¬ (k : Int) < zs.length := by omega
        have HBV := Lib.hid (HB2.out.trans (hbr.mono HB2.out.size))
        clear HC1 HD2 HB2 hbr hbz hnn hlt hk HLZ
        cases b
        · go_wp2
          (refine wp_region_after (by kernel_rfl) (by kernel_rfl) ?_; (repeat (go_big_quiet_step (fail))); refine wpQuiet_nil ?_; intro wq hw0; obtain ⟨⟨wq0, hbq⟩, hw1⟩ := hw0; subst hw1; (try dsimp only))
          have HBQ := Lib.hid (HBV.out.trans (hbq.mono HBV.out.size))
          clear HBV hbq
          go_wp2_with fail
          refine wp_region_invV (w := wq) (fun x => { tmps := #[.agg #[.int .i64 e.op, .int .i64 e.n, .int .i64 e.v.1, .int .i64 e.v.2.1, .string e.v.2.2, .string e.nm, .slice A e.args.length c], .int .i64 n, .slice Al ls.length cl, .pointer (some ⟨w.heap.size, 0, none⟩), undef, undef, x 10, .slice A1 zs.length c1, .slice A2 zs.length c2, .bool false, u10, .agg #[.int .i64 e.op, .int .i64 e.n, .int .i64 e.v.1, .int .i64 e.v.2.1, .string e.v.2.2, .string e.nm, .slice A e.args.length c], .slice A1 zs.length c1, .agg #[.int .i64 e.op, .int .i64 e.n, .int .i64 e.v.1, .int .i64 e.v.2.1, .string e.v.2.2, .string e.nm, .slice A e.args.length c], .slice A2 zs.length c2, .slice A1 zs.length c1, .int .i64 (zs.length : Nat), .slice A2 zs.length c2, .int .i64 (zs.length : Nat), .bool false, .int .i64 n, .bool false, .bool false, undef, undef, .bool false, .slice A1 zs.length c1, .int .i64 (zs.length : Nat), .int .i64 (k : Nat), .bool false, u30, u31, u32, u33, u34, u35, u36, u37, u38, u39, u40, u41, u42, u43, u44, u45, u46, u47, u48, u49, u50, u51, u52, u53, u54, u55, .bool false, .bool false, undef, undef, undef, undef, undef, undef, undef, undef, .bool false, x 0, x 1, x 2, x 3, x 4, x 5, x 6, x 7, x 8, x 9], defers := [] }) [isF (.agg #[.int .i64 e.op, .int .i64 e.n, .int .i64 e.v.1, .int .i64 e.v.2.1, .string e.v.2.2, .string e.nm, .slice A e.args.length c]), isF (.slice Al ls.length cl), exF (D + D) rb, isF (.agg #[.int .i64 e.op, .int .i64 e.n, .int .i64 e.v.1, .int .i64 e.v.2.1, .string e.v.2.2, .string e.nm, .slice A e.args.length c]), isF (.slice Al ls.length cl), exF (D + D) rb, isF (.bool true), isF (.bool true), isF (.bool true), isF (.bool true), isF (.bool true)] (fun j => if j = 10 then u6 else undef) (by kernel_rfl) (by kernel_rfl) (by rfl) ?_ ?_ ?_
          · intro x i o v ho
            have hi : i < 11 := (Array.getElem?_eq_some_iff.1 ho).1
            have hi2 : i = 0 ∨ i = 1 ∨ i = 2 ∨ i = 3 ∨ i = 4 ∨ i = 5 ∨ i = 6 ∨ i = 7 ∨ i = 8 ∨ i = 9 ∨ i = 10 := by omega
            rcases hi2 with rfl | rfl | rfl | rfl | rfl | rfl | rfl | rfl | rfl | rfl | rfl
            all_goals (obtain rfl := Option.some.inj ho; rfl)
          · intro i o ho x W hb hd K hK
            have hi : i < 11 := (Array.getElem?_eq_some_iff.1 ho).1
            have hi2 : i = 0 ∨ i = 1 ∨ i = 2 ∨ i = 3 ∨ i = 4 ∨ i = 5 ∨ i = 6 ∨ i = 7 ∨ i = 8 ∨ i = 9 ∨ i = 10 := by omega
            clear hi
            rcases hi2 with rfl | rfl | rfl | rfl | rfl | rfl | rfl | rfl | rfl | rfl | rfl
            · obtain rfl := Option.some.inj ho
              obtain ⟨k0, k1, k2, k3, k4, k5, k6⟩ := HK.out W (HBQ.out.trans (hb.mono HBQ.out.size))
              clear hd
              rw [if_pos (by rfl)]
              try dsimp only at hK ⊢
              go_simp
              exact hK.out _ W (Below.refl _ _) rfl
            · obtain rfl := Option.some.inj ho
              clear hd
              rw [if_pos (by rfl)]
              try dsimp only at hK ⊢
              go_simp
              exact hK.out _ W (Below.refl _ _) rfl
            · obtain rfl := Option.some.inj ho
              have h0 : x 0 = .agg #[.int .i64 e.op, .int .i64 e.n, .int .i64 e.v.1, .int .i64 e.v.2.1, .string e.v.2.2, .string e.nm, .slice A e.args.length c] := hd 0 (by kernel_rfl)
              simp only [h0] at hK ⊢
              have h1 : x 1 = .slice Al ls.length cl := hd 1 (by kernel_rfl)
              simp only [h1] at hK ⊢
              have hcl := Lib.hid (H5.out W (HBQ.out.trans (hb.mono HBQ.out.size)))
              clear hd
              rw [if_pos (by rfl)]
              try dsimp only at hK ⊢
              go_simp
              (go_at_call 21; refine hcl.out.mono ?_; rintro e1 W1 ⟨v, rfl, hr, hb1⟩; exact hK.out _ W1 hb1 hr)
            · obtain rfl := Option.some.inj ho
              obtain ⟨k0, k1, k2, k3, k4, k5, k6⟩ := HK.out W (HBQ.out.trans (hb.mono HBQ.out.size))
              clear hd
              rw [if_pos (by rfl)]
              try dsimp only at hK ⊢
              go_simp
              exact hK.out _ W (Below.refl _ _) rfl
            · obtain rfl := Option.some.inj ho
              clear hd
              rw [if_pos (by rfl)]
              try dsimp only at hK ⊢
              go_simp
              exact hK.out _ W (Below.refl _ _) rfl
            · obtain rfl := Option.some.inj ho
              have h3 : x 3 = .agg #[.int .i64 e.op, .int .i64 e.n, .int .i64 e.v.1, .int .i64 e.v.2.1, .string e.v.2.2, .string e.nm, .slice A e.args.length c] := hd 3 (by kernel_rfl)
              simp only [h3] at hK ⊢
              have h4 : x 4 = .slice Al ls.length cl := hd 4 (by kernel_rfl)
              simp only [h4] at hK ⊢
              have hcl := Lib.hid (H6.out W (HBQ.out.trans (hb.mono HBQ.out.size)))
              clear hd
              rw [if_pos (by rfl)]
              try dsimp only at hK ⊢
              go_simp
              (go_at_call 22; refine hcl.out.mono ?_; rintro e1 W1 ⟨v, rfl, hr, hb1⟩; exact hK.out _ W1 hb1 hr)
            · obtain rfl := Option.some.inj ho
              have hcl := Lib.hid (same_isE (d := D + D) (r := rb) (hd 2 (by kernel_rfl)) (hd 5 (by kernel_rfl)))
              clear hd
              rw [if_pos (by rfl)]
              try dsimp only at hK ⊢
              go_simp
              (go_at_call 18; refine hcl.out.mono ?_; rintro e1 W1 ⟨rfl, hb1⟩; exact hK.out _ W1 hb1 rfl)
            · obtain rfl := Option.some.inj ho
              have h6 : x 6 = .bool true := hd 6 (by kernel_rfl)
              simp only [h6] at hK ⊢
              clear hd
              rw [if_pos (by rfl)]
              try dsimp only at hK ⊢
              go_simp
              exact hK.out _ W (Below.refl _ _) rfl
            · obtain rfl := Option.some.inj ho
              have h7 : x 7 = .bool true := hd 7 (by kernel_rfl)
              simp only [h7] at hK ⊢
              clear hd
              rw [if_pos (by rfl)]
              try dsimp only at hK ⊢
              go_simp
              (go_at_call 11; refine (awake_any W).mono ?_; rintro e1 W1 ⟨rfl, hb1⟩; exact hK.out _ W1 hb1 rfl)
            · obtain rfl := Option.some.inj ho
              have h7 : x 7 = .bool true := hd 7 (by kernel_rfl)
              simp only [h7] at hK ⊢
              have h8 : x 8 = .bool true := hd 8 (by kernel_rfl)
              simp only [h8] at hK ⊢
              clear hd
              rw [if_pos (by rfl)]
              try dsimp only at hK ⊢
              go_simp
              exact hK.out _ W (Below.refl _ _) rfl
            · obtain rfl := Option.some.inj ho
              have h9 : x 9 = .bool true := hd 9 (by kernel_rfl)
              simp only [h9] at hK ⊢
              clear hd
              rw [if_pos (by rfl)]
              try dsimp only at hK ⊢
              go_simp
              exact hK.out _ W (Below.refl _ _) rfl
          · intro x U hb hf
            have h10 : x 10 = .bool true := hf 10 (by decide)
            have BU := Lib.hid (HBQ.out.trans (hb.mono HBQ.out.size))
            clear hf hb
            try dsimp only
            rw [h10]
            clear h10
            generalize x 0 = y0
            generalize x 1 = y1
            generalize x 2 = y2
            generalize x 3 = y3
            generalize x 4 = y4
            generalize x 5 = y5
            generalize x 6 = y6
            generalize x 7 = y7
            generalize x 8 = y8
            generalize x 9 = y9
            clear x
            go_wp2
            go_ret
            exact ⟨rfl, HB.out.trans (BU.out.mono HBS.out)⟩
        · go_wp2_with fail
          refine wp_region_invV (w := wr) (fun x => { tmps := #[.agg #[.int .i64 e.op, .int .i64 e.n, .int .i64 e.v.1, .int .i64 e.v.2.1, .string e.v.2.2, .string e.nm, .slice A e.args.length c], .int .i64 n, .slice Al ls.length cl, .pointer (some ⟨w.heap.size, 0, none⟩), undef, undef, u6, .slice A1 zs.length c1, .slice A2 zs.length c2, .bool true, u10, .agg #[.int .i64 e.op, .int .i64 e.n, .int .i64 e.v.1, .int .i64 e.v.2.1, .string e.v.2.2, .string e.nm, .slice A e.args.length c], .slice A1 zs.length c1, .agg #[.int .i64 e.op, .int .i64 e.n, .int .i64 e.v.1, .int .i64 e.v.2.1, .string e.v.2.2, .string e.nm, .slice A e.args.length c], .slice A2 zs.length c2, .slice A1 zs.length c1, .int .i64 (zs.length : Nat), .slice A2 zs.length c2, .int .i64 (zs.length : Nat), .bool false, .int .i64 n, .bool false, .bool false, undef, undef, .bool false, .slice A1 zs.length c1, .int .i64 (zs.length : Nat), .int .i64 (k : Nat), .bool false, u30, u31, u32, u33, u34, u35, u36, u37, u38, u39, u40, u41, u42, u43, u44, u45, u46, u47, u48, u49, u50, u51, u52, u53, u54, u55, x 0, x 1, x 2, x 3, x 4, x 5, x 6, x 7, x 8, x 9, x 10, undef, undef, undef, undef, undef, undef, undef, undef, undef, undef], defers := [] }) [isF (.bool true), isF (.bool true), isF (.agg #[.int .i64 e.op, .int .i64 e.n, .int .i64 e.v.1, .int .i64 e.v.2.1, .string e.v.2.2, .string e.nm, .slice A e.args.length c]), isF (.int .i64 n), exF (D) rs, isF (.agg #[.int .i64 e.op, .int .i64 e.n, .int .i64 e.v.1, .int .i64 e.v.2.1, .string e.v.2.2, .string e.nm, .slice A e.args.length c]), isF (.int .i64 n), exF (D) rs, isF (.bool true), isF (.bool false), isF (.bool false)] (fun j => undef) (by kernel_rfl) (by kernel_rfl) (by rfl) ?_ ?_ ?_
          · intro x i o v ho
            have hi : i < 11 := (Array.getElem?_eq_some_iff.1 ho).1
            have hi2 : i = 0 ∨ i = 1 ∨ i = 2 ∨ i = 3 ∨ i = 4 ∨ i = 5 ∨ i = 6 ∨ i = 7 ∨ i = 8 ∨ i = 9 ∨ i = 10 := by omega
            rcases hi2 with rfl | rfl | rfl | rfl | rfl | rfl | rfl | rfl | rfl | rfl | rfl
            all_goals (obtain rfl := Option.some.inj ho; rfl)
          · intro i o ho x W hb hd K hK
            have hi : i < 11 := (Array.getElem?_eq_some_iff.1 ho).1
            have hi2 : i = 0 ∨ i = 1 ∨ i = 2 ∨ i = 3 ∨ i = 4 ∨ i = 5 ∨ i = 6 ∨ i = 7 ∨ i = 8 ∨ i = 9 ∨ i = 10 := by omega
            clear hi
            rcases hi2 with rfl | rfl | rfl | rfl | rfl | rfl | rfl | rfl | rfl | rfl | rfl
            · obtain rfl := Option.some.inj ho
              clear hd
              rw [if_pos (by rfl)]
              try dsimp only at hK ⊢
              go_simp
              exact hK.out _ W (Below.refl _ _) rfl
            · obtain rfl := Option.some.inj ho
              have h0 : x 0 = .bool true := hd 0 (by kernel_rfl)
              simp only [h0] at hK ⊢
              clear hd
              rw [if_pos (by rfl)]
              try dsimp only at hK ⊢
              go_simp
              exact hK.out _ W (Below.refl _ _) rfl
            · obtain rfl := Option.some.inj ho
              have h1 : x 1 = .bool true := hd 1 (by kernel_rfl)
              simp only [h1] at hK ⊢
              obtain ⟨k0, k1, k2, k3, k4, k5, k6⟩ := HK.out W (HBV.out.trans (hb.mono HBV.out.size))
              clear hd
              rw [if_pos (by rfl)]
              try dsimp only at hK ⊢
              go_simp
              exact hK.out _ W (Below.refl _ _) rfl
            · obtain rfl := Option.some.inj ho
              have h1 : x 1 = .bool true := hd 1 (by kernel_rfl)
              simp only [h1] at hK ⊢
              clear hd
              rw [if_pos (by rfl)]
              try dsimp only at hK ⊢
              go_simp
              exact hK.out _ W (Below.refl _ _) rfl
            · obtain rfl := Option.some.inj ho
              have h1 : x 1 = .bool true := hd 1 (by kernel_rfl)
              simp only [h1] at hK ⊢
              have h2 : x 2 = .agg #[.int .i64 e.op, .int .i64 e.n, .int .i64 e.v.1, .int .i64 e.v.2.1, .string e.v.2.2, .string e.nm, .slice A e.args.length c] := hd 2 (by kernel_rfl)
              simp only [h2] at hK ⊢
              have h3 : x 3 = .int .i64 n := hd 3 (by kernel_rfl)
              simp only [h3] at hK ⊢
              have hcl := Lib.hid (H3.out W (HBV.out.trans (hb.mono HBV.out.size)))
              clear hd
              rw [if_pos (by rfl)]
              try dsimp only at hK ⊢
              go_simp
              (go_at_call 19; refine hcl.out.mono ?_; rintro e1 W1 ⟨v, rfl, hr, hb1⟩; exact hK.out _ W1 hb1 hr)
            · obtain rfl := Option.some.inj ho
              have h1 : x 1 = .bool true := hd 1 (by kernel_rfl)
              simp only [h1] at hK ⊢
              obtain ⟨k0, k1, k2, k3, k4, k5, k6⟩ := HK.out W (HBV.out.trans (hb.mono HBV.out.size))
              clear hd
              rw [if_pos (by rfl)]
              try dsimp only at hK ⊢
              go_simp
              exact hK.out _ W (Below.refl _ _) rfl
            · obtain rfl := Option.some.inj ho
              have h1 : x 1 = .bool true := hd 1 (by kernel_rfl)
              simp only [h1] at hK ⊢
              clear hd
              rw [if_pos (by rfl)]
              try dsimp only at hK ⊢
              go_simp
              exact hK.out _ W (Below.refl _ _) rfl
            · obtain rfl := Option.some.inj ho
              have h1 : x 1 = .bool true := hd 1 (by kernel_rfl)
              simp only [h1] at hK ⊢
              have h5 : x 5 = .agg #[.int .i64 e.op, .int .i64 e.n, .int .i64 e.v.1, .int .i64 e.v.2.1, .string e.v.2.2, .string e.nm, .slice A e.args.length c] := hd 5 (by kernel_rfl)
              simp only [h5] at hK ⊢
              have h6 : x 6 = .int .i64 n := hd 6 (by kernel_rfl)
              simp only [h6] at hK ⊢
              have hcl := Lib.hid (H4.out W (HBV.out.trans (hb.mono HBV.out.size)))
              clear hd
              rw [if_pos (by rfl)]
              try dsimp only at hK ⊢
              go_simp
              (go_at_call 20; refine hcl.out.mono ?_; rintro e1 W1 ⟨v, rfl, hr, hb1⟩; exact hK.out _ W1 hb1 hr)
            · obtain rfl := Option.some.inj ho
              have h1 : x 1 = .bool true := hd 1 (by kernel_rfl)
              simp only [h1] at hK ⊢
              have hcl := Lib.hid (same_isE (d := D) (r := rs) (hd 4 (by kernel_rfl)) (hd 7 (by kernel_rfl)))
              clear hd
              rw [if_pos (by rfl)]
              try dsimp only at hK ⊢
              go_simp
              (go_at_call 18; refine hcl.out.mono ?_; rintro e1 W1 ⟨rfl, hb1⟩; exact hK.out _ W1 hb1 rfl)
            · obtain rfl := Option.some.inj ho
              have h1 : x 1 = .bool true := hd 1 (by kernel_rfl)
              simp only [h1] at hK ⊢
              have h8 : x 8 = .bool true := hd 8 (by kernel_rfl)
              simp only [h8] at hK ⊢
              clear hd
              rw [if_pos (by rfl)]
              try dsimp only at hK ⊢
              go_simp
              exact hK.out _ W (Below.refl _ _) rfl
            · obtain rfl := Option.some.inj ho
              have h1 : x 1 = .bool true := hd 1 (by kernel_rfl)
              simp only [h1] at hK ⊢
              have h9 : x 9 = .bool false := hd 9 (by kernel_rfl)
              simp only [h9] at hK ⊢
              clear hd
              rw [if_pos (by rfl)]
              try dsimp only at hK ⊢
              go_simp
              exact hK.out _ W (Below.refl _ _) rfl
          · intro x V hb hf
            have h10 : x 10 = .bool false := hf 10 (by decide)
            have HBX := Lib.hid (HBV.out.trans (hb.mono HBV.out.size))
            clear hf hb HBV
            try dsimp only
            rw [h10]
            clear h10
            generalize x 0 = z0
            generalize x 1 = z1
            generalize x 2 = z2
            generalize x 3 = z3
            generalize x 4 = z4
            generalize x 5 = z5
            generalize x 6 = z6
            generalize x 7 = z7
            generalize x 8 = z8
            generalize x 9 = z9
            clear x
            go_wp2_with fail
            refine wp_region_invV (w := V) (fun x => { tmps := #[.agg #[.int .i64 e.op, .int .i64 e.n, .int .i64 e.v.1, .int .i64 e.v.2.1, .string e.v.2.2, .string e.nm, .slice A e.args.length c], .int .i64 n, .slice Al ls.length cl, .pointer (some ⟨w.heap.size, 0, none⟩), undef, undef, x 10, .slice A1 zs.length c1, .slice A2 zs.length c2, .bool true, u10, .agg #[.int .i64 e.op, .int .i64 e.n, .int .i64 e.v.1, .int .i64 e.v.2.1, .string e.v.2.2, .string e.nm, .slice A e.args.length c], .slice A1 zs.length c1, .agg #[.int .i64 e.op, .int .i64 e.n, .int .i64 e.v.1, .int .i64 e.v.2.1, .string e.v.2.2, .string e.nm, .slice A e.args.length c], .slice A2 zs.length c2, .slice A1 zs.length c1, .int .i64 (zs.length : Nat), .slice A2 zs.length c2, .int .i64 (zs.length : Nat), .bool false, .int .i64 n, .bool false, .bool false, undef, undef, .bool false, .slice A1 zs.length c1, .int .i64 (zs.length : Nat), .int .i64 (k : Nat), .bool false, u30, u31, u32, u33, u34, u35, u36, u37, u38, u39, u40, u41, u42, u43, u44, u45, u46, u47, u48, u49, u50, u51, u52, u53, u54, u55, z0, z1, z2, z3, z4, z5, z6, z7, z8, z9, .bool false, x 0, x 1, x 2, x 3, x 4, x 5, x 6, x 7, x 8, x 9], defers := [] }) [isF (.agg #[.int .i64 e.op, .int .i64 e.n, .int .i64 e.v.1, .int .i64 e.v.2.1, .string e.v.2.2, .string e.nm, .slice A e.args.length c]), isF (.slice Al ls.length cl), exF (D + D) rb, isF (.agg #[.int .i64 e.op, .int .i64 e.n, .int .i64 e.v.1, .int .i64 e.v.2.1, .string e.v.2.2, .string e.nm, .slice A e.args.length c]), isF (.slice Al ls.length cl), exF (D + D) rb, isF (.bool true), isF (.bool true), isF (.bool true), isF (.bool true), isF (.bool true)] (fun j => if j = 10 then u6 else undef) (by kernel_rfl) (by kernel_rfl) (by rfl) ?_ ?_ ?_
            · intro x i o v ho
              have hi : i < 11 := (Array.getElem?_eq_some_iff.1 ho).1
              have hi2 : i = 0 ∨ i = 1 ∨ i = 2 ∨ i = 3 ∨ i = 4 ∨ i = 5 ∨ i = 6 ∨ i = 7 ∨ i = 8 ∨ i = 9 ∨ i = 10 := by omega
              rcases hi2 with rfl | rfl | rfl | rfl | rfl | rfl | rfl | rfl | rfl | rfl | rfl
              all_goals (obtain rfl := Option.some.inj ho; rfl)
            · intro i o ho x W hb hd K hK
              have hi : i < 11 := (Array.getElem?_eq_some_iff.1 ho).1
              have hi2 : i = 0 ∨ i = 1 ∨ i = 2 ∨ i = 3 ∨ i = 4 ∨ i = 5 ∨ i = 6 ∨ i = 7 ∨ i = 8 ∨ i = 9 ∨ i = 10 := by omega
              clear hi
              rcases hi2 with rfl | rfl | rfl | rfl | rfl | rfl | rfl | rfl | rfl | rfl | rfl
              · obtain rfl := Option.some.inj ho
                obtain ⟨k0, k1, k2, k3, k4, k5, k6⟩ := HK.out W (HBX.out.trans (hb.mono HBX.out.size))
                clear hd
                rw [if_pos (by rfl)]
                try dsimp only at hK ⊢
                go_simp
                exact hK.out _ W (Below.refl _ _) rfl
              · obtain rfl := Option.some.inj ho
                clear hd
                rw [if_pos (by rfl)]
                try dsimp only at hK ⊢
                go_simp
                exact hK.out _ W (Below.refl _ _) rfl
              · obtain rfl := Option.some.inj ho
                have h0 : x 0 = .agg #[.int .i64 e.op, .int .i64 e.n, .int .i64 e.v.1, .int .i64 e.v.2.1, .string e.v.2.2, .string e.nm, .slice A e.args.length c] := hd 0 (by kernel_rfl)
                simp only [h0] at hK ⊢
                have h1 : x 1 = .slice Al ls.length cl := hd 1 (by kernel_rfl)
                simp only [h1] at hK ⊢
                have hcl := Lib.hid (H5.out W (HBX.out.trans (hb.mono HBX.out.size)))
                clear hd
                rw [if_pos (by rfl)]
                try dsimp only at hK ⊢
                go_simp
                (go_at_call 21; refine hcl.out.mono ?_; rintro e1 W1 ⟨v, rfl, hr, hb1⟩; exact hK.out _ W1 hb1 hr)
              · obtain rfl := Option.some.inj ho
                obtain ⟨k0, k1, k2, k3, k4, k5, k6⟩ := HK.out W (HBX.out.trans (hb.mono HBX.out.size))
                clear hd
                rw [if_pos (by rfl)]
                try dsimp only at hK ⊢
                go_simp
                exact hK.out _ W (Below.refl _ _) rfl
              · obtain rfl := Option.some.inj ho
                clear hd
                rw [if_pos (by rfl)]
                try dsimp only at hK ⊢
                go_simp
                exact hK.out _ W (Below.refl _ _) rfl
              · obtain rfl := Option.some.inj ho
                have h3 : x 3 = .agg #[.int .i64 e.op, .int .i64 e.n, .int .i64 e.v.1, .int .i64 e.v.2.1, .string e.v.2.2, .string e.nm, .slice A e.args.length c] := hd 3 (by kernel_rfl)
                simp only [h3] at hK ⊢
                have h4 : x 4 = .slice Al ls.length cl := hd 4 (by kernel_rfl)
                simp only [h4] at hK ⊢
                have hcl := Lib.hid (H6.out W (HBX.out.trans (hb.mono HBX.out.size)))
                clear hd
                rw [if_pos (by rfl)]
                try dsimp only at hK ⊢
                go_simp
                (go_at_call 22; refine hcl.out.mono ?_; rintro e1 W1 ⟨v, rfl, hr, hb1⟩; exact hK.out _ W1 hb1 hr)
              · obtain rfl := Option.some.inj ho
                have hcl := Lib.hid (same_isE (d := D + D) (r := rb) (hd 2 (by kernel_rfl)) (hd 5 (by kernel_rfl)))
                clear hd
                rw [if_pos (by rfl)]
                try dsimp only at hK ⊢
                go_simp
                (go_at_call 18; refine hcl.out.mono ?_; rintro e1 W1 ⟨rfl, hb1⟩; exact hK.out _ W1 hb1 rfl)
              · obtain rfl := Option.some.inj ho
                have h6 : x 6 = .bool true := hd 6 (by kernel_rfl)
                simp only [h6] at hK ⊢
                clear hd
                rw [if_pos (by rfl)]
                try dsimp only at hK ⊢
                go_simp
                exact hK.out _ W (Below.refl _ _) rfl
              · obtain rfl := Option.some.inj ho
                have h7 : x 7 = .bool true := hd 7 (by kernel_rfl)
                simp only [h7] at hK ⊢
                clear hd
                rw [if_pos (by rfl)]
                try dsimp only at hK ⊢
                go_simp
                (go_at_call 11; refine (awake_any W).mono ?_; rintro e1 W1 ⟨rfl, hb1⟩; exact hK.out _ W1 hb1 rfl)
              · obtain rfl := Option.some.inj ho
                have h7 : x 7 = .bool true := hd 7 (by kernel_rfl)
                simp only [h7] at hK ⊢
                have h8 : x 8 = .bool true := hd 8 (by kernel_rfl)
                simp only [h8] at hK ⊢
                clear hd
                rw [if_pos (by rfl)]
                try dsimp only at hK ⊢
                go_simp
                exact hK.out _ W (Below.refl _ _) rfl
              · obtain rfl := Option.some.inj ho
                have h9 : x 9 = .bool true := hd 9 (by kernel_rfl)
                simp only [h9] at hK ⊢
                clear hd
                rw [if_pos (by rfl)]
                try dsimp only at hK ⊢
                go_simp
                exact hK.out _ W (Below.refl _ _) rfl
            · intro x U hb hf
              have h10 : x 10 = .bool true := hf 10 (by decide)
              have BU := Lib.hid (HBX.out.trans (hb.mono HBX.out.size))
              clear hf hb
              try dsimp only
              rw [h10]
              clear h10
              generalize x 0 = y0
              generalize x 1 = y1
              generalize x 2 = y2
              generalize x 3 = y3
              generalize x 4 = y4
              generalize x 5 = y5
              generalize x 6 = y6
              generalize x 7 = y7
              generalize x 8 = y8
              generalize x 9 = y9
              clear x
              go_wp2
              go_ret
              exact ⟨rfl, HB.out.trans (BU.out.mono HBS.out)⟩
end Go.Proofs.Ytpiadcfejbnonaa
