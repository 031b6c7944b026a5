/-
  Contract of the reference's Shown. Conditions: none.
-/
import Derived.Test.YtonhlejeedhpiaaCkX
import Derived.WalkKit
import Derived.WalkSpells
import Derived.WalkLawsBesides
import Derived.Deep.QuietTactic
import Derived.BigQuiet
import Derived.Handy
import Derived.Lib.Hide
namespace Go.Proofs.Ytonhlejeedhpiaa
open Go.RowKit
theorem own_shape {w : World} {base : Nat} {e : TypeId} {sz n : Nat} {v : Value} {xs : List Value} (h : w.ownsRow base e sz v n xs) (hn : 0 < n) : ∃ g c, v = .slice (some ⟨g, 0, none⟩) n c := by
  rcases own_get h with ⟨_, h0⟩ | ⟨g, c, he, _⟩
  · omega
  · exact ⟨g, c, he⟩
set_option maxRecDepth 100000 in
set_option maxHeartbeats 12800000 in
theorem rShown_any (v : Value) (l : List (Int × Int)) (wall : Int) (w : World) (L : Nat) (hv : RdP w L w.heap.size v l) :
    Calls Try.prog 24 #[v, .int .i64 wall] w (RetPers w (shL l wall)) := by
  have hv0 := hv
  have hc := rCheck_any v l w L hv
  obtain ⟨A, c, rfl, hlen, _⟩ := hv
  by_cases h0 : chk 0 l = 0
  · cases hw : inst wall
    · rw [shL_wall hw]
      have hi := rReading_any wall
      rw [hw] at hi
      rw [h0] at hc
      go_enter Try.func24, Try.ntmps24
      go_wp2_with fail
      refine hc.mono ?_
      rintro e w1 ⟨rfl, hb1⟩
      go_wp2_with fail
      refine (hi _).mono ?_
      rintro e w2 ⟨rfl, hb2⟩
      go_wp2
      go_ret
      exact ⟨_, rfl, RdP.nil _ _ _ _ _, hb1.trans (hb2.mono hb1.size)⟩
    · rw [shL_ok h0 hw]
      have hcl := chk_len l 0 (by omega) h0
      have hA := asc_of l 0 0 (by omega) (by omega) h0
      have hi := rReading_any wall
      rw [hw] at hi
      rw [h0] at hc
      go_enter Try.func24, Try.ntmps24
      go_wp2_with fail
      refine hc.mono ?_
      rintro e w1 ⟨rfl, hb1⟩
      have z1 := hb1.size
      go_wp2_with fail
      refine (hi _).mono ?_
      rintro e w2 ⟨rfl, hb2⟩
      have z2 := hb2.size
      have B2 := hb1.trans (hb2.mono z1)
      clear hb1 hb2
      have b3 : Below w2.heap.size w2 (w2.alloc (.cells #[.int .i64 0, .int .i64 0] 34)) := (Below.refl _ _).alloc (Nat.le_refl _) _
      have hlit : (w2.alloc (.cells #[.int .i64 0, .int .i64 0] 34)).ownsRow w2.heap.size 34 2 (.slice (some ⟨w2.heap.size, 0, none⟩) 1 1) [((0 : Int), (0 : Int))].length (flatP [((0 : Int), (0 : Int))]) := World.ownsRow_lit w2 #[.int .i64 0, .int .i64 0] 1 (Nat.le_refl _) (by decide) rfl
      have HL := Lib.hid hlit
      have hrd : RdP (w2.alloc (.cells #[.int .i64 0, .int .i64 0] 34)) L (w2.alloc (.cells #[.int .i64 0, .int .i64 0] 34)).heap.size (.slice A l.length c) l := (hv0.below (B2.trans (b3.mono B2.size))).more (B2.trans (b3.mono B2.size)).size (Nat.le_refl _)
      have HRD := Lib.hid hrd
      clear hlit hrd
      go_wp2_with (at_builtin; refine append_rdS _ rfl _ _ rfl w2.heap.size _ [((0 : Int), (0 : Int))] rfl HL.out L _ _ l _ _ rfl HRD.out ?_ ?_ ?_; (focus (simp; omega)); (focus go_size); intro v4 w4 hown4 hb4; obtain ⟨g4, c4, rfl⟩ := own_shape hown4 (by simp))
      have B4 := B2.trans ((b3.trans hb4).mono B2.size)
      have z4 := B4.size
      have hr4 : RdP w4 w.heap.size w4.heap.size (.slice (some ⟨g4, 0, none⟩) ([((0 : Int), (0 : Int))] ++ l).length c4) ((0, 0) :: l) := (RdP.of_ownS hown4 (by simp; omega)).more (Nat.le_refl _) B2.size
      have hAl : ((0, 0) :: l).length = l.length + 1 := rfl
      rw [show ([((0 : Int), (0 : Int))] ++ l).length = l.length + 1 from rfl] at hr4
      have hl40 : l.length + 1 ≤ 1099511627776 := by omega
      clear hown4 hb4 b3 hv0 z2 B2 z1 hcl HL HRD hc hi
      generalize ((0, 0) :: l : List (Int × Int)) = AL at *
      have HAL := Lib.hid hAl
      have HR := Lib.hid hr4
      have HA := Lib.hid hA
      clear hAl hr4 hA
      go_loopw [6, 24] (fun o i wr => ∃ k : Nat, k ≤ l.length + 1 ∧ i = .int .i64 k ∧ wr.ownsRow w4.heap.size 49 2 o (shS AL wall k).length (flatP (shS AL wall k)) ∧ Below w4.heap.size w4 wr) (fun _ i _ => l.length + 1 - (intOf i).toNat)
      case atStart => exact ⟨0, by omega, rfl, own_nilP _ _, Below.refl _ _⟩
      case round =>
        obtain ⟨k, hk, rfl, hown, hbr⟩ := hrel
        have hbz := hbr.size
        have hle := shS_len AL wall k
        have HO := Lib.hid hown
        clear hown
        have hALn := HAL.out
        by_cases hlt : k < l.length + 1
        · have hx := List.getElem?_eq_getElem (show k < AL.length by omega)
          generalize AL[k] = p at hx
          obtain ⟨t, r⟩ := p
          have hLast := fun q hq => shS_last HA.out wall k q (by omega) hq
          have hAk := HA.out k _ hx
          rw [hx] at hLast
          simp only [endO] at hLast
          dsimp only at hAk
          have hmy := rMay_any _ AL k t r wall wr w.heap.size (HR.out.step hbr (Nat.le_refl _)) hx
          have i2 : (0 : Int) ≤ (k : Int) := by omega
          have i3 : (k : Int) < (l.length : Int) + 1 := by omega
          have i8 : IntKind.i64.wrap ((k : Int) + 1) = (k : Int) + 1 := IntWalk.i64_in _ (by omega)
          have i4 : (0 : Int) ≤ (k : Int) + 1 := by omega
          have i6 : ((k : Int) + 1).toNat = k + 1 := by omega
          clear hALn
          cases hm : mayB r (AL[k + 1]?.map (·.2)) wall
          · rw [hm] at hmy
            have HS2 := Lib.hid (shS_no hx hm)
            clear hm hx hLast hAk
            go_wp2_with fail
            refine hmy.mono ?_
            rintro e w5 ⟨rfl, hb5⟩
            go_wp2
            go_roundw
            case rel => exact ⟨k + 1, by omega, by go_num, by rw [HS2.out]; exact own_below HO.out hb5, hbr.trans (hb5.mono hbz)⟩
            case measure => simp [intOf]; omega
          · rw [hm] at hmy
            have HS2 := Lib.hid (shS_yes hx hm)
            obtain ⟨_, e1, _, hab, c0, c1⟩ := (HR.out.below hbr).at hx
            injection e1 with e1
            subst e1
            rw [plain_add] at c0
            dsimp only at c0 hab
            have HLast := Lib.hid hLast
            clear hm hx hLast c1
            generalize shS AL wall k = R at *
            have hRl : R.length ≤ 1099511627776 := by omega
            by_cases hn : k + 1 < l.length + 1
            · obtain ⟨p, hy⟩ : ∃ p, AL[k + 1]? = some p := ⟨_, List.getElem?_eq_getElem (show k + 1 < AL.length by have := HAL.out; omega)⟩
              obtain ⟨t', r'⟩ := p
              obtain ⟨_, e1, _, hab2, c2, c3⟩ := (HR.out.below hbr).at hy
              injection e1 with e1
              subst e1
              rw [plain_add] at c2
              dsimp only at c2
              rw [hy] at HS2 hAk
              simp only [endO] at HS2 hAk
              have i5 : (k : Int) + 1 < (l.length : Int) + 1 := by omega
              clear hy c3
              go_wp2_with fail
              refine hmy.mono ?_
              rintro e w5 ⟨rfl, hb5⟩
              have z5 := hb5.size
              have HO5 := Lib.hid (own_below HO.out hb5)
              have B5 : Below w4.heap.size w4 w5 := hbr.trans (hb5.mono hbz)
              have c5 := (hb5.cell (p := ⟨g4, k * 2, none⟩) (by show g4 < _; omega)).trans c0
              have c6 := (hb5.cell (p := ⟨g4, (k + 1) * 2, none⟩) (by show g4 < _; omega)).trans c2
              have hg5 : g4 < w5.heap.size := by omega
              have c7 : (w5.alloc (.cells #[.int .i64 t, .int .i64 1099511627776] 49)).cell? ⟨g4, (k + 1) * 2, none⟩ = some (.int .i64 t') := (((Below.refl w5.heap.size w5).alloc (Nat.le_refl _) _).cell (p := ⟨g4, (k + 1) * 2, none⟩) hg5).trans c6
              clear HO hb5 c0 c2 hmy
              have oW := Own.new w5 49 #[.int .i64 t, .int .i64 t']
              have b6 : Below w5.heap.size w5 (w5.alloc (.cells #[.int .i64 t, .int .i64 t'] 49)) := (Below.refl _ _).alloc (Nat.le_refl _) _
              have lW := oW.lt
              have BW : Below w4.heap.size w4 (w5.alloc (.cells #[.int .i64 t, .int .i64 t'] 49)) := B5.trans (b6.mono (by omega))
              have HOW := Lib.hid (World.ownsRow.alloc HO5.out (.cells #[.int .i64 t, .int .i64 t'] 49))
              rcases List.eq_nil_or_concat R with rfl | ⟨m, q, rfl⟩
              · have hS3 := Lib.hid (HS2.out.trans (gst_nil (t, t')))
                have hgt := own_get HO5.out
                clear HS2
                rcases hgt with ⟨rfl, _⟩ | ⟨g, cc, rfl, hbg, hg, hnc, _⟩
                all_goals
                  go_wp2
                  generalize w5.alloc (.cells #[.int .i64 t, .int .i64 t'] 49) = W at *
                  (refine wp_region_after (by kernel_rfl) (by kernel_rfl) ?_; (repeat (go_big_quiet_step (fail))); refine wpQuiet_nil ?_; intro wq hw0; obtain ⟨⟨wq0, hbq⟩, hw1⟩ := hw0; subst hw1; (try dsimp only))
                  have zq := hbq.size
                  have HXq := Lib.hid (own_below HOW.out hbq)
                  have oN := Own.below oW hbq lW
                  have n0 : wq.cell? ⟨w5.heap.size, 0, none⟩ = some (.int .i64 t) := oN.cell 0
                  have n1 : wq.cell? ⟨w5.heap.size, 1, none⟩ = some (.int .i64 t') := oN.cell 1
                  go_wp2_with (at_builtin; refine append_perG _ rfl _ _ rfl w4.heap.size _ [] rfl (World.ownsRow.alloc HXq.out _) ⟨wq.heap.size, 0, none⟩ t t' rfl (cell_two _ _ _ _) ?_ ?_ ?_; (focus (simp)); (focus go_size); intro v1 w6 hown1 hb1)
                  go_roundw
                  case rel => exact ⟨k + 1, by omega, by go_num, by rw [hS3.out]; exact hown1, (BW.trans (hbq.mono (by omega))).trans (((Below.refl w4.heap.size wq).alloc (by omega) _).trans hb1)⟩
                  case measure => simp [intOf]; omega
              · rw [List.concat_eq_append] at *
                obtain ⟨x, y⟩ := q
                have hL := HLast.out (x, y) (by simp)
                dsimp only at hL
                have hgt := own_get HO5.out
                rcases hgt with ⟨_, h0⟩ | ⟨g, cc, rfl, hbg, hg, hnc, hcell⟩
                · simp at h0
                · have hml : (m ++ [(x, y)]).length = m.length + 1 := by simp
                  obtain ⟨k0, k1⟩ := flatP_get (m ++ [(x, y)]) m.length (x, y) (by simp)
                  have d0 := (b6.cell (p := ⟨g, m.length * 2, none⟩) hg).trans (hcell _ _ k0)
                  have d1 := (b6.cell (p := ⟨g, m.length * 2 + 1, none⟩) hg).trans (hcell _ _ k1)
                  dsimp only at d0 d1
                  have HOV : Hid ((w5.alloc (.cells #[.int .i64 t, .int .i64 t'] 49)).ownsRow w4.heap.size 49 2 (.slice (some ⟨g, 0, none⟩) (m.length + 1) cc) (m ++ [(x, y)]).length (flatP (m ++ [(x, y)]))) := Lib.hid (by
                    have h := HOW.out
                    rwa [show Value.slice (some ⟨g, 0, none⟩) (m ++ [(x, y)]).length cc = Value.slice (some ⟨g, 0, none⟩) (m.length + 1) cc by rw [hml]] at h)
                  rw [hml] at hRl hnc hle
                  rw [hml]
                  have i1 : IntKind.i64.wrap ((m.length : Int) + 1 - 1) = m.length := by rw [show (m.length : Int) + 1 - 1 = m.length by omega]; exact IntWalk.i64_in _ (by omega)
                  have i7 : IntKind.i64.wrap (m.length : Int) = m.length := IntWalk.i64_in _ (by omega)
                  have j2 : (0 : Int) ≤ (m.length : Int) := by omega
                  have j3 : (m.length : Int) < (m.length : Int) + 1 := by omega
                  have j4 : decide ((m.length : Int) + 1 > 0) = true := decide_eq_true (by omega)
                  clear hcell k0 k1 HO5 HOW hml hL HLast
                  by_cases hyt : y = t
                  · have hS3 := Lib.hid (HS2.out.trans (gst_glue hyt))
                    clear HS2 hAk
                    subst hyt
                    have hyy : (y == y) = true := by simp
                    go_wp2
                    generalize w5.alloc (.cells #[.int .i64 y, .int .i64 t'] 49) = W at *
                    have f0 : ∀ p : After W, p.w.cell? ⟨w5.heap.size, 0, none⟩ = some (.int .i64 y) := after_cell lW (oW.cell 0)
                    have f2 : ∀ p : After W, p.w.cell? ⟨g, m.length * 2, none⟩ = some (.int .i64 x) := after_cell (by show g < W.heap.size; omega) d0
                    have f3 : ∀ p : After W, p.w.cell? ⟨g, m.length * 2 + 1, none⟩ = some (.int .i64 y) := after_cell (by show g < W.heap.size; omega) d1
                    (refine wp_region_after (by kernel_rfl) (by kernel_rfl) ?_; (repeat (go_big_quiet_step (fail))); refine wpQuiet_nil ?_; intro wq hw0; obtain ⟨⟨wq0, hbq⟩, hw1⟩ := hw0; subst hw1; (try dsimp only))
                    have zq := hbq.size
                    have HXq := Lib.hid (own_below HOV.out hbq)
                    have oN := Own.below oW hbq lW
                    have n0 : wq.cell? ⟨w5.heap.size, 0, none⟩ = some (.int .i64 y) := oN.cell 0
                    have n1 : wq.cell? ⟨w5.heap.size, 1, none⟩ = some (.int .i64 t') := oN.cell 1
                    have BQ : Below w4.heap.size w4 wq := BW.trans (hbq.mono (by omega))
                    have hml : (m ++ [(x, y)]).length = m.length + 1 := by simp
                    have HX2 : Hid (wq.ownsRow w4.heap.size 49 2 (.slice (some ⟨g, 0, none⟩) (m.length + 1) cc) (m.length + 1) (flatP (m ++ [(x, y)]))) := Lib.hid (by have h := HXq.out; rwa [hml] at h)
                    have q1 : wq.cell? ⟨g, m.length * 2 + 1, none⟩ = some (.int .i64 y) := f3 ⟨wq, hbq⟩
                    have fr := World.ownsRow.frozenAt HX2.out (m.length * 2 + 1)
                    have hst := Lib.hid (World.ownsRow.stored HX2.out (m.length * 2 + 1) (.int .i64 t'))
                    clear f0 f2 f3 hml
                    go_wp2
                    go_roundw
                    case rel => exact ⟨k + 1, by omega, by go_num, by rw [hS3.out, List.length_append, List.length_singleton, ← flatP_set m x y t']; exact hst.out.1, BQ.setCell (by show w4.heap.size ≤ g; omega) _⟩
                    case measure => simp [intOf]; omega
                  · have hS3 := Lib.hid (HS2.out.trans (gst_far hyt))
                    have hyy : (y == t) = false := by simpa using hyt
                    clear HS2 hAk
                    go_wp2
                    generalize w5.alloc (.cells #[.int .i64 t, .int .i64 t'] 49) = W at *
                    have f0 : ∀ p : After W, p.w.cell? ⟨w5.heap.size, 0, none⟩ = some (.int .i64 t) := after_cell lW (oW.cell 0)
                    have f2 : ∀ p : After W, p.w.cell? ⟨g, m.length * 2, none⟩ = some (.int .i64 x) := after_cell (by show g < W.heap.size; omega) d0
                    have f3 : ∀ p : After W, p.w.cell? ⟨g, m.length * 2 + 1, none⟩ = some (.int .i64 y) := after_cell (by show g < W.heap.size; omega) d1
                    (refine wp_region_after (by kernel_rfl) (by kernel_rfl) ?_; (repeat (go_big_quiet_step (fail))); refine wpQuiet_nil ?_; intro wq hw0; obtain ⟨⟨wq0, hbq⟩, hw1⟩ := hw0; subst hw1; (try dsimp only))
                    have zq := hbq.size
                    have HXq := Lib.hid (own_below HOV.out hbq)
                    have oN := Own.below oW hbq lW
                    have n0 : wq.cell? ⟨w5.heap.size, 0, none⟩ = some (.int .i64 t) := oN.cell 0
                    have n1 : wq.cell? ⟨w5.heap.size, 1, none⟩ = some (.int .i64 t') := oN.cell 1
                    have BQ : Below w4.heap.size w4 wq := BW.trans (hbq.mono (by omega))
                    go_wp2_with (at_builtin; refine append_perG _ rfl _ _ rfl w4.heap.size _ (m ++ [(x, y)]) rfl (World.ownsRow.alloc HXq.out _) ⟨wq.heap.size, 0, none⟩ t t' rfl (cell_two _ _ _ _) ?_ ?_ ?_; (focus (rw [List.length_append, List.length_singleton]; omega)); (focus go_size); intro v1 w6 hown1 hb1)
                    go_roundw
                    case rel => exact ⟨k + 1, by omega, by go_num, by rw [hS3.out]; exact hown1, BQ.trans (((Below.refl w4.heap.size wq).alloc (by omega) _).trans hb1)⟩
                    case measure => simp [intOf]; omega
            · rw [List.getElem?_eq_none (show AL.length ≤ k + 1 by have := HAL.out; omega)] at HS2 hAk
              simp only [endO] at HS2 hAk
              have i5 : ¬ (k : Int) + 1 < (l.length : Int) + 1 := by omega
              go_wp2_with fail
              refine hmy.mono ?_
              rintro e w5 ⟨rfl, hb5⟩
              have z5 := hb5.size
              have HO5 := Lib.hid (own_below HO.out hb5)
              have B5 : Below w4.heap.size w4 w5 := hbr.trans (hb5.mono hbz)
              have c5 := (hb5.cell (p := ⟨g4, k * 2, none⟩) (by show g4 < _; omega)).trans c0
              clear HO hb5 c0 hmy
              have oW := Own.new w5 49 #[.int .i64 t, .int .i64 1099511627776]
              have b6 : Below w5.heap.size w5 (w5.alloc (.cells #[.int .i64 t, .int .i64 1099511627776] 49)) := (Below.refl _ _).alloc (Nat.le_refl _) _
              have lW := oW.lt
              have BW : Below w4.heap.size w4 (w5.alloc (.cells #[.int .i64 t, .int .i64 1099511627776] 49)) := B5.trans (b6.mono (by omega))
              have HOW := Lib.hid (World.ownsRow.alloc HO5.out (.cells #[.int .i64 t, .int .i64 1099511627776] 49))
              rcases List.eq_nil_or_concat R with rfl | ⟨m, q, rfl⟩
              · have hS3 := Lib.hid (HS2.out.trans (gst_nil (t, 1099511627776)))
                have hgt := own_get HO5.out
                clear HS2
                rcases hgt with ⟨rfl, _⟩ | ⟨g, cc, rfl, hbg, hg, hnc, _⟩
                all_goals
                  go_wp2
                  generalize w5.alloc (.cells #[.int .i64 t, .int .i64 1099511627776] 49) = W at *
                  (refine wp_region_after (by kernel_rfl) (by kernel_rfl) ?_; (repeat (go_big_quiet_step (fail))); refine wpQuiet_nil ?_; intro wq hw0; obtain ⟨⟨wq0, hbq⟩, hw1⟩ := hw0; subst hw1; (try dsimp only))
                  have zq := hbq.size
                  have HXq := Lib.hid (own_below HOW.out hbq)
                  have oN := Own.below oW hbq lW
                  have n0 : wq.cell? ⟨w5.heap.size, 0, none⟩ = some (.int .i64 t) := oN.cell 0
                  have n1 : wq.cell? ⟨w5.heap.size, 1, none⟩ = some (.int .i64 1099511627776) := oN.cell 1
                  go_wp2_with (at_builtin; refine append_perG _ rfl _ _ rfl w4.heap.size _ [] rfl (World.ownsRow.alloc HXq.out _) ⟨wq.heap.size, 0, none⟩ t 1099511627776 rfl (cell_two _ _ _ _) ?_ ?_ ?_; (focus (simp)); (focus go_size); intro v1 w6 hown1 hb1)
                  go_roundw
                  case rel => exact ⟨k + 1, by omega, by go_num, by rw [hS3.out]; exact hown1, (BW.trans (hbq.mono (by omega))).trans (((Below.refl w4.heap.size wq).alloc (by omega) _).trans hb1)⟩
                  case measure => simp [intOf]; omega
              · rw [List.concat_eq_append] at *
                obtain ⟨x, y⟩ := q
                have hL := HLast.out (x, y) (by simp)
                dsimp only at hL
                have hgt := own_get HO5.out
                rcases hgt with ⟨_, h0⟩ | ⟨g, cc, rfl, hbg, hg, hnc, hcell⟩
                · simp at h0
                · have hml : (m ++ [(x, y)]).length = m.length + 1 := by simp
                  obtain ⟨k0, k1⟩ := flatP_get (m ++ [(x, y)]) m.length (x, y) (by simp)
                  have d0 := (b6.cell (p := ⟨g, m.length * 2, none⟩) hg).trans (hcell _ _ k0)
                  have d1 := (b6.cell (p := ⟨g, m.length * 2 + 1, none⟩) hg).trans (hcell _ _ k1)
                  dsimp only at d0 d1
                  have HOV : Hid ((w5.alloc (.cells #[.int .i64 t, .int .i64 1099511627776] 49)).ownsRow w4.heap.size 49 2 (.slice (some ⟨g, 0, none⟩) (m.length + 1) cc) (m ++ [(x, y)]).length (flatP (m ++ [(x, y)]))) := Lib.hid (by
                    have h := HOW.out
                    rwa [show Value.slice (some ⟨g, 0, none⟩) (m ++ [(x, y)]).length cc = Value.slice (some ⟨g, 0, none⟩) (m.length + 1) cc by rw [hml]] at h)
                  rw [hml] at hRl hnc hle
                  rw [hml]
                  have i1 : IntKind.i64.wrap ((m.length : Int) + 1 - 1) = m.length := by rw [show (m.length : Int) + 1 - 1 = m.length by omega]; exact IntWalk.i64_in _ (by omega)
                  have i7 : IntKind.i64.wrap (m.length : Int) = m.length := IntWalk.i64_in _ (by omega)
                  have j2 : (0 : Int) ≤ (m.length : Int) := by omega
                  have j3 : (m.length : Int) < (m.length : Int) + 1 := by omega
                  have j4 : decide ((m.length : Int) + 1 > 0) = true := decide_eq_true (by omega)
                  clear hcell k0 k1 HO5 HOW hml hL HLast
                  by_cases hyt : y = t
                  · have hS3 := Lib.hid (HS2.out.trans (gst_glue hyt))
                    clear HS2 hAk
                    subst hyt
                    have hyy : (y == y) = true := by simp
                    go_wp2
                    generalize w5.alloc (.cells #[.int .i64 y, .int .i64 1099511627776] 49) = W at *
                    have f0 : ∀ p : After W, p.w.cell? ⟨w5.heap.size, 0, none⟩ = some (.int .i64 y) := after_cell lW (oW.cell 0)
                    have f2 : ∀ p : After W, p.w.cell? ⟨g, m.length * 2, none⟩ = some (.int .i64 x) := after_cell (by show g < W.heap.size; omega) d0
                    have f3 : ∀ p : After W, p.w.cell? ⟨g, m.length * 2 + 1, none⟩ = some (.int .i64 y) := after_cell (by show g < W.heap.size; omega) d1
                    (refine wp_region_after (by kernel_rfl) (by kernel_rfl) ?_; (repeat (go_big_quiet_step (fail))); refine wpQuiet_nil ?_; intro wq hw0; obtain ⟨⟨wq0, hbq⟩, hw1⟩ := hw0; subst hw1; (try dsimp only))
                    have zq := hbq.size
                    have HXq := Lib.hid (own_below HOV.out hbq)
                    have oN := Own.below oW hbq lW
                    have n0 : wq.cell? ⟨w5.heap.size, 0, none⟩ = some (.int .i64 y) := oN.cell 0
                    have n1 : wq.cell? ⟨w5.heap.size, 1, none⟩ = some (.int .i64 1099511627776) := oN.cell 1
                    have BQ : Below w4.heap.size w4 wq := BW.trans (hbq.mono (by omega))
                    have hml : (m ++ [(x, y)]).length = m.length + 1 := by simp
                    have HX2 : Hid (wq.ownsRow w4.heap.size 49 2 (.slice (some ⟨g, 0, none⟩) (m.length + 1) cc) (m.length + 1) (flatP (m ++ [(x, y)]))) := Lib.hid (by have h := HXq.out; rwa [hml] at h)
                    have q1 : wq.cell? ⟨g, m.length * 2 + 1, none⟩ = some (.int .i64 y) := f3 ⟨wq, hbq⟩
                    have fr := World.ownsRow.frozenAt HX2.out (m.length * 2 + 1)
                    have hst := Lib.hid (World.ownsRow.stored HX2.out (m.length * 2 + 1) (.int .i64 1099511627776))
                    clear f0 f2 f3 hml
                    go_wp2
                    go_roundw
                    case rel => exact ⟨k + 1, by omega, by go_num, by rw [hS3.out, List.length_append, List.length_singleton, ← flatP_set m x y 1099511627776]; exact hst.out.1, BQ.setCell (by show w4.heap.size ≤ g; omega) _⟩
                    case measure => simp [intOf]; omega
                  · have hS3 := Lib.hid (HS2.out.trans (gst_far hyt))
                    have hyy : (y == t) = false := by simpa using hyt
                    clear HS2 hAk
                    go_wp2
                    generalize w5.alloc (.cells #[.int .i64 t, .int .i64 1099511627776] 49) = W at *
                    have f0 : ∀ p : After W, p.w.cell? ⟨w5.heap.size, 0, none⟩ = some (.int .i64 t) := after_cell lW (oW.cell 0)
                    have f2 : ∀ p : After W, p.w.cell? ⟨g, m.length * 2, none⟩ = some (.int .i64 x) := after_cell (by show g < W.heap.size; omega) d0
                    have f3 : ∀ p : After W, p.w.cell? ⟨g, m.length * 2 + 1, none⟩ = some (.int .i64 y) := after_cell (by show g < W.heap.size; omega) d1
                    (refine wp_region_after (by kernel_rfl) (by kernel_rfl) ?_; (repeat (go_big_quiet_step (fail))); refine wpQuiet_nil ?_; intro wq hw0; obtain ⟨⟨wq0, hbq⟩, hw1⟩ := hw0; subst hw1; (try dsimp only))
                    have zq := hbq.size
                    have HXq := Lib.hid (own_below HOV.out hbq)
                    have oN := Own.below oW hbq lW
                    have n0 : wq.cell? ⟨w5.heap.size, 0, none⟩ = some (.int .i64 t) := oN.cell 0
                    have n1 : wq.cell? ⟨w5.heap.size, 1, none⟩ = some (.int .i64 1099511627776) := oN.cell 1
                    have BQ : Below w4.heap.size w4 wq := BW.trans (hbq.mono (by omega))
                    go_wp2_with (at_builtin; refine append_perG _ rfl _ _ rfl w4.heap.size _ (m ++ [(x, y)]) rfl (World.ownsRow.alloc HXq.out _) ⟨wq.heap.size, 0, none⟩ t 1099511627776 rfl (cell_two _ _ _ _) ?_ ?_ ?_; (focus (rw [List.length_append, List.length_singleton]; omega)); (focus go_size); intro v1 w6 hown1 hb1)
                    go_roundw
                    case rel => exact ⟨k + 1, by omega, by go_num, by rw [hS3.out]; exact hown1, BQ.trans (((Below.refl w4.heap.size wq).alloc (by omega) _).trans hb1)⟩
                    case measure => simp [intOf]; omega
        · obtain rfl : k = l.length + 1 := by omega
          have hd : ¬ ((l.length + 1 : Nat) : Int) < (l.length : Int) + 1 := by omega
          have hle2 : (shS AL wall (l.length + 1)).length ≤ 9223372036854775807 := by omega
          clear hALn HAL
          go_wp2
          go_ret
          exact ⟨_, rfl, (RdP.of_own HO.out hle2).more (Nat.le_refl _) z4, B4.trans (hbr.mono z4)⟩
  · rw [shL_bad h0]
    have hne : (chk 0 l != 0) = true := by simpa using h0
    generalize chk 0 l = ee at hc hne
    go_enter Try.func24, Try.ntmps24
    go_wp2_with fail
    refine hc.mono ?_
    rintro e w1 ⟨rfl, hb1⟩
    go_wp2
    go_ret
    exact ⟨_, rfl, RdP.nil _ _ _ _ _, hb1⟩
end Go.Proofs.Ytonhlejeedhpiaa
