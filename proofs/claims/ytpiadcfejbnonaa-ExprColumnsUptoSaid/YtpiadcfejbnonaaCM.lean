import Derived.Test.YtpiadcfejbnonaaQY
import Derived.Test.YtpiadcfejbnonaaUE
import Derived.Test.YtpiadcfejbnonaaTB
import Derived.WalkKit
import Derived.WalkSpells
import Derived.WalkLawsBesides
import Derived.Deep.QuietTactic
import Derived.BigQuiet
import Derived.Handy
import Derived.Lib.Hide
import Derived.Test.YtpiadcfejbnonaaMC
import Derived.Laws.AppendOwnNone
import Derived.Laws.OwnMore
/-
  The value of an expression depends on its columns alone; shifted columns read the shifted row: mathematics. Conditions: none.
-/
namespace Go.Proofs.Ytpiadcfejbnonaa
set_option linter.unusedVariables false
set_option linter.unusedSimpArgs false
set_option maxRecDepth 100000
open Go.RowKit

theorem opE_row (op n n' : Int) (v : Vl) (row row' l : List Vl) (h : op = 2 → colP row n = colP row' n') (hn : op ≠ 2 → n = n') : opE op n v row l = opE op n' v row' l := by
  by_cases h2 : op = 2
  · subst h2
    unfold opE
    simp [h rfl]
  · obtain rfl := hn h2
    unfold opE
    simp [h2]
theorem evE_row (row row' : List Vl) : ∀ (d : Nat) (e : Ex), (∀ c ∈ colE d e, colP row c = colP row' c) → evE row d e = evE row' d e
  | 0, _, _ => rfl
  | d + 1, e, h => by
    have h1 : e.args.map (evE row d) = e.args.map (evE row' d) := List.map_congr_left fun a ha => evE_row row row' d a fun c hc => h c (List.mem_append_right _ (List.mem_flatMap.2 ⟨a, ha, hc⟩))
    unfold evE
    rw [h1]
    congr 1
    refine opE_row _ _ _ _ _ _ _ (fun h2 => h e.n (List.mem_append_left _ ?_)) (fun _ => rfl)
    unfold colH
    rw [if_pos h2]
    exact List.mem_singleton.2 rfl
theorem wf_two (n n' k m : Int) (s nm : ByteArray) (l : Nat) : wfE 2 n k m s nm l = wfE 2 n' k m s nm l := by
  unfold wfE fldE
  simp
theorem evE_shift (row row' : List Vl) (k : Int) : ∀ (d : Nat) (e : Ex), (∀ c ∈ colE d e, colP row (wrap64 (c + k)) = colP row' c) → evE row d (shX k d e) = evE row' d e
  | 0, _, _ => rfl
  | d + 1, e, h => by
    obtain ⟨op, n, v, nm, es⟩ := e
    have h1 : (es.map (shX k d)).map (evE row d) = es.map (evE row' d) := by
      rw [List.map_map]
      exact List.map_congr_left fun a ha => evE_shift row row' k d a fun c hc => h c (List.mem_append_right _ (List.mem_flatMap.2 ⟨a, ha, hc⟩))
    show (if wfE op (if op = 2 then wrap64 (n + k) else n) v.1 v.2.1 v.2.2 nm (es.map (shX k d)).length then opE op (if op = 2 then wrap64 (n + k) else n) v row ((es.map (shX k d)).map (evE row d)) else nullP) = if wfE op n v.1 v.2.1 v.2.2 nm es.length then opE op n v row' (es.map (evE row' d)) else nullP
    rw [h1, List.length_map]
    by_cases h2 : op = 2
    · subst h2
      rw [if_pos rfl, wf_two _ n, opE_row 2 (wrap64 (n + k)) n v row row' _ (fun _ => h n (List.mem_append_left _ ?_)) (fun q => absurd rfl q)]
      exact List.mem_singleton.2 rfl
    · rw [if_neg h2, opE_row op n n v row row' _ (fun q => absurd q h2) (fun _ => rfl)]
/-- A value of the row put at a column, a null behind the row. -/
def mixU (row m : List Vl) (c : Int) : List Vl := if 0 ≤ c ∧ c < row.length then m.set c.toNat (row.getD c.toNat nullP) else if 0 ≤ c ∧ c < m.length then m.set c.toNat nullP else m
theorem mixU_len (row m : List Vl) (c : Int) : (mixU row m c).length = m.length := by
  unfold mixU
  split
  · simp
  · split <;> simp
theorem nrm_null : nrmP nullP = nullP := by unfold nrmP; rw [if_pos vld_null]
theorem colP_none (row : List Vl) (c : Int) (h : ¬ (0 ≤ c ∧ c < row.length)) : colP row c = nullP := by
  unfold colP
  split
  · rw [List.getElem?_eq_none (by omega)]
  · rfl
theorem colP_some (row : List Vl) (j : Nat) (p : Vl) (h : row[j]? = some p) : colP row (j : Int) = nrmP p := by
  unfold colP
  rw [if_pos (by omega), Int.toNat_natCast, h]
theorem mixU_new (row m : List Vl) (c : Int) (hl : row.length ≤ m.length) : colP (mixU row m c) c = colP row c := by
  unfold mixU
  by_cases h : 0 ≤ c ∧ c < row.length
  · rw [if_pos h]
    obtain ⟨j, rfl⟩ := Int.eq_ofNat_of_zero_le h.1
    have hj : j < row.length := by omega
    rw [Int.toNat_natCast, colP_some _ j _ (List.getElem?_set_self (by omega)), colP_some row j _ (List.getElem?_eq_getElem hj)]
    simp [List.getD, List.getElem?_eq_getElem hj]
  · rw [if_neg h, colP_none row c h]
    by_cases h2 : 0 ≤ c ∧ c < m.length
    · rw [if_pos h2]
      obtain ⟨j, rfl⟩ := Int.eq_ofNat_of_zero_le h2.1
      rw [Int.toNat_natCast, colP_some _ j _ (List.getElem?_set_self (by omega)), nrm_null]
    · rw [if_neg h2, colP_none m c h2]
theorem mixU_old (row m : List Vl) (c c' : Int) (hl : row.length ≤ m.length) (h : colP m c' = colP row c') : colP (mixU row m c) c' = colP row c' := by
  by_cases e : c' = c
  · subst e; exact mixU_new row m c' hl
  · rw [← h]
    have key : ∀ p : Vl, 0 ≤ c → colP (m.set c.toNat p) c' = colP m c' := fun p h0 => by
      unfold colP
      by_cases h1 : 0 ≤ c'
      · rw [if_pos h1, if_pos h1, List.getElem?_set_ne (by omega)]
      · rw [if_neg h1, if_neg h1]
    unfold mixU
    split
    · rename_i h1; exact key _ h1.1
    · split
      · rename_i h1; exact key _ h1.1
      · rfl
theorem mix_all (row : List Vl) : ∀ (cs : List Int) (m : List Vl), row.length ≤ m.length → (∀ c ∈ cs, colP (cs.foldl (mixU row) m) c = colP row c) ∧ ∀ c', colP m c' = colP row c' → colP (cs.foldl (mixU row) m) c' = colP row c'
  | [], m, _ => ⟨by simp, fun _ h => h⟩
  | c :: cs, m, hl => by
    obtain ⟨h1, h2⟩ := mix_all row cs (mixU row m c) (by rw [mixU_len]; exact hl)
    refine ⟨fun x hx => ?_, fun c' h => h2 c' (mixU_old row m c c' hl h)⟩
    rcases List.mem_cons.1 hx with rfl | hx
    · exact h2 x (mixU_new row m x hl)
    · exact h1 x hx
theorem mix_len (row : List Vl) : ∀ (cs : List Int) (m : List Vl), (cs.foldl (mixU row) m).length = m.length
  | [], _ => rfl
  | c :: cs, m => by rw [List.foldl_cons, mix_len row cs, mixU_len]
/-- The value depends on the columns alone. -/
theorem ev_mixed (row m : List Vl) (d : Nat) (e : Ex) (hl : row.length ≤ m.length) : evE ((colS (colE d e)).foldl (mixU row) m) d e = evE row d e :=
  evE_row _ _ d e fun c hc => (mix_all row _ m hl).1 c (((colS_asc _).2 c).2 hc)
/-- Shifted columns read the shifted row. -/
theorem ev_shifted (before row : List Vl) (d : Nat) (e : Ex) (hb : before.length ≤ 1000) (hs : ∀ c ∈ colS (colE d e), 0 ≤ c ∧ c < 1048576) : evE (before ++ row) d (shX (before.length : Nat) d e) = evE row d e :=
  evE_shift _ _ _ d e fun c hc => by
    obtain ⟨h1, h2⟩ := hs c (((colS_asc _).2 c).2 hc)
    obtain ⟨j, rfl⟩ := Int.eq_ofNat_of_zero_le h1
    have hw : wrap64 ((j : Int) + (before.length : Nat)) = ((before.length + j : Nat) : Int) := by unfold wrap64; omega
    rw [hw]
    unfold colP
    rw [if_pos (by omega), if_pos (by omega), Int.toNat_natCast, Int.toNat_natCast, List.getElem?_append_right (by omega), show before.length + j - before.length = j by omega]
end Go.Proofs.Ytpiadcfejbnonaa
/-
  Rows of values that are made of others: appended as a whole, one value put; the reference's Concat. Conditions: lengths.
-/
namespace Go.Proofs.Ytpiadcfejbnonaa
set_option linter.unusedVariables false
set_option linter.unusedSimpArgs false
set_option maxRecDepth 100000
open Go.RowKit

/-- A nil slice has no room. -/
def NilV (v : Value) : Prop := ∀ n c, v = .slice none n c → c = 0
theorem append_rowV {ops : Array Oper} {rest : List Oper} {o : Oper} {a : Act} {Q : Exit → Act → World → Prop} (W : World) (hgd : o.guard = none) (s x : Operand)
    (ho : o.op = .call { callee := .builtin .append, args := #[s, x], argTypes := #[33, 33] }) (base : Nat) (v : Value) (l : List Vl) (hs : a.eval s = v)
    (hown : W.ownsRow base 23 3 v l.length (flatV l)) (vx : Value) (m : List Vl) (L B : Nat) (hx : a.eval x = vx) (hv : RdV W L B vx m) (hN : NilV vx)
    (hl : l.length + m.length ≤ 2199023255552) (hbase : base ≤ W.heap.size)
    (h : ∀ v' w', w'.ownsRow base 23 3 v' (l ++ m).length (flatV (l ++ m)) → Below base W w' → wpList Try.prog ops Q rest (a.put o.dst v') w') :
    wpList Try.prog ops Q (o :: rest) a W := by
  obtain ⟨A, c, rfl, hlm, hc⟩ := hv
  cases A with
  | none =>
    have hm : m = [] := by
      cases m with
      | nil => rfl
      | cons p t => obtain ⟨ad, h1, _⟩ := hc 0 p rfl; cases h1
    subst hm
    obtain rfl := hN _ _ rfl
    obtain ⟨i0, hi, _⟩ := info_partsB infoV
    refine wpList_append_own_none hgd s x 33 ho base 23 i0 3 Try.underlying33 hi v l.length (flatV l) hs hown hx ?_
    exact h v W (by rw [List.append_nil]; exact hown) (Below.refl _ _)
  | some ad =>
    refine append_val W hgd s x ho base v l hs hown ad m c hx (fun j u hj => ?_) hl hbase h
    have hj1 : j < m.length * 3 := by rw [← flatV_len]; exact (List.getElem?_eq_some_iff.1 hj).1
    have hk : j / 3 < m.length := by omega
    obtain ⟨ad2, h1, _, _, c0, c1, c2⟩ := hc (j / 3) _ (List.getElem?_eq_getElem hk)
    injection h1 with h1
    subst h1
    obtain ⟨f0, f1, f2⟩ := flatV_get m (j / 3) _ (List.getElem?_eq_getElem hk)
    have hadd : ∀ n, (ad.add (j / 3 * 3)).off + n = ad.off + (j / 3 * 3 + n) := fun n => by unfold Addr.add; split <;> simp_all <;> omega
    rcases (show j = j / 3 * 3 ∨ j = j / 3 * 3 + 1 ∨ j = j / 3 * 3 + 2 by omega) with e | e | e
    · rw [e] at hj ⊢
      rw [f0] at hj
      rw [c0]; exact hj
    · have ha : ad.add j = ⟨(ad.add (j / 3 * 3)).block, (ad.add (j / 3 * 3)).off + 1, none⟩ := by
        rw [hadd 1, add_block, ← e]; unfold Addr.add; rw [if_neg (by omega)]
      rw [e] at hj
      rw [f1] at hj
      rw [ha, c1]; exact hj
    · have ha : ad.add j = ⟨(ad.add (j / 3 * 3)).block, (ad.add (j / 3 * 3)).off + 2, none⟩ := by
        rw [hadd 2, add_block, ← e]; unfold Addr.add; rw [if_neg (by omega)]
      rw [e] at hj
      rw [f2] at hj
      rw [ha, c2]; exact hj
theorem flatV_set : ∀ (ps : List Vl) (c : Nat) (p : Vl), c < ps.length → (((flatV ps).set (c * 3) (.int .i64 p.1)).set (c * 3 + 1) (.int .i64 p.2.1)).set (c * 3 + 2) (.string p.2.2) = flatV (ps.set c p)
  | q :: t, 0, p, _ => rfl
  | q :: t, c + 1, p, h => by
    have ih := flatV_set t c p (by simpa using h)
    rw [show (c + 1) * 3 = c * 3 + 1 + 1 + 1 by omega, show c * 3 + 1 + 1 + 1 + 1 = c * 3 + 1 + 1 + 1 + 1 from rfl, show c * 3 + 1 + 1 + 1 + 2 = c * 3 + 2 + 1 + 1 + 1 by omega, show c * 3 + 1 + 1 + 1 + 1 = c * 3 + 1 + 1 + 1 + 1 from rfl]
    show (((.int .i64 q.1 :: .int .i64 q.2.1 :: .string q.2.2 :: flatV t : List Value).set (c * 3 + 1 + 1 + 1) _).set (c * 3 + 1 + 1 + 1 + 1) _).set (c * 3 + 2 + 1 + 1 + 1) _ = .int .i64 q.1 :: .int .i64 q.2.1 :: .string q.2.2 :: flatV (t.set c p)
    rw [← ih]
    rfl
/-- An own row after the three stores of a value. -/
theorem own_put {w : World} {base g n cap c : Nat} {ps : List Vl} (h : w.ownsRow base 23 3 (.slice (some ⟨g, 0, none⟩) n cap) n (flatV ps)) (hc : c < ps.length) (p : Vl) :
    (((w.setCell ⟨g, c * 3, none⟩ (.int .i64 p.1)).setCell ⟨g, c * 3 + 1, none⟩ (.int .i64 p.2.1)).setCell ⟨g, c * 3 + 2, none⟩ (.string p.2.2)).ownsRow base 23 3 (.slice (some ⟨g, 0, none⟩) n cap) n (flatV (ps.set c p)) := by
  rw [← flatV_set ps c p hc]
  exact (((h.stored (c * 3) _).1.stored (c * 3 + 1) _).1.stored (c * 3 + 2) _).1
theorem emptyV (w : World) : (w.alloc (.cells #[] 23)).ownsRow w.heap.size 23 3 (.slice (some ⟨w.heap.size, 0, none⟩) 0 0) ([] : List Vl).length (flatV []) :=
  ⟨rfl, .inr ⟨w.heap.size, 0, #[], rfl, Nat.le_refl _, heap_alloc_new w _, Nat.le_refl _, Nat.zero_le _, rfl, rfl⟩⟩
set_option maxRecDepth 100000 in
set_option maxHeartbeats 3200000 in
theorem rConcat_any (u v : Value) (l m : List Vl) (w : World) (L L2 : Nat) (hu : RdV w L w.heap.size u l) (hv : RdV w L2 w.heap.size v m) (nu : NilV u) (nv : NilV v) (hl : l.length + m.length ≤ 1099511627776) :
    Calls Try.prog 29 #[u, v] w fun e w' => ∃ x, e = .returned x ∧ RdV w' 0 w'.heap.size x (l ++ m) ∧ Below w.heap.size w w' := by
  have hu0 := Lib.hid hu
  have hv0 := Lib.hid hv
  have HNU := Lib.hid nu
  have HNV := Lib.hid nv
  have HW := Lib.hid (emptyV w)
  have HB := Lib.hid (bel_mk w (.cells #[] 23))
  have HL := Lib.hid hl
  obtain ⟨A, c, rfl, _, _⟩ := hu
  obtain ⟨A2, c2, rfl, _, _⟩ := hv
  clear nu nv hl
  go_enter Try.func29, Try.ntmps29
  go_wp2_with (at_builtin; first
    | (refine append_rowV _ rfl _ _ rfl w.heap.size _ [] rfl HW.out _ l L w.heap.size rfl (hu0.out.below HB.out) HNU.out (by have := HL.out; simp only [List.length_nil]; omega) HB.out.size ?_; intro v1 w1 hr1 hb1; have HR1 := Lib.hid hr1; have HB1 := Lib.hid (HB.out.trans hb1); clear hr1 hb1)
    | (refine append_rowV _ rfl _ _ rfl w.heap.size _ ([] ++ l) rfl HR1.out _ m L2 w.heap.size rfl (hv0.out.below HB1.out) HNV.out (by have := HL.out; simp only [List.nil_append]; omega) HB1.out.size ?_; intro v2 w2 hr2 hb2; have HR2 := Lib.hid hr2; have HB2 := Lib.hid (HB1.out.trans hb2); clear hr2 hb2))
  go_ret
  have hr := HR2.out
  rw [List.nil_append] at hr
  exact ⟨_, rfl, RdV.more (RdV.of_own hr (by have := HL.out; rw [List.length_append]; omega)) (Nat.le_refl _) (Nat.zero_le _), HB2.out⟩
end Go.Proofs.Ytpiadcfejbnonaa
