import Derived.Test.YtdhemhmgenhmaaaGreatPA
import Derived.Test.YtdhemhmgenhmaaaGreatQM
import Derived.Test.YtdhemhmgenhmaaaGreatSExJh
import Derived.Test.YtdhemhmgenhmaaaGreatUB
import Derived.WalkKit
import Derived.WalkSpells
import Derived.WalkLawsBesides
import Derived.Deep.QuietTactic
import Derived.BigQuiet
import Derived.Handy
import Derived.Lib.Hide
import Derived.Test.YtdhemhmgenhmaaaGreatTA
import Derived.Deep.AppendLies
import Derived.Test.YtdhemhmgenhmaaaGreatTB
import Derived.Test.YtdhemhmgenhmaaaGreatQJb
set_option maxRecDepth 100000
set_option maxHeartbeats 25600000
set_option linter.unusedVariables false
set_option linter.unusedSimpArgs false
/-
  Simplify, as mathematics: what it answers keeps value, kind; is well-formed, no larger, no deeper; without columns it is a constant. Conditions: none. (Checked over copies of the definitions alone: PdM, ExM, ExKa, ExUa must be compiled before it.)
-/
namespace Go.Proofs.YtdhemhmgenhmaaaGreat
open Go.RowKit
theorem baL : (⟨#[]⟩ : ByteArray).toList = [] := by unfold ByteArray.toList; unfold ByteArray.toList.loop; rfl
theorem baE {s : ByteArray} (h : s.toList = []) : s = ⟨#[]⟩ := by
 rw [Lib.toList_data] at h
 obtain ⟨⟨l⟩⟩ := s
 simp at h; subst h; rfl
theorem tV_tri (c b : Bool) : Va.tV c b = 0 ∨ Va.tV c b = 1 ∨ Va.tV c b = 2 := by cases c <;> cases b <;> simp [Va.tV]
theorem les_tri (p q : Vl) : lesP p q = 0 ∨ lesP p q = 1 ∨ lesP p q = 2 := tV_tri _ _
theorem eql_tri (p q : Vl) : eqlP p q = 0 ∨ eqlP p q = 1 ∨ eqlP p q = 2 := tV_tri _ _
def conX (v : Vl) : Ex := ⟨1, 0, v, ⟨#[]⟩, []⟩
def isT (op : Int) : Bool := op == 4 || op == 5 || op == 6 || op == 7 || op == 8 || op == 9 || op == 10 || op == 11 || op == 12 || op == 21 || op == 24
def oppO (op : Int) : Int := if op = 7 then 8 else if op = 8 then 7 else if op = 9 then 12 else if op = 12 then 9 else if op = 11 then 10 else 11
def neuT (op : Int) : Int := if op = 6 then 0 else 2
def truC (a : Ex) : Int := truP (evE [] 1 a)
def juF (op : Int) : List Ex → Option (List Ex)
 | [] => some []
 | a :: l => if a.op ≠ 1 then (juF op l).map (a :: ·) else if truC a = Va.vnot (neuT op) then none else if truC a = 1 then (juF op l).map (a :: ·) else juF op l
def simJ (e : Ex) : Ex := match juF e.op e.args with
 | none => conX (ofP (Va.vnot (neuT e.op)))
 | some [r] => if isT r.op then r else { e with args := [r, conX (ofP (neuT e.op))] }
 | some rest => { e with args := rest }
def simN (e : Ex) : Ex := match e.args with
 | a :: _ => if a.op = 4 then (match a.args with | i :: _ => if isT i.op then i else e | [] => e) else if a.op = 7 ∨ a.op = 8 ∨ a.op = 9 ∨ a.op = 10 ∨ a.op = 11 ∨ a.op = 12 then { a with op := oppO a.op } else e
 | [] => e
def simC (e : Ex) : Ex := match e.args with
 | [c, x, y] => if c.op ≠ 1 then e else if truC c = 2 then x else y
 | _ => e
def coF : List Ex → List Ex
 | [] => []
 | a :: l => if a.op = 1 then (if a.v = nullP then coF l else [a]) else a :: coF l
def simF (e : Ex) : Ex := match coF e.args with
 | [r] => r
 | rest => { e with args := rest }
def simE : Nat → Ex → Ex
 | 0, _ => conX nullP
 | d + 1, e => if wfX e = true then
   (if e.op ≠ 2 ∧ (e.args.map (simE d)).all (fun a => a.op == 1) = true then conX (evE [] 2 { e with args := e.args.map (simE d) })
   else if e.op = 5 ∨ e.op = 6 then simJ { e with args := e.args.map (simE d) }
   else if e.op = 4 then simN { e with args := e.args.map (simE d) }
   else if e.op = 22 then simC { e with args := e.args.map (simE d) }
   else if e.op = 23 then simF { e with args := e.args.map (simE d) }
   else { e with args := e.args.map (simE d) })
  else conX nullP
theorem tru_tri (p : Vl) : truP p = 0 ∨ truP p = 1 ∨ truP p = 2 := by
 unfold truP Va.truV
 split
 ·exact .inr (.inr rfl)
 ·split
  ·exact .inl rfl
  ·exact .inr (.inl rfl)
theorem tru_ofZ {t : Int} (h : t = 0 ∨ t = 1 ∨ t = 2) : truP (ofP t) = t := by
 rcases h with rfl | rfl | rfl <;> simp [ofP, booP, truP, Va.truV, Va.eqV, nullP]
theorem not_tri {t : Int} : Va.vnot t = 0 ∨ Va.vnot t = 1 ∨ Va.vnot t = 2 := by
 unfold Va.vnot
 split
 ·exact .inr (.inr rfl)
 ·split
  ·exact .inl rfl
  ·exact .inr (.inl rfl)
theorem not_not {t : Int} (h : t = 0 ∨ t = 1 ∨ t = 2) : Va.vnot (Va.vnot t) = t := by rcases h with rfl | rfl | rfl <;> rfl
theorem logS_tri (op t : Int) (p : Vl) : logS op t p = 0 ∨ logS op t p = 1 ∨ logS op t p = 2 := by
 unfold logS Va.vand Va.vor
 repeat' (first | exact .inl rfl | exact .inr (.inl rfl) | exact .inr (.inr rfl) | split)
theorem logF_tri (op : Int) : ∀ (l : List Vl) (t : Int), (t = 0 ∨ t = 1 ∨ t = 2) → logF op t l = 0 ∨ logF op t l = 1 ∨ logF op t l = 2
 | [], _, h => h
 | p :: l, t, _ => logF_tri op l _ (logS_tri op t p)
theorem logS_neu {op : Int} (ho : op = 5 ∨ op = 6) (p : Vl) : logS op (neuT op) p = truP p := by
 rcases tru_tri p with h | h | h <;> rcases ho with rfl | rfl <;> simp [logS, neuT, Va.vand, Va.vor, h]
theorem logP_neu {op : Int} (ho : op = 5 ∨ op = 6) {l : List Vl} (hl : l ≠ []) : logP op l = logF op (neuT op) l := by
 cases l with
 | nil => exact absurd rfl hl
 | cons p l =>
  unfold logP
  rw [if_neg (by omega)]
  show logF op (truP p) l = logF op (logS op (neuT op) p) l
  rw [logS_neu ho]
theorem logF_abs {op : Int} (ho : op = 5 ∨ op = 6) : ∀ l : List Vl, logF op (Va.vnot (neuT op)) l = Va.vnot (neuT op)
 | [] => rfl
 | p :: l => by
  show logF op (logS op (Va.vnot (neuT op)) p) l = _
  have : logS op (Va.vnot (neuT op)) p = Va.vnot (neuT op) := by
   rcases tru_tri p with h | h | h <;> rcases ho with rfl | rfl <;> simp [logS, neuT, Va.vand, Va.vor, Va.vnot]
  rw [this]
  exact logF_abs ho l
theorem logS_abs {op : Int} (ho : op = 5 ∨ op = 6) {t : Int} (ht : t = 0 ∨ t = 1 ∨ t = 2) {p : Vl} (hp : truP p = Va.vnot (neuT op)) : logS op t p = Va.vnot (neuT op) := by
 rcases ht with rfl | rfl | rfl <;> rcases ho with rfl | rfl <;> simp [logS, hp, neuT, Va.vand, Va.vor, Va.vnot]
theorem logS_id {op : Int} (ho : op = 5 ∨ op = 6) {t : Int} (ht : t = 0 ∨ t = 1 ∨ t = 2) {p : Vl} (hp : truP p = neuT op) : logS op t p = t := by
 rcases ht with rfl | rfl | rfl <;> rcases ho with rfl | rfl <;> simp [logS, hp, neuT, Va.vand, Va.vor]
theorem juF_log {op : Int} (ho : op = 5 ∨ op = 6) (g : Ex → Vl) : ∀ (l : List Ex), (∀ a ∈ l, a.op = 1 → truP (g a) = truC a) → ∀ t : Int, (t = 0 ∨ t = 1 ∨ t = 2) →
  logF op t (l.map g) = match juF op l with | none => Va.vnot (neuT op) | some r => logF op t (r.map g)
 | [], _, t, _ => rfl
 | a :: l, h, t, ht => by
  have ih := juF_log ho g l fun b hb => h b (List.mem_cons_of_mem _ hb)
  have ht2 := logS_tri op t (g a)
  show logF op (logS op t (g a)) (l.map g) = _
  unfold juF
  by_cases h1 : a.op = 1
  ·rw [if_neg (by simpa using h1)]
   have ha := h a (List.mem_cons_self ..) h1
   by_cases h2 : truC a = Va.vnot (neuT op)
   ·rw [if_pos h2, logS_abs ho ht (ha.trans h2)]
    exact logF_abs ho _
   ·rw [if_neg h2]
    by_cases h3 : truC a = 1
    ·rw [if_pos h3, ih _ ht2]
     cases juF op l <;> rfl
    ·rw [if_neg h3]
     have h4 : truC a = neuT op := by
      rcases tru_tri (evE [] 1 a) with h | h | h <;> rcases ho with rfl | rfl <;> simp [truC, neuT, Va.vnot, h] at h2 h3 ⊢
     rw [logS_id ho ht (ha.trans h4)]
     exact ih t ht
  ·rw [if_pos (by simpa using h1), ih _ ht2]
   cases juF op l <;> rfl
theorem juF_some {op : Int} {a : Ex} : ∀ {l r : List Ex}, juF op l = some r → a ∈ l → a.op ≠ 1 → a ∈ r
 | [], _, _, h, _ => by simp at h
 | b :: l, r, hr, ha, h1 => by
  unfold juF at hr
  by_cases hb : b.op ≠ 1
  ·rw [if_pos hb] at hr
   cases hj : juF op l with
   | none => rw [hj] at hr; cases hr
   | some q =>
    rw [hj] at hr
    injection hr with hr
    subst hr
    rcases List.mem_cons.1 ha with rfl | ha
    ·exact List.mem_cons_self ..
    ·exact List.mem_cons_of_mem _ (juF_some hj ha h1)
  ·rw [if_neg hb] at hr
   have hab : a ∈ l := by
    rcases List.mem_cons.1 ha with rfl | ha
    ·exact absurd h1 hb
    ·exact ha
   split at hr
   ·cases hr
   ·split at hr
    ·cases hj : juF op l with
     | none => rw [hj] at hr; cases hr
     | some q =>
      rw [hj] at hr
      injection hr with hr
      subst hr
      exact List.mem_cons_of_mem _ (juF_some hj hab h1)
    ·exact juF_some hr hab h1
theorem juF_sub {op : Int} : ∀ {l r : List Ex}, juF op l = some r → r.Sublist l
 | [], _, h => by injection h with h; subst h; exact List.Sublist.refl _
 | b :: l, r, hr => by
  unfold juF at hr
  have key : ∀ q, (juF op l).map (b :: ·) = some q → q.Sublist (b :: l) := fun q hq => by
   cases hj : juF op l with
   | none => rw [hj] at hq; cases hq
   | some s =>
    rw [hj] at hq
    injection hq with hq
    subst hq
    exact (juF_sub hj).cons_cons b
  split at hr
  ·exact key _ hr
  ·split at hr
   ·cases hr
   ·split at hr
    ·exact key _ hr
    ·exact (juF_sub hr).cons b
theorem coF_sub : ∀ l : List Ex, (coF l).Sublist l
 | [] => List.Sublist.refl _
 | a :: l => by
  unfold coF
  split
  ·split
   ·exact (coF_sub l).cons a
   ·exact (List.nil_sublist l).cons_cons a
  ·exact (coF_sub l).cons_cons a
theorem coF_mem {a : Ex} : ∀ {l : List Ex}, a ∈ l → a.op ≠ 1 → coF l ≠ []
 | [], h, _ => by simp at h
 | b :: l, h, h1 => by
  unfold coF
  split
  ·split
   ·rename_i hb _
    rcases List.mem_cons.1 h with rfl | h
    ·exact absurd hb h1
    ·exact coF_mem h h1
   ·simp
  ·simp
theorem fstP_cons (p : Vl) (l : List Vl) : fstP (p :: l) = if p.1 = 0 then fstP l else p := rfl
theorem coF_fst (g : Ex → Vl) : ∀ l : List Ex, (∀ a ∈ l, a.op = 1 → g a = a.v) → (∀ a ∈ l, (g a).1 = 0 → g a = nullP) → fstP ((coF l).map g) = fstP (l.map g)
 | [], _, _ => rfl
 | a :: l, h, h0 => by
  have ih := coF_fst g l (fun b hb => h b (List.mem_cons_of_mem _ hb)) (fun b hb => h0 b (List.mem_cons_of_mem _ hb))
  unfold coF
  by_cases h1 : a.op = 1
  ·rw [if_pos h1]
   have ha := h a (List.mem_cons_self ..) h1
   by_cases hn : a.v = nullP
   ·rw [if_pos hn, ih, List.map_cons, fstP_cons, ha, hn, if_pos (show nullP.1 = 0 from rfl)]
   ·rw [if_neg hn]
    have hk : ¬ (g a).1 = 0 := fun hk => hn (ha ▸ h0 a (List.mem_cons_self ..) hk)
    rw [List.map_cons, List.map_cons, fstP_cons, fstP_cons, if_neg hk, if_neg hk]
  ·rw [if_neg h1, List.map_cons, List.map_cons, fstP_cons, fstP_cons, ih]
theorem wf_conE {v : Vl} (h : vldP v = true) : wfX (conX v) = true := by
 have h2 : Va.vldV v.1 v.2.1 v.2.2 = true := h
 simp [wfX, conX, wfE, fldE, knw, opLo, opHi, h2, baL]
theorem ev_conE (row : List Vl) (d : Nat) {v : Vl} (h : vldP v = true) : evE row (d + 1) (conX v) = v := by
 unfold evE
 have hw := wf_conE h
 unfold wfX at hw
 rw [if_pos hw]
 rfl
theorem ev_succ (row : List Vl) (d : Nat) (e : Ex) : evE row (d + 1) e = if wfX e = true then opE e.op e.n e.v row (e.args.map (evE row d)) else nullP := rfl
theorem fin_up : ∀ {d : Nat} {e : Ex}, Ex.Fin d e → Ex.Fin (d + 1) e
 | 0, _, h => h.elim
 | _ + 1, _, h => fun a ha => fin_up (h a ha)
theorem fin_pos {d : Nat} {e : Ex} (h : Ex.Fin d e) : 0 < d := by
 cases d with
 | zero => exact h.elim
 | succ d => omega
theorem ev_up (row : List Vl) : ∀ {d : Nat} {e : Ex}, Ex.Fin d e → evE row (d + 1) e = evE row d e
 | 0, _, h => h.elim
 | d + 1, e, h => by
  rw [ev_succ, ev_succ]
  have : e.args.map (evE row (d + 1)) = e.args.map (evE row d) := List.map_congr_left fun a ha => ev_up row (h a ha)
  rw [this]
theorem wfX_lo {e : Ex} (h : wfX e = true) : opLo e.op ≤ e.args.length ∧ (e.args.length : Int) ≤ opHi e.op := by
 unfold wfX wfE at h
 simp only [Bool.and_eq_true, decide_eq_true_eq] at h
 exact ⟨h.1.1.2, h.1.2⟩
theorem wf_con0 {e : Ex} (h : wfX e = true) (ho : e.op = 1) : e.args = [] := by
 have := (wfX_lo h).2
 rw [ho] at this
 unfold opHi at this
 simp at this
 exact this
theorem ev_con (row : List Vl) (d : Nat) {e : Ex} (h : wfX e = true) (ho : e.op = 1) : evE row (d + 1) e = e.v := by
 rw [ev_succ, if_pos h]
 unfold opE
 rw [if_pos ho]
theorem opE_rowZ {op n : Int} {v : Vl} (row : List Vl) {l : List Vl} (h : op ≠ 2) : opE op n v row l = opE op n v [] l := by
 unfold opE
 rw [if_neg h]
 conv => rhs; rw [if_neg h]
theorem ev_nullZ {row : List Vl} {d : Nat} {e : Ex} (h : (evE row d e).1 = 0) : evE row d e = nullP := by
 have hv := vld_evE row d e
 generalize evE row d e = p at *
 obtain ⟨k, n, s⟩ := p
 unfold vldP Va.vldV at hv
 dsimp only at h hv
 rw [if_pos h] at hv
 simp only [Bool.and_eq_true, decide_eq_true_eq] at hv
 obtain ⟨h1, h2⟩ := hv
 unfold Va.emp at h2
 have h3 : s.toList = [] := by simpa using h2
 rw [h, h1, baE h3]
 rfl
theorem ev_isT (row : List Vl) (d : Nat) {e : Ex} (h : isT e.op = true) : ∃ t, (t = 0 ∨ t = 1 ∨ t = 2) ∧ evE row d e = ofP t := by
 cases d with
 | zero => exact ⟨1, .inr (.inl rfl), rfl⟩
 | succ d =>
  rw [ev_succ]
  by_cases hw : wfX e = true
  ·rw [if_pos hw]
   have hb : ∀ b : Bool, ∃ t, (t = 0 ∨ t = 1 ∨ t = 2) ∧ booP b = ofP t := fun b => by
    cases b
    ·exact ⟨0, .inl rfl, rfl⟩
    ·exact ⟨2, .inr (.inr rfl), rfl⟩
   have hn : ∃ t, (t = 0 ∨ t = 1 ∨ t = 2) ∧ nullP = ofP t := ⟨1, .inr (.inl rfl), rfl⟩
   generalize e.args.map (evE row d) = l
   unfold opE
   unfold isT at h
   simp only [Bool.or_eq_true, beq_iff_eq] at h
   have n1 : e.op ≠ 1 := by omega
   have n2 : e.op ≠ 2 := by omega
   rw [if_neg n1, if_neg n2]
   by_cases h3 : e.op = 4 ∨ e.op = 5 ∨ e.op = 6
   ·rw [if_pos h3]
    refine ⟨_, ?_, rfl⟩
    unfold logP
    split
    ·exact not_tri
    ·exact logF_tri _ _ _ (tru_tri _)
   rw [if_neg h3]
   by_cases h4 : e.op = 7 ∨ e.op = 8 ∨ e.op = 9 ∨ e.op = 10 ∨ e.op = 11 ∨ e.op = 12
   ·rw [if_pos h4]
    refine ⟨_, ?_, rfl⟩
    unfold cmqP
    repeat' (first | exact eql_tri _ _ | exact les_tri _ _ | exact not_tri | split)
   rw [if_neg h4, if_neg (by omega), if_neg (by omega), if_neg (by omega), if_neg (by omega)]
   by_cases h9 : e.op = 21
   ·rw [if_pos h9]; exact hb _
   rw [if_neg h9, if_neg (by omega), if_neg (by omega)]
   unfold relP
   repeat' (first | exact hb _ | exact hn | split)
  ·rw [if_neg hw]
   exact ⟨1, .inr (.inl rfl), rfl⟩
theorem ev_args (row : List Vl) (d : Nat) {e f : Ex} (ho : f.op = e.op) (hn : f.n = e.n) (hv : f.v = e.v) (hw : wfX f = wfX e) (ha : f.args.map (evE row d) = e.args.map (evE row d)) : evE row (d + 1) f = evE row (d + 1) e := by
 rw [ev_succ, ev_succ, hw, ha, ho, hn, hv]
theorem wf_args {e : Ex} {l : List Ex} (h : l.length = e.args.length) : wfX { e with args := l } = wfX e := by
 unfold wfX
 rw [h]
theorem wf_less {e : Ex} {l : List Ex} (hw : wfX e = true) (h1 : opLo e.op ≤ l.length) (h2 : l.length ≤ e.args.length) : wfX { e with args := l } = true := by
 unfold wfX wfE at hw ⊢
 simp only [Bool.and_eq_true, decide_eq_true_eq] at hw ⊢
 exact ⟨⟨⟨hw.1.1.1, h1⟩, by omega⟩, hw.2⟩
theorem ev_logic {row : List Vl} {d : Nat} {e : Ex} (hw : wfX e = true) (ho : e.op = 5 ∨ e.op = 6) : evE row (d + 1) e = ofP (logF e.op (neuT e.op) (e.args.map (evE row d))) := by
 have hl : e.args.map (evE row d) ≠ [] := by
  have := (wfX_lo hw).1
  intro h
  have h0 : e.args = [] := by simpa using h
  rw [h0] at this
  rcases ho with h | h <;> rw [h] at this <;> simp [opLo] at this
 rw [ev_succ, if_pos hw]
 unfold opE
 rw [if_neg (by omega), if_neg (by omega), if_pos (by omega), logP_neu ho hl]
theorem neu_tri (op : Int) : neuT op = 0 ∨ neuT op = 1 ∨ neuT op = 2 := by
 unfold neuT
 split
 ·exact .inl rfl
 ·exact .inr (.inr rfl)
theorem vld_ofP {t : Int} : vldP (ofP t) = true := by
 unfold ofP
 repeat' (first | exact vld_null | (simp [vldP, booP, Va.vldV, Va.emp, baL]; done) | split)
theorem ev_simJ (row : List Vl) (d : Nat) {e : Ex} (hw : wfX e = true) (ho : e.op = 5 ∨ e.op = 6) (hc : ∀ a ∈ e.args, a.op = 1 → wfX a = true) (hs : ∃ a ∈ e.args, a.op ≠ 1) (hF : ∀ a ∈ e.args, Ex.Fin d a) : evE row (d + 1) (simJ e) = evE row (d + 1) e := by
 have hd : 0 < d := by
  obtain ⟨a, ha, _⟩ := hs
  exact fin_pos (hF a ha)
 obtain ⟨d, rfl⟩ : ∃ k, d = k + 1 := ⟨d - 1, by omega⟩
 have hj := juF_log ho (evE row (d + 1)) e.args (fun a ha h1 => by unfold truC; rw [ev_con row d (hc a ha h1) h1, ev_con [] 0 (hc a ha h1) h1]) (neuT e.op) (neu_tri _)
 rw [ev_logic hw ho, hj]
 unfold simJ
 cases hr : juF e.op e.args with
 | none => exact ev_conE row _ vld_ofP
 | some r =>
  have hsub := juF_sub hr
  obtain ⟨a, ha, h1⟩ := hs
  have hin := juF_some hr ha h1
  have hle := hsub.length_le
  have hlo : opLo e.op = 2 := by rcases ho with h | h <;> rw [h] <;> rfl
  have h2 := (wfX_lo hw).1
  rw [hlo] at h2
  match r, hin, hle with
  | [b], _, _ =>
   dsimp only
   have hb : logF e.op (neuT e.op) ([b].map (evE row (d + 1))) = truP (evE row (d + 1) b) := logS_neu ho _
   rw [hb]
   by_cases hT : isT b.op = true
   ·rw [if_pos hT]
    have hbm : b ∈ e.args := hsub.subset (List.mem_cons_self ..)
    obtain ⟨t, ht, he⟩ := ev_isT row (d + 1) hT
    rw [ev_up row (hF b hbm), he, tru_ofZ ht]
   ·rw [if_neg hT]
    have hw2 : wfX { e with args := [b, conX (ofP (neuT e.op))] } = true := wf_less hw (by rw [hlo]; exact Int.le_refl _) (by simp; omega)
    rw [ev_logic hw2 ho]
    show ofP (logS e.op (logS e.op (neuT e.op) (evE row (d + 1) b)) (evE row (d + 1) (conX (ofP (neuT e.op))))) = _
    rw [logS_neu ho, ev_conE row d vld_ofP, logS_id ho (tru_tri _) (tru_ofZ (neu_tri _))]
  | b :: c :: r, _, hle =>
   dsimp only
   have hw2 : wfX { e with args := b :: c :: r } = true := wf_less hw (by rw [hlo]; simp; omega) hle
   rw [ev_logic hw2 ho]
theorem opp_wf {a : Ex} (h : a.op = 7 ∨ a.op = 8 ∨ a.op = 9 ∨ a.op = 10 ∨ a.op = 11 ∨ a.op = 12) : wfX { a with op := oppO a.op } = wfX a := by
 unfold wfX wfE fldE
 rcases h with h | h | h | h | h | h <;> rw [h] <;> rfl
theorem opp_cmq {op : Int} (h : op = 7 ∨ op = 8 ∨ op = 9 ∨ op = 10 ∨ op = 11 ∨ op = 12) (p q : Vl) : cmqP (oppO op) p q = Va.vnot (cmqP op p q) := by
 rcases h with rfl | rfl | rfl | rfl | rfl | rfl <;> simp [cmqP, oppO, not_not (eql_tri p q), not_not (les_tri p q), not_not (les_tri q p)]
theorem cmq_tri (op : Int) (p q : Vl) : cmqP op p q = 0 ∨ cmqP op p q = 1 ∨ cmqP op p q = 2 := by
 unfold cmqP
 repeat' (first | exact eql_tri _ _ | exact les_tri _ _ | exact not_tri | split)
theorem opp_rng {op : Int} (h : op = 7 ∨ op = 8 ∨ op = 9 ∨ op = 10 ∨ op = 11 ∨ op = 12) : oppO op = 7 ∨ oppO op = 8 ∨ oppO op = 9 ∨ oppO op = 10 ∨ oppO op = 11 ∨ oppO op = 12 := by
 rcases h with rfl | rfl | rfl | rfl | rfl | rfl <;> simp [oppO]
theorem ev_cmp {row : List Vl} {d : Nat} {e : Ex} (hw : wfX e = true) (h : e.op = 7 ∨ e.op = 8 ∨ e.op = 9 ∨ e.op = 10 ∨ e.op = 11 ∨ e.op = 12) : evE row (d + 1) e = ofP (cmqP e.op (getP (e.args.map (evE row d)) 0) (getP (e.args.map (evE row d)) 1)) := by
 rw [ev_succ, if_pos hw]
 unfold opE
 rw [if_neg (by omega), if_neg (by omega), if_neg (by omega), if_pos h]
theorem ev_not {row : List Vl} {d : Nat} {e : Ex} (hw : wfX e = true) (h : e.op = 4) : ∃ a, e.args = [a] ∧ evE row (d + 1) e = ofP (Va.vnot (truP (evE row d a))) := by
 have hl := wfX_lo hw
 rw [h] at hl
 have h1 : e.args.length = 1 := by
  have a1 := hl.1
  have a2 := hl.2
  simp [opLo, opHi] at a1 a2
  omega
 obtain ⟨a, ha⟩ := List.length_eq_one_iff.1 h1
 refine ⟨a, ha, ?_⟩
 rw [ev_succ, if_pos hw]
 unfold opE
 rw [if_neg (by omega), if_neg (by omega), if_pos (by omega)]
 unfold logP
 rw [if_pos h, ha]
 rfl
theorem ev_simN (row : List Vl) (d : Nat) {e : Ex} (hw : wfX e = true) (ho : e.op = 4) (hwa : ∀ a ∈ e.args, wfX a = true) (hF : ∀ a ∈ e.args, Ex.Fin d a) : evE row (d + 1) (simN e) = evE row (d + 1) e := by
 obtain ⟨a, ha, he⟩ := ev_not (row := row) (d := d) hw ho
 have hFa := hF a (by rw [ha]; exact List.mem_cons_self ..)
 have hwa := hwa a (by rw [ha]; exact List.mem_cons_self ..)
 rw [he]
 unfold simN
 rw [ha]
 dsimp only
 obtain ⟨d, rfl⟩ : ∃ k, d = k + 1 := ⟨d - 1, by have := fin_pos hFa; omega⟩
 by_cases h4 : a.op = 4
 ·rw [if_pos h4]
  obtain ⟨i, hi, hia⟩ := ev_not (row := row) (d := d) hwa h4
  rw [hi]
  dsimp only
  by_cases hT : isT i.op = true
  ·rw [if_pos hT]
   have hFi : Ex.Fin d i := hFa i (by rw [hi]; exact List.mem_cons_self ..)
   obtain ⟨t, ht, hv⟩ := ev_isT row d hT
   rw [ev_up row (fin_up hFi), ev_up row hFi, hia, hv, tru_ofZ ht, tru_ofZ not_tri, not_not ht]
  ·rw [if_neg hT, he]
 ·rw [if_neg h4]
  by_cases h5 : a.op = 7 ∨ a.op = 8 ∨ a.op = 9 ∨ a.op = 10 ∨ a.op = 11 ∨ a.op = 12
  ·rw [if_pos h5, ev_cmp (e := { a with op := oppO a.op }) ((opp_wf h5).trans hwa) (opp_rng h5), ev_cmp hwa h5]
   dsimp only
   have hm : a.args.map (evE row (d + 1)) = a.args.map (evE row d) := List.map_congr_left fun x hx => ev_up row (hFa x hx)
   rw [hm, opp_cmq h5, tru_ofZ (cmq_tri _ _ _)]
  ·rw [if_neg h5, he]
theorem wf_three {e : Ex} (hw : wfX e = true) (ho : e.op = 22) : ∃ c x y, e.args = [c, x, y] := by
 have hl := wfX_lo hw
 rw [ho] at hl
 have h1 : e.args.length = 3 := by
  have a1 := hl.1
  have a2 := hl.2
  simp [opLo, opHi] at a1 a2
  omega
 match h : e.args, h1 with
 | [c, x, y], _ => exact ⟨c, x, y, rfl⟩
theorem sv_if {row : List Vl} {d : Nat} {e : Ex} {c x y : Ex} (hw : wfX e = true) (ho : e.op = 22) (ha : e.args = [c, x, y]) : evE row (d + 1) e = if truP (evE row d c) = 2 then evE row d x else evE row d y := by
 rw [ev_succ, if_pos hw, ha]
 unfold opE
 rw [ho]
 rfl
theorem ev_simC (row : List Vl) (d : Nat) {e : Ex} (hw : wfX e = true) (ho : e.op = 22) (hc : ∀ a ∈ e.args, a.op = 1 → wfX a = true) (hF : ∀ a ∈ e.args, Ex.Fin d a) : evE row (d + 1) (simC e) = evE row (d + 1) e := by
 obtain ⟨c, x, y, ha⟩ := wf_three hw ho
 have hFx := hF x (by rw [ha]; simp)
 have hFy := hF y (by rw [ha]; simp)
 have hcc := hc c (by rw [ha]; simp)
 obtain ⟨d, rfl⟩ : ∃ k, d = k + 1 := ⟨d - 1, by have := fin_pos hFx; omega⟩
 have hi := sv_if (row := row) (d := d + 1) hw ho ha
 unfold simC
 rw [ha]
 dsimp only
 by_cases h1 : c.op ≠ 1
 ·rw [if_pos h1]
 ·rw [if_neg h1]
  have h1 : c.op = 1 := by simpa using h1
  have ht : truC c = truP (evE row (d + 1) c) := by unfold truC; rw [ev_con row d (hcc h1) h1, ev_con [] 0 (hcc h1) h1]
  rw [hi, ht]
  split
  ·exact ev_up row hFx
  ·exact ev_up row hFy
theorem sv_fst {row : List Vl} {d : Nat} {e : Ex} (hw : wfX e = true) (ho : e.op = 23) : evE row (d + 1) e = fstP (e.args.map (evE row d)) := by
 rw [ev_succ, if_pos hw]
 unfold opE
 rw [ho]
 rfl
theorem ev_simF (row : List Vl) (d : Nat) {e : Ex} (hw : wfX e = true) (ho : e.op = 23) (hc : ∀ a ∈ e.args, a.op = 1 → wfX a = true) (hs : ∃ a ∈ e.args, a.op ≠ 1) (hF : ∀ a ∈ e.args, Ex.Fin d a) : evE row (d + 1) (simF e) = evE row (d + 1) e := by
 have hd : 0 < d := by
  obtain ⟨a, ha, _⟩ := hs
  exact fin_pos (hF a ha)
 obtain ⟨d, rfl⟩ : ∃ k, d = k + 1 := ⟨d - 1, by omega⟩
 have hf := coF_fst (evE row (d + 1)) e.args (fun a ha h1 => ev_con row d (hc a ha h1) h1) (fun a _ h => ev_nullZ h)
 have hsub := coF_sub e.args
 rw [sv_fst hw ho, ← hf]
 unfold simF
 have hne : coF e.args ≠ [] := by
  obtain ⟨a, ha, h1⟩ := hs
  exact coF_mem ha h1
 match hr : coF e.args with
 | [] => exact absurd hr hne
 | [b] =>
  dsimp only
  have hb : b ∈ e.args := hsub.subset (by rw [hr]; exact List.mem_cons_self ..)
  rw [ev_up row (hF b hb)]
  show _ = fstP (evE row (d + 1) b :: [])
  rw [fstP_cons]
  split
  ·rename_i h0
   exact ev_nullZ h0
  ·rfl
 | b :: c :: r =>
  dsimp only
  have hw2 : wfX { e with args := b :: c :: r } = true := wf_less hw (by rw [ho]; simp [opLo]; omega) (by rw [← hr]; exact hsub.length_le)
  rw [sv_fst hw2 ho]
def WfT : Nat → Ex → Prop
 | 0, _ => False
 | d + 1, e => wfX e = true ∧ ∀ a ∈ e.args, WfT d a
theorem wt_up : ∀ {d : Nat} {e : Ex}, WfT d e → WfT (d + 1) e
 | 0, _, h => h.elim
 | _ + 1, _, h => ⟨h.1, fun a ha => wt_up (h.2 a ha)⟩
theorem wt_fin : ∀ {d : Nat} {e : Ex}, WfT d e → Ex.Fin d e
 | 0, _, h => h.elim
 | _ + 1, _, h => fun a ha => wt_fin (h.2 a ha)
theorem wt_wf {d : Nat} {e : Ex} (h : WfT d e) : wfX e = true := by
 cases d with
 | zero => exact h.elim
 | succ d => exact h.1
theorem wt_conE (d : Nat) {v : Vl} (h : vldP v = true) : WfT (d + 1) (conX v) := ⟨wf_conE h, fun a ha => by simp [conX] at ha⟩
theorem wt_simJ {d : Nat} {e : Ex} (h : WfT (d + 1) e) (ho : e.op = 5 ∨ e.op = 6) (hs : ∃ a ∈ e.args, a.op ≠ 1) : WfT (d + 1) (simJ e) := by
 unfold simJ
 cases hr : juF e.op e.args with
 | none => exact wt_conE d vld_ofP
 | some r =>
  have hsub := juF_sub hr
  obtain ⟨a, ha, h1⟩ := hs
  have hin := juF_some hr ha h1
  have hle := hsub.length_le
  have hlo : opLo e.op = 2 := by rcases ho with h | h <;> rw [h] <;> rfl
  have h2 := (wfX_lo h.1).1
  rw [hlo] at h2
  match r, hin, hle, hsub with
  | [b], _, _, hsub =>
   dsimp only
   have hb := h.2 b (hsub.subset (List.mem_cons_self ..))
   by_cases hT : isT b.op = true
   ·rw [if_pos hT]; exact wt_up hb
   ·rw [if_neg hT]
    refine ⟨wf_less h.1 (by rw [hlo]; exact Int.le_refl _) (by simp; omega), fun x hx => ?_⟩
    have hx : x = b ∨ x = conX (ofP (neuT e.op)) := by simpa using hx
    rcases hx with rfl | rfl
    ·exact hb
    ·obtain ⟨d, rfl⟩ : ∃ k, d = k + 1 := ⟨d - 1, by have := fin_pos (wt_fin hb); omega⟩
     exact wt_conE d vld_ofP
  | b :: c :: r, _, hle, hsub =>
   dsimp only
   exact ⟨wf_less h.1 (by rw [hlo]; simp; omega) hle, fun x hx => h.2 x (hsub.subset hx)⟩
theorem wt_simN {d : Nat} {e : Ex} (h : WfT (d + 1) e) : WfT (d + 1) (simN e) := by
 unfold simN
 cases ha : e.args with
 | nil => exact h
 | cons a l =>
  dsimp only
  have hb := h.2 a (by rw [ha]; exact List.mem_cons_self ..)
  obtain ⟨d, rfl⟩ : ∃ k, d = k + 1 := ⟨d - 1, by have := fin_pos (wt_fin hb); omega⟩
  split
  ·cases hi : a.args with
   | nil => exact h
   | cons i m =>
    dsimp only
    split
    ·exact wt_up (wt_up (hb.2 i (by rw [hi]; exact List.mem_cons_self ..)))
    ·exact h
  ·split
   ·rename_i h5
    exact wt_up ⟨(opp_wf h5).trans hb.1, hb.2⟩
   ·exact h
theorem wt_simC {d : Nat} {e : Ex} (h : WfT (d + 1) e) : WfT (d + 1) (simC e) := by
 unfold simC
 split
 ·rename_i c x y ha
  split
  ·exact h
  ·split
   ·exact wt_up (h.2 x (by rw [ha]; simp))
   ·exact wt_up (h.2 y (by rw [ha]; simp))
 ·exact h
theorem wt_simF {d : Nat} {e : Ex} (h : WfT (d + 1) e) (ho : e.op = 23) (hs : ∃ a ∈ e.args, a.op ≠ 1) : WfT (d + 1) (simF e) := by
 have hsub := coF_sub e.args
 have hne : coF e.args ≠ [] := by
  obtain ⟨a, ha, h1⟩ := hs
  exact coF_mem ha h1
 unfold simF
 match hr : coF e.args with
 | [] => exact absurd hr hne
 | [b] => exact wt_up (h.2 b (hsub.subset (by rw [hr]; exact List.mem_cons_self ..)))
 | b :: c :: r =>
  dsimp only
  rw [hr] at hsub
  exact ⟨wf_less h.1 (by rw [ho]; simp [opLo]; omega) hsub.length_le, fun x hx => h.2 x (hsub.subset hx)⟩
theorem not_all {l : List Ex} (h : ¬ (l.all fun a => a.op == 1) = true) : ∃ a ∈ l, a.op ≠ 1 := by
 simp only [List.all_eq_true, beq_iff_eq, Classical.not_forall] at h
 obtain ⟨a, h1, h2⟩ := h
 exact ⟨a, h1, h2⟩
theorem ev_consts (row : List Vl) (d : Nat) {e : Ex} (ho : e.op ≠ 2) (hc : ∀ a ∈ e.args, a.op = 1) (hw : ∀ a ∈ e.args, wfX a = true) (hd : e.args ≠ [] → 0 < d) : evE row (d + 1) e = evE [] 2 e := by
 rw [ev_succ, ev_succ []]
 have hm : e.args.map (evE row d) = e.args.map (evE [] 1) := List.map_congr_left fun a ha => by
  obtain ⟨d, rfl⟩ : ∃ k, d = k + 1 := ⟨d - 1, by have := hd (List.ne_nil_of_mem ha); omega⟩
  rw [ev_con row d (hw a ha) (hc a ha), ev_con [] 0 (hw a ha) (hc a ha)]
 rw [hm, opE_rowZ row ho]
theorem sim_ok : ∀ (d : Nat) (e : Ex), Ex.Fin d e → WfT d (simE d e) ∧ ∀ row, evE row d (simE d e) = evE row d e
 | 0, _, h => h.elim
 | d + 1, e, h => by
  have ih := fun a (ha : a ∈ e.args) => sim_ok d a (h a ha)
  unfold simE
  by_cases hw : wfX e = true
  ·rw [if_pos hw]
   have hlen : (e.args.map (simE d)).length = e.args.length := List.length_map ..
   have hw' : wfX { e with args := e.args.map (simE d) } = true := (wf_args hlen).trans hw
   have hsub : ∀ a ∈ e.args.map (simE d), WfT d a := fun a ha => by
    obtain ⟨b, hb, rfl⟩ := List.mem_map.1 ha
    exact (ih b hb).1
   have hwt : WfT (d + 1) { e with args := e.args.map (simE d) } := ⟨hw', hsub⟩
   have hev : ∀ row, evE row (d + 1) { e with args := e.args.map (simE d) } = evE row (d + 1) e := fun row => by
    refine ev_args row d rfl rfl rfl (hw'.trans hw.symm) ?_
    rw [List.map_map]
    exact List.map_congr_left fun a ha => (ih a ha).2 row
   have hwa : ∀ a ∈ e.args.map (simE d), wfX a = true := fun a ha => wt_wf (hsub a ha)
   have hFa : ∀ a ∈ e.args.map (simE d), Ex.Fin d a := fun a ha => wt_fin (hsub a ha)
   by_cases hc : e.op ≠ 2 ∧ (e.args.map (simE d)).all (fun a => a.op == 1) = true
   ·rw [if_pos hc]
    have hv := vld_evE [] 2 { e with args := e.args.map (simE d) }
    refine ⟨wt_conE d hv, fun row => ?_⟩
    rw [ev_conE row d hv, ← hev row]
    exact (ev_consts row d (e := { e with args := e.args.map (simE d) }) hc.1 (fun a ha => by simpa using List.all_eq_true.1 hc.2 a ha) hwa (fun hne => by
     obtain ⟨a, ha⟩ := List.exists_mem_of_ne_nil _ hne
     exact fin_pos (hFa a ha))).symm
   ·rw [if_neg hc]
    have hs : e.op ≠ 2 → ∃ a ∈ e.args.map (simE d), a.op ≠ 1 := fun h2 => not_all fun h3 => hc ⟨h2, h3⟩
    by_cases h5 : e.op = 5 ∨ e.op = 6
    ·rw [if_pos h5]
     exact ⟨wt_simJ hwt h5 (hs (by omega)), fun row => (ev_simJ row d hw' h5 (fun a ha _ => hwa a ha) (hs (by omega)) hFa).trans (hev row)⟩
    rw [if_neg h5]
    by_cases h4 : e.op = 4
    ·rw [if_pos h4]
     exact ⟨wt_simN hwt, fun row => (ev_simN row d hw' h4 hwa hFa).trans (hev row)⟩
    rw [if_neg h4]
    by_cases h22 : e.op = 22
    ·rw [if_pos h22]
     exact ⟨wt_simC hwt, fun row => (ev_simC row d hw' h22 (fun a ha _ => hwa a ha) hFa).trans (hev row)⟩
    rw [if_neg h22]
    by_cases h23 : e.op = 23
    ·rw [if_pos h23]
     exact ⟨wt_simF hwt h23 (hs (by omega)), fun row => (ev_simF row d hw' h23 (fun a ha _ => hwa a ha) (hs (by omega)) hFa).trans (hev row)⟩
    rw [if_neg h23]
    exact ⟨hwt, hev⟩
  ·rw [if_neg hw]
   refine ⟨wt_conE d vld_null, fun row => ?_⟩
   rw [ev_conE row d vld_null, ev_succ, if_neg hw]
def nodE : Nat → Ex → Nat
 | 0, _ => 0
 | d + 1, e => 1 + (e.args.map (nodE d)).sum
theorem nod_succ (d : Nat) (e : Ex) : nodE (d + 1) e = 1 + (e.args.map (nodE d)).sum := rfl
theorem nod_up : ∀ {d : Nat} {e : Ex}, Ex.Fin d e → nodE (d + 1) e = nodE d e
 | 0, _, h => h.elim
 | d + 1, e, h => by
  rw [nod_succ, nod_succ]
  have : e.args.map (nodE (d + 1)) = e.args.map (nodE d) := List.map_congr_left fun a ha => nod_up (h a ha)
  rw [this]
theorem nod_pos {d : Nat} {e : Ex} (h : Ex.Fin d e) : 1 ≤ nodE d e := by
 cases d with
 | zero => exact h.elim
 | succ d => rw [nod_succ]; omega
theorem nod_con (d : Nat) (v : Vl) : nodE (d + 1) (conX v) = 1 := by rw [nod_succ]; rfl
theorem sum_sub {g : Ex → Nat} {r l : List Ex} (h : r.Sublist l) : (r.map g).sum ≤ (l.map g).sum := by
 induction h with
 | slnil => exact Nat.le_refl _
 | cons a _ ih => simp only [List.map_cons, List.sum_cons]; omega
 | cons_cons a _ ih => simp only [List.map_cons, List.sum_cons]; omega
theorem sum_mem {g : Ex → Nat} {a : Ex} {l : List Ex} (h : a ∈ l) : g a ≤ (l.map g).sum := by
 induction l with
 | nil => simp at h
 | cons b l ih =>
  simp only [List.map_cons, List.sum_cons]
  rcases List.mem_cons.1 h with rfl | h
  ·omega
  ·have := ih h; omega
theorem sum_two {g : Ex → Nat} {b : Ex} {l : List Ex} (hs : [b].Sublist l) (hl : 2 ≤ l.length) (hg : ∀ a ∈ l, 1 ≤ g a) : g b + 1 ≤ (l.map g).sum := by
 have h1 : ∀ l : List Ex, (∀ a ∈ l, 1 ≤ g a) → l.length ≤ (l.map g).sum := by
  intro l
  induction l with
  | nil => intro _; simp
  | cons a l ih =>
   intro h
   have a1 := h a (List.mem_cons_self ..)
   have a2 := ih fun b hb => h b (List.mem_cons_of_mem _ hb)
   simp only [List.map_cons, List.sum_cons, List.length_cons]; omega
 induction l with
 | nil => simp at hl
 | cons a l ih =>
  simp only [List.map_cons, List.sum_cons]
  simp only [List.length_cons] at hl
  have a1 := hg a (List.mem_cons_self ..)
  have a2 := h1 l fun b hb => hg b (List.mem_cons_of_mem _ hb)
  cases hs with
  | cons _ h =>
   have := sum_mem (g := g) (h.subset (List.mem_cons_self ..))
   omega
  | cons_cons _ h => omega
theorem sum_le {g f : Ex → Nat} {l : List Ex} (h : ∀ a ∈ l, g a ≤ f a) : (l.map g).sum ≤ (l.map f).sum := by
 induction l with
 | nil => exact Nat.le_refl _
 | cons a l ih =>
  have a1 := h a (List.mem_cons_self ..)
  have a2 := ih fun b hb => h b (List.mem_cons_of_mem _ hb)
  simp only [List.map_cons, List.sum_cons]; omega
theorem two_args {e : Ex} (hw : wfX e = true) (ho : e.op = 5 ∨ e.op = 6) : 2 ≤ e.args.length := by
 have h2 := (wfX_lo hw).1
 have hlo : opLo e.op = 2 := by rcases ho with h | h <;> rw [h] <;> rfl
 rw [hlo] at h2
 omega
theorem nod_simJ {d : Nat} {e : Ex} (h : WfT (d + 1) e) (ho : e.op = 5 ∨ e.op = 6) : nodE (d + 1) (simJ e) ≤ nodE (d + 1) e := by
 unfold simJ
 cases hr : juF e.op e.args with
 | none => rw [nod_con]; rw [nod_succ]; omega
 | some r =>
  have hsub := juF_sub hr
  match r, hsub with
  | [], _ => dsimp only; rw [nod_succ]; simp; rw [nod_succ]; omega
  | [b], hsub =>
   dsimp only
   have hb := h.2 b (hsub.subset (List.mem_cons_self ..))
   have h2 := sum_two (g := nodE d) hsub (two_args h.1 ho) fun a ha => nod_pos (wt_fin (h.2 a ha))
   split
   ·rw [nod_up (wt_fin hb), nod_succ]; omega
   ·obtain ⟨d, rfl⟩ : ∃ k, d = k + 1 := ⟨d - 1, by have := fin_pos (wt_fin hb); omega⟩
    rw [nod_succ, nod_succ]
    simp only [List.map_cons, List.map_nil, List.sum_cons, List.sum_nil, nod_con]
    omega
  | b :: c :: r, hsub =>
   dsimp only
   rw [nod_succ, nod_succ]
   have := sum_sub (g := nodE d) hsub
   dsimp only
   omega
theorem nod_simN {d : Nat} {e : Ex} (h : WfT (d + 1) e) : nodE (d + 1) (simN e) ≤ nodE (d + 1) e := by
 unfold simN
 cases ha : e.args with
 | nil => exact Nat.le_refl _
 | cons a l =>
  dsimp only
  have hb := h.2 a (by rw [ha]; exact List.mem_cons_self ..)
  have hm : nodE d a ≤ (e.args.map (nodE d)).sum := sum_mem (by rw [ha]; exact List.mem_cons_self ..)
  obtain ⟨d, rfl⟩ : ∃ k, d = k + 1 := ⟨d - 1, by have := fin_pos (wt_fin hb); omega⟩
  split
  ·cases hi : a.args with
   | nil => exact Nat.le_refl _
   | cons i m =>
    dsimp only
    split
    ·have hF := hb.2 i (by rw [hi]; exact List.mem_cons_self ..)
     have hm2 : nodE d i ≤ (a.args.map (nodE d)).sum := sum_mem (by rw [hi]; exact List.mem_cons_self ..)
     rw [nod_up (wt_fin (wt_up hF)), nod_up (wt_fin hF), nod_succ]
     rw [nod_succ] at hm
     omega
    ·exact Nat.le_refl _
  ·split
   ·have hF := wt_fin hb
    have : nodE (d + 1 + 1) { a with op := oppO a.op } = nodE (d + 1 + 1) a := rfl
    rw [this, nod_up hF, nod_succ (d + 1)]
    omega
   ·exact Nat.le_refl _
theorem nod_simC {d : Nat} {e : Ex} (h : WfT (d + 1) e) : nodE (d + 1) (simC e) ≤ nodE (d + 1) e := by
 unfold simC
 split
 ·rename_i c x y ha
  have hx := h.2 x (by rw [ha]; simp)
  have hy := h.2 y (by rw [ha]; simp)
  have mx : nodE d x ≤ (e.args.map (nodE d)).sum := sum_mem (by rw [ha]; simp)
  have my : nodE d y ≤ (e.args.map (nodE d)).sum := sum_mem (by rw [ha]; simp)
  split
  ·exact Nat.le_refl _
  ·split
   ·rw [nod_up (wt_fin hx), nod_succ]; omega
   ·rw [nod_up (wt_fin hy), nod_succ]; omega
 ·exact Nat.le_refl _
theorem nod_simF {d : Nat} {e : Ex} (h : WfT (d + 1) e) : nodE (d + 1) (simF e) ≤ nodE (d + 1) e := by
 have hsub := coF_sub e.args
 unfold simF
 match hr : coF e.args with
 | [] => dsimp only; rw [nod_succ, nod_succ]; simp
 | [b] =>
  dsimp only
  rw [hr] at hsub
  have hm : b ∈ e.args := hsub.subset (List.mem_cons_self ..)
  have := sum_mem (g := nodE d) hm
  rw [nod_up (wt_fin (h.2 b hm)), nod_succ]; omega
 | b :: c :: r =>
  dsimp only
  rw [hr] at hsub
  rw [nod_succ, nod_succ]
  have := sum_sub (g := nodE d) hsub
  dsimp only
  omega
theorem nod_sim : ∀ (d : Nat) (e : Ex), Ex.Fin d e → nodE d (simE d e) ≤ nodE d e
 | 0, _, h => h.elim
 | d + 1, e, h => by
  have h1 : 1 ≤ nodE (d + 1) e := nod_pos h
  unfold simE
  by_cases hw : wfX e = true
  ·rw [if_pos hw]
   have hwt : WfT (d + 1) { e with args := e.args.map (simE d) } := ⟨(wf_args (List.length_map ..)).trans hw, fun a ha => by
    obtain ⟨b, hb, rfl⟩ := List.mem_map.1 ha
    exact (sim_ok d b (h b hb)).1⟩
   have hle : nodE (d + 1) { e with args := e.args.map (simE d) } ≤ nodE (d + 1) e := by
    rw [nod_succ, nod_succ]
    dsimp only
    rw [List.map_map]
    have := sum_le (g := nodE d ∘ simE d) (f := nodE d) (l := e.args) fun a ha => nod_sim d a (h a ha)
    omega
   split
   ·rw [nod_con]; exact h1
   ·split
    ·rename_i h5
     exact Nat.le_trans (nod_simJ hwt h5) hle
    ·split
     ·exact Nat.le_trans (nod_simN hwt) hle
     ·split
      ·exact Nat.le_trans (nod_simC hwt) hle
      ·split
       ·exact Nat.le_trans (nod_simF hwt) hle
       ·exact hle
  ·rw [if_neg hw, nod_con]; exact h1
theorem mx_mem {d : Nat} {a : Ex} {l : List Ex} (h : a ∈ l) : depE d a ≤ mxE d l := by
 unfold mxE
 have g : ∀ (l : List Ex) (m : Nat), m ≤ (l.map (depE d)).foldl max m ∧ (∀ a ∈ l, depE d a ≤ (l.map (depE d)).foldl max m) := by
  intro l
  induction l with
  | nil => intro m; exact ⟨Nat.le_refl _, fun a ha => by simp at ha⟩
  | cons b l ih =>
   intro m
   have h1 := ih (max m (depE d b))
   refine ⟨?_, fun a ha => ?_⟩
   ·have := h1.1; simp only [List.map_cons, List.foldl_cons]; omega
   ·simp only [List.map_cons, List.foldl_cons]
    rcases List.mem_cons.1 ha with rfl | ha
    ·have := h1.1; omega
    ·exact h1.2 a ha
 exact (g l 0).2 a h
theorem mx_bd {d m : Nat} {l : List Ex} (h : ∀ a ∈ l, depE d a ≤ m) : mxE d l ≤ m := by
 unfold mxE
 have g : ∀ (l : List Ex) (k : Nat), k ≤ m → (∀ a ∈ l, depE d a ≤ m) → (l.map (depE d)).foldl max k ≤ m := by
  intro l
  induction l with
  | nil => intro k hk _; exact hk
  | cons b l ih =>
   intro k hk h
   simp only [List.map_cons, List.foldl_cons]
   exact ih _ (by have := h b (List.mem_cons_self ..); omega) fun a ha => h a (List.mem_cons_of_mem _ ha)
 exact g l 0 (Nat.zero_le _) h
theorem dep_up : ∀ {d : Nat} {e : Ex}, Ex.Fin d e → depE (d + 1) e = depE d e
 | 0, _, h => h.elim
 | d + 1, e, h => by
  rw [depE_succ, depE_succ]
  have : e.args.map (depE (d + 1)) = e.args.map (depE d) := List.map_congr_left fun a ha => dep_up (h a ha)
  unfold mxE
  rw [this]
theorem dep_con (d : Nat) (v : Vl) : depE (d + 1) (conX v) = 1 := by rw [depE_succ]; rfl
theorem dep_simJ {d : Nat} {e : Ex} (h : WfT (d + 1) e) : depE (d + 1) (simJ e) ≤ depE (d + 1) e := by
 unfold simJ
 cases hr : juF e.op e.args with
 | none => rw [dep_con]; rw [depE_succ]; omega
 | some r =>
  have hsub := juF_sub hr
  match r, hsub with
  | [], _ => dsimp only; rw [depE_succ, depE_succ]; exact Nat.succ_le_succ (Nat.zero_le _)
  | [b], hsub =>
   dsimp only
   have hm : b ∈ e.args := hsub.subset (List.mem_cons_self ..)
   have hb := h.2 b hm
   have hx := mx_mem (d := d) hm
   split
   ·rw [dep_up (wt_fin hb), depE_succ]; omega
   ·obtain ⟨d, rfl⟩ : ∃ k, d = k + 1 := ⟨d - 1, by have := fin_pos (wt_fin hb); omega⟩
    rw [depE_succ, depE_succ]
    have : mxE (d + 1) [b, conX (ofP (neuT e.op))] ≤ mxE (d + 1) e.args := mx_bd fun a ha => by
     have ha : a = b ∨ a = conX (ofP (neuT e.op)) := by simpa using ha
     rcases ha with rfl | rfl
     ·exact hx
     ·rw [dep_con]
      have : 1 ≤ depE (d + 1) b := by rw [depE_succ]; omega
      omega
    exact Nat.succ_le_succ this
  | b :: c :: r, hsub =>
   dsimp only
   rw [depE_succ, depE_succ]
   exact Nat.succ_le_succ (mx_bd fun a ha => mx_mem (hsub.subset ha))
theorem dep_simN {d : Nat} {e : Ex} (h : WfT (d + 1) e) : depE (d + 1) (simN e) ≤ depE (d + 1) e := by
 unfold simN
 cases ha : e.args with
 | nil => exact Nat.le_refl _
 | cons a l =>
  dsimp only
  have hma : a ∈ e.args := by rw [ha]; exact List.mem_cons_self ..
  have hb := h.2 a hma
  have hm := mx_mem (d := d) hma
  obtain ⟨d, rfl⟩ : ∃ k, d = k + 1 := ⟨d - 1, by have := fin_pos (wt_fin hb); omega⟩
  split
  ·cases hi : a.args with
   | nil => exact Nat.le_refl _
   | cons i m =>
    dsimp only
    split
    ·have hmi : i ∈ a.args := by rw [hi]; exact List.mem_cons_self ..
     have hF := hb.2 i hmi
     have hm2 := mx_mem (d := d) hmi
     rw [dep_up (wt_fin (wt_up hF)), dep_up (wt_fin hF), depE_succ]
     rw [depE_succ] at hm
     omega
    ·exact Nat.le_refl _
  ·split
   ·have hF := wt_fin hb
    have : depE (d + 1 + 1) { a with op := oppO a.op } = depE (d + 1 + 1) a := rfl
    rw [this, dep_up hF, depE_succ (d + 1)]
    omega
   ·exact Nat.le_refl _
theorem dep_simC {d : Nat} {e : Ex} (h : WfT (d + 1) e) : depE (d + 1) (simC e) ≤ depE (d + 1) e := by
 unfold simC
 split
 ·rename_i c x y ha
  have hx := h.2 x (by rw [ha]; simp)
  have hy := h.2 y (by rw [ha]; simp)
  have mx : depE d x ≤ mxE d e.args := mx_mem (by rw [ha]; simp)
  have my : depE d y ≤ mxE d e.args := mx_mem (by rw [ha]; simp)
  split
  ·exact Nat.le_refl _
  ·split
   ·rw [dep_up (wt_fin hx), depE_succ]; omega
   ·rw [dep_up (wt_fin hy), depE_succ]; omega
 ·exact Nat.le_refl _
theorem dep_simF {d : Nat} {e : Ex} (h : WfT (d + 1) e) : depE (d + 1) (simF e) ≤ depE (d + 1) e := by
 have hsub := coF_sub e.args
 unfold simF
 match hr : coF e.args with
 | [] => dsimp only; rw [depE_succ, depE_succ]; exact Nat.succ_le_succ (Nat.zero_le _)
 | [b] =>
  dsimp only
  rw [hr] at hsub
  have hm : b ∈ e.args := hsub.subset (List.mem_cons_self ..)
  have := mx_mem (d := d) hm
  rw [dep_up (wt_fin (h.2 b hm)), depE_succ]; omega
 | b :: c :: r =>
  dsimp only
  rw [hr] at hsub
  rw [depE_succ, depE_succ]
  exact Nat.succ_le_succ (mx_bd fun a ha => mx_mem (hsub.subset ha))
theorem dep_sim : ∀ (d : Nat) (e : Ex), Ex.Fin d e → depE d (simE d e) ≤ depE d e
 | 0, _, h => h.elim
 | d + 1, e, h => by
  have h1 : 1 ≤ depE (d + 1) e := by rw [depE_succ]; omega
  unfold simE
  by_cases hw : wfX e = true
  ·rw [if_pos hw]
   have hwt : WfT (d + 1) { e with args := e.args.map (simE d) } := ⟨(wf_args (List.length_map ..)).trans hw, fun a ha => by
    obtain ⟨b, hb, rfl⟩ := List.mem_map.1 ha
    exact (sim_ok d b (h b hb)).1⟩
   have hle : depE (d + 1) { e with args := e.args.map (simE d) } ≤ depE (d + 1) e := by
    rw [depE_succ, depE_succ]
    refine Nat.succ_le_succ (mx_bd fun a ha => ?_)
    obtain ⟨b, hb, rfl⟩ := List.mem_map.1 ha
    exact Nat.le_trans (dep_sim d b (h b hb)) (mx_mem hb)
   split
   ·rw [dep_con]; exact h1
   ·split
    ·exact Nat.le_trans (dep_simJ hwt) hle
    ·split
     ·exact Nat.le_trans (dep_simN hwt) hle
     ·split
      ·exact Nat.le_trans (dep_simC hwt) hle
      ·split
       ·exact Nat.le_trans (dep_simF hwt) hle
       ·exact hle
  ·rw [if_neg hw, dep_con]; exact h1
theorem sim_nocol : ∀ (d : Nat) (e : Ex), Ex.Fin d e → colE d e = [] → (simE d e).op = 1
 | 0, _, h, _ => h.elim
 | d + 1, e, h, hc => by
  unfold colE at hc
  obtain ⟨h1, h2⟩ := List.append_eq_nil_iff.1 hc
  have ho : e.op ≠ 2 := fun ho => by unfold colH at h1; rw [if_pos ho] at h1; simp at h1
  unfold simE
  by_cases hw : wfX e = true
  ·have hall : (e.args.map (simE d)).all (fun a => a.op == 1) = true := by
    rw [List.all_eq_true]
    intro a ha
    obtain ⟨b, hb, rfl⟩ := List.mem_map.1 ha
    simp [sim_nocol d b (h b hb) (List.flatMap_eq_nil_iff.1 h2 b hb)]
   rw [if_pos hw, if_pos ⟨ho, hall⟩]
   rfl
  ·rw [if_neg hw]; rfl
theorem join_of {k : Int} : ∀ (zs : List Int) (r : Int), (r = 0 ∨ r = k) → (∀ z ∈ zs, z = 0 ∨ z = k) → ∃ j, joinK r zs = some j ∧ (j = 0 ∨ j = k)
 | [], r, hr, _ => ⟨r, rfl, hr⟩
 | z :: zs, r, hr, h => by
  have hz := h z (List.mem_cons_self ..)
  have ht := fun y hy => h y (List.mem_cons_of_mem _ hy)
  unfold joinK
  by_cases z0 : z = 0
  ·rw [if_pos z0]; exact join_of zs r hr ht
  ·rw [if_neg z0]
   have hk : z = k := hz.resolve_left z0
   have hn : ¬ (r ≠ 0 ∧ z ≠ r) := fun h2 => by
    rcases hr with h3 | h3
    ·exact h2.1 h3
    ·exact h2.2 (hk.trans h3.symm)
   rw [if_neg hn]
   exact join_of zs z (.inr hk) ht
theorem res_get {d r k : Int} {zs : List Int} (h : resT d r zs = (k, 0)) : ∃ j, (∀ z ∈ zs, z = 0 ∨ z = j) ∧ (d = 0 ∨ d = j) ∧ k = if r = 0 then j else r := by
 unfold resT at h
 cases hj : joinK 0 (zs ++ [d]) with
 | none => rw [hj] at h; simp at h
 | some j =>
  rw [hj] at h
  obtain ⟨_, h2⟩ := join_some _ _ _ hj
  refine ⟨j, fun z hz => h2 z (List.mem_append_left _ hz), h2 d (by simp), ?_⟩
  dsimp only at h
  split at h
  ·rename_i hr
   injection h with h _
   rw [if_pos hr]; exact h.symm
  ·rename_i hr
   injection h with h _
   rw [if_neg hr]; exact h.symm
theorem res_put {d r j : Int} {zs : List Int} (h : ∀ z ∈ zs, z = 0 ∨ z = j) (hd : d = 0 ∨ d = j) : ∃ m, resT d r zs = (if r = 0 then m else r, 0) ∧ (m = 0 ∨ m = j) := by
 obtain ⟨m, hm, hj⟩ := join_of (k := j) (zs ++ [d]) 0 (.inl rfl) fun z hz => by
  rcases List.mem_append.1 hz with hz | hz
  ·exact h z hz
  ·have : z = d := by simpa using hz
   rw [this]; exact hd
 refine ⟨m, ?_, hj⟩
 unfold resT
 rw [hm]
 dsimp only
 split <;> rfl
theorem ers_of (f : Ex → Int × Int) : ∀ es : List Ex, (∀ a ∈ es, (f a).2 = 0) → ersK f es = 0
 | [], _ => rfl
 | e :: es, h => by
  unfold ersK
  rw [if_pos (h e (List.mem_cons_self ..))]
  exact ers_of f es fun a ha => h a (List.mem_cons_of_mem _ ha)
theorem exK_of {e : Ex} {c : Int} (hw : wfX e = true) (hi : e.op = 2 → idxB e.n c = true) : exK e c = 0 := by
 have hk : knw e.op = true := by
  unfold wfX wfE at hw
  simp only [Bool.and_eq_true] at hw
  exact hw.1.1.1
 unfold exK chkE
 rw [if_neg (by rw [hk]; simp), if_neg (by unfold wfX at hw; rw [hw]; simp), if_neg]
 rintro ⟨h1, h2⟩
 rw [hi h1] at h2
 cases h2
theorem knd_in {zs : List Int} {d : Nat} {e : Ex} (hw : wfX e = true) (hi : e.op = 2 → idxB e.n zs.length = true) (ha : ∀ a ∈ e.args, (kndE zs d a).2 = 0) :
  kndE zs (d + 1) e = if e.op = 1 then (e.v.1, 0) else if e.op = 2 then (zs.getD e.n.toNat 0, 0) else resG e.op (e.args.map fun a => (kndE zs d a).1) := by
 conv => lhs; unfold kndE
 rw [if_neg (by rw [exK_of hw hi]; simp), if_neg (by rw [ers_of _ _ ha]; simp)]
theorem knd_out {zs : List Int} {d : Nat} {e : Ex} {k : Int} (h : kndE zs (d + 1) e = (k, 0)) : wfX e = true ∧ (e.op = 2 → idxB e.n zs.length = true) ∧ (∀ a ∈ e.args, (kndE zs d a).2 = 0) := by
 unfold kndE at h
 by_cases hx : exK e zs.length ≠ 0
 ·rw [if_pos hx] at h
  injection h with _ h2
  exact absurd h2 hx
 rw [if_neg hx] at h
 have hx0 : exK e zs.length = 0 := by simpa using hx
 obtain ⟨hwf, hidx⟩ := exK_wf hx0
 by_cases he : ersK (kndE zs d) e.args ≠ 0
 ·rw [if_pos he] at h
  injection h with _ h2
  exact absurd h2 he
 exact ⟨hwf, hidx, ers_zero _ _ (by simpa using he)⟩
theorem knd_up {zs : List Int} : ∀ {d : Nat} {e : Ex}, Ex.Fin d e → kndE zs (d + 1) e = kndE zs d e
 | 0, _, h => h.elim
 | d + 1, e, h => by
  have hm : ∀ a ∈ e.args, kndE zs (d + 1) a = kndE zs d a := fun a ha => knd_up (h a ha)
  have h1 : ∀ l : List Ex, (∀ a ∈ l, kndE zs (d + 1) a = kndE zs d a) → ersK (kndE zs (d + 1)) l = ersK (kndE zs d) l := by
   intro l
   induction l with
   | nil => intro _; rfl
   | cons a l ih =>
    intro h
    conv => lhs; unfold ersK
    conv => rhs; unfold ersK
    rw [h a (List.mem_cons_self ..), ih fun b hb => h b (List.mem_cons_of_mem _ hb)]
  have h2 : (e.args.map fun a => (kndE zs (d + 1) a).1) = e.args.map fun a => (kndE zs d a).1 := List.map_congr_left fun a ha => by rw [hm a ha]
  conv => lhs; unfold kndE
  conv => rhs; unfold kndE
  rw [h1 _ hm, h2]
theorem knd_conE (zs : List Int) (d : Nat) {v : Vl} (h : vldP v = true) : kndE zs (d + 1) (conX v) = (v.1, 0) := by
 rw [knd_in (wf_conE h) (fun h2 => by simp [conX] at h2) (fun a ha => by simp [conX] at ha), if_pos (show (conX v).op = 1 from rfl)]
 rfl
theorem knd_con (zs : List Int) (d : Nat) {e : Ex} (hw : wfX e = true) (ho : e.op = 1) : kndE zs (d + 1) e = (e.v.1, 0) := by
 rw [knd_in hw (fun h2 => by omega) (fun a ha => by rw [wf_con0 hw ho] at ha; simp at ha), if_pos ho]
theorem resG_t {op : Int} (zs : List Int) (h : op ≠ 22) : resG op zs = resT (opAr op) (opRs op) zs := by
 unfold resG
 rw [if_neg h]
theorem resG_i {k : Int} {x y z : Int} (h : resG 22 [x, y, z] = (k, 0)) : (y = 0 ∨ y = k) ∧ (z = 0 ∨ z = k) ∧ (x = 0 ∨ x = 3) := by
 unfold resG at h
 rw [if_pos rfl] at h
 change resI x y z = (k, 0) at h
 unfold resI at h
 split at h
 ·simp at h
 ·rename_i hn
  obtain ⟨j, h1, _, h3⟩ := res_get h
  rw [if_pos rfl] at h3
  subst h3
  refine ⟨h1 y (by simp), h1 z (by simp), ?_⟩
  cases hj : joinK 0 [x, 3] with
  | none => exact absurd hj hn
  | some j =>
   obtain ⟨_, h2⟩ := join_some _ _ _ hj
   have e3 : (3 : Int) = j := (h2 3 (by simp)).resolve_left (by omega)
   rw [e3]; exact h2 x (by simp)
theorem resG_i2 {k : Int} {x y z : Int} (hx : x = 0 ∨ x = 3) (hy : y = 0 ∨ y = k) (hz : z = 0 ∨ z = k) : ∃ m, resG 22 [x, y, z] = (m, 0) ∧ (m = k ∨ m = 0) := by
 unfold resG
 rw [if_pos rfl]
 show ∃ m, resI x y z = (m, 0) ∧ _
 unfold resI
 obtain ⟨j, hj, _⟩ := join_of (k := 3) [x, 3] 0 (.inl rfl) (fun w hw => by
  have : w = x ∨ w = 3 := by simpa using hw
  rcases this with rfl | rfl
  ·exact hx
  ·exact .inr rfl)
 rw [if_neg (by rw [hj]; simp)]
 obtain ⟨m, h1, h2⟩ := res_put (d := 0) (r := 0) (j := k) (zs := [y, z]) (fun w hw => by
  have : w = y ∨ w = z := by simpa using hw
  rcases this with rfl | rfl
  ·exact hy
  ·exact hz) (.inl rfl)
 rw [if_pos rfl] at h1
 exact ⟨m, h1, h2.symm⟩
theorem resG_less {op : Int} {l : List Ex} {f g : Ex → Int} {k : Int} (h : resG op (l.map f) = (k, 0)) (hl : op = 22 → l.length = 3) (hg : ∀ a ∈ l, g a = f a ∨ g a = 0) : ∃ m, resG op (l.map g) = (m, 0) ∧ (m = k ∨ m = 0) := by
 by_cases ho : op = 22
 ·subst ho
  match l, hl rfl with
  | [a, b, c], _ =>
   obtain ⟨h1, h2, h3⟩ := resG_i (x := f a) (y := f b) (z := f c) h
   have g1 := hg a (by simp)
   have g2 := hg b (by simp)
   have g3 := hg c (by simp)
   exact resG_i2 (x := g a) (y := g b) (z := g c) (by omega) (by omega) (by omega)
 ·rw [resG_t _ ho] at h
  obtain ⟨j, h1, h2, h3⟩ := res_get h
  obtain ⟨m, h4, h5⟩ := res_put (d := opAr op) (r := opRs op) (j := j) (zs := l.map g) (fun z hz => by
   obtain ⟨a, ha, rfl⟩ := List.mem_map.1 hz
   have := h1 (f a) (List.mem_map_of_mem ha)
   have := hg a ha
   omega) h2
  refine ⟨_, (resG_t _ ho).trans h4, ?_⟩
  rw [h3]
  split
  ·exact h5.symm
  ·exact .inl rfl
theorem res_tru {op : Int} (ho : op = 4 ∨ op = 5 ∨ op = 6) {zs : List Int} {k : Int} (h : resG op zs = (k, 0)) : k = 3 ∧ ∀ z ∈ zs, z = 0 ∨ z = 3 := by
 rw [resG_t _ (by omega)] at h
 obtain ⟨j, h1, h2, h3⟩ := res_get h
 have ha : opAr op = 3 := by rcases ho with rfl | rfl | rfl <;> rfl
 have hr : opRs op = 3 := by rcases ho with rfl | rfl | rfl <;> rfl
 rw [ha] at h2
 rw [hr, if_neg (by omega)] at h3
 have : (3 : Int) = j := h2.resolve_left (by omega)
 subst this
 exact ⟨h3, h1⟩
theorem res_tru2 {op : Int} (ho : op = 4 ∨ op = 5 ∨ op = 6) {zs : List Int} (h : ∀ z ∈ zs, z = 0 ∨ z = 3) : resG op zs = (3, 0) := by
 have ha : opAr op = 3 := by rcases ho with rfl | rfl | rfl <;> rfl
 have hr : opRs op = 3 := by rcases ho with rfl | rfl | rfl <;> rfl
 obtain ⟨m, h1, _⟩ := res_put (d := 3) (r := 3) (j := 3) h (.inr rfl)
 rw [resG_t _ (by omega), ha, hr, h1, if_neg (by omega)]
theorem knd_simJ {zs : List Int} {d : Nat} {e : Ex} {k : Int} (h : WfT (d + 1) e) (ho : e.op = 5 ∨ e.op = 6) (hs : ∃ a ∈ e.args, a.op ≠ 1) (hk : kndE zs (d + 1) e = (k, 0)) : ∃ m, kndE zs (d + 1) (simJ e) = (m, 0) ∧ (m = k ∨ m = 0) := by
 obtain ⟨hw, _, ha⟩ := knd_out hk
 rw [knd_in hw (by omega) ha, if_neg (by omega), if_neg (by omega)] at hk
 obtain ⟨rfl, hz⟩ := res_tru (by omega) hk
 have hz : ∀ a ∈ e.args, (kndE zs d a).1 = 0 ∨ (kndE zs d a).1 = 3 := fun a hm => hz _ (List.mem_map_of_mem (f := fun a => (kndE zs d a).1) hm)
 unfold simJ
 cases hr : juF e.op e.args with
 | none =>
  refine ⟨3, ?_, .inl rfl⟩
  rw [knd_conE zs d vld_ofP]
  rcases ho with h | h <;> rw [h] <;> rfl
 | some r =>
  have hsub := juF_sub hr
  obtain ⟨a, hma, h1⟩ := hs
  have hin := juF_some hr hma h1
  have hle := hsub.length_le
  have hlo : opLo e.op = 2 := by rcases ho with h | h <;> rw [h] <;> rfl
  have h2 := (wfX_lo h.1).1
  rw [hlo] at h2
  match r, hin, hle, hsub with
  | [b], _, _, hsub =>
   dsimp only
   have hm : b ∈ e.args := hsub.subset (List.mem_cons_self ..)
   have hb := h.2 b hm
   have hkb : kndE zs d b = ((kndE zs d b).1, 0) := Prod.ext rfl (ha b hm)
   split
   ·refine ⟨(kndE zs d b).1, ?_, (hz b hm).symm⟩
    rw [knd_up (wt_fin hb)]; exact hkb
   ·obtain ⟨d, rfl⟩ : ∃ k, d = k + 1 := ⟨d - 1, by have := fin_pos (wt_fin hb); omega⟩
    have hw2 : wfX { e with args := [b, conX (ofP (neuT e.op))] } = true := wf_less h.1 (by rw [hlo]; exact Int.le_refl _) (by simp; omega)
    have hcn : kndE zs (d + 1) (conX (ofP (neuT e.op))) = (3, 0) := by
     rw [knd_conE zs d vld_ofP]
     rcases ho with h | h <;> rw [h] <;> rfl
    refine ⟨3, ?_, .inl rfl⟩
    have hmem : ∀ x ∈ [b, conX (ofP (neuT e.op))], x = b ∨ x = conX (ofP (neuT e.op)) := fun x hx => by simpa using hx
    rw [knd_in hw2 (fun h2 => by dsimp only at h2; omega) (fun x hx => by rcases hmem x hx with rfl | rfl; exact ha _ hm; rw [hcn])]
    dsimp only
    rw [if_neg (by omega), if_neg (by omega)]
    refine res_tru2 (by omega) fun z hz2 => ?_
    obtain ⟨x, hx, rfl⟩ := List.mem_map.1 hz2
    rcases hmem x hx with rfl | rfl
    ·exact hz _ hm
    ·rw [hcn]; exact .inr rfl
  | b :: c :: r, _, hle, hsub =>
   dsimp only
   have hw2 : wfX { e with args := b :: c :: r } = true := wf_less h.1 (by rw [hlo]; simp; omega) hle
   refine ⟨3, ?_, .inl rfl⟩
   rw [knd_in hw2 (fun h2 => by dsimp only at h2; omega) (fun x hx => ha x (hsub.subset hx))]
   dsimp only
   rw [if_neg (by omega), if_neg (by omega)]
   refine res_tru2 (by omega) fun z hz2 => ?_
   obtain ⟨x, hx, rfl⟩ := List.mem_map.1 hz2
   exact hz _ (hsub.subset hx)
theorem opp_res {op : Int} (h : op = 7 ∨ op = 8 ∨ op = 9 ∨ op = 10 ∨ op = 11 ∨ op = 12) (zs : List Int) : resG (oppO op) zs = resG op zs := by
 rcases h with rfl | rfl | rfl | rfl | rfl | rfl <;> rfl
theorem opp_knd {zs : List Int} {d : Nat} {a : Ex} (hw : wfX a = true) (h : a.op = 7 ∨ a.op = 8 ∨ a.op = 9 ∨ a.op = 10 ∨ a.op = 11 ∨ a.op = 12) (ha : ∀ b ∈ a.args, (kndE zs d b).2 = 0) : kndE zs (d + 1) { a with op := oppO a.op } = kndE zs (d + 1) a := by
 have hr := opp_rng h
 rw [knd_in (e := { a with op := oppO a.op }) ((opp_wf h).trans hw) (fun h2 => by dsimp only at h2; omega) ha, knd_in hw (fun h2 => by omega) ha]
 dsimp only
 rw [if_neg (by omega), if_neg (by omega), if_neg (by omega), if_neg (by omega), opp_res h]
theorem knd_simN {zs : List Int} {d : Nat} {e : Ex} {k : Int} (h : WfT (d + 1) e) (ho : e.op = 4) (hk : kndE zs (d + 1) e = (k, 0)) : ∃ m, kndE zs (d + 1) (simN e) = (m, 0) ∧ (m = k ∨ m = 0) := by
 have hk0 := hk
 obtain ⟨hw, _, ha⟩ := knd_out hk
 rw [knd_in hw (by omega) ha, if_neg (by omega), if_neg (by omega)] at hk
 obtain ⟨rfl, hz⟩ := res_tru (.inl ho) hk
 have hz : ∀ a ∈ e.args, (kndE zs d a).1 = 0 ∨ (kndE zs d a).1 = 3 := fun a hm => hz _ (List.mem_map_of_mem (f := fun a => (kndE zs d a).1) hm)
 have hself : ∃ m, kndE zs (d + 1) e = (m, 0) ∧ (m = 3 ∨ m = 0) := ⟨3, hk0, .inl rfl⟩
 unfold simN
 cases hg : e.args with
 | nil => exact hself
 | cons a l =>
  dsimp only
  have hm : a ∈ e.args := by rw [hg]; exact List.mem_cons_self ..
  have hb := h.2 a hm
  have hka : kndE zs d a = ((kndE zs d a).1, 0) := Prod.ext rfl (ha a hm)
  have hza := hz a hm
  obtain ⟨d, rfl⟩ : ∃ k, d = k + 1 := ⟨d - 1, by have := fin_pos (wt_fin hb); omega⟩
  obtain ⟨hwa, _, haa⟩ := knd_out hka
  split
  ·rename_i h4
   cases hi : a.args with
   | nil => exact hself
   | cons i m =>
    dsimp only
    split
    ·have hmi : i ∈ a.args := by rw [hi]; exact List.mem_cons_self ..
     have hF := hb.2 i hmi
     rw [knd_in hwa (by omega) haa, if_neg (by omega), if_neg (by omega)] at hka
     obtain ⟨_, hz2⟩ := res_tru (.inl h4) hka
     have := hz2 _ (List.mem_map_of_mem (f := fun a => (kndE zs d a).1) hmi)
     refine ⟨(kndE zs d i).1, ?_, this.symm⟩
     rw [knd_up (wt_fin (wt_up hF)), knd_up (wt_fin hF)]
     exact Prod.ext rfl (haa i hmi)
    ·exact hself
  ·split
   ·rename_i h5
    refine ⟨(kndE zs (d + 1) a).1, ?_, hza.symm⟩
    have hF0 : Ex.Fin (d + 1) a := wt_fin hb
    have hF : Ex.Fin (d + 1) { a with op := oppO a.op } := fun x hx => hF0 x hx
    rw [knd_up hF, opp_knd hwa h5 haa]
    exact hka
   ·exact hself
theorem knd_simC {zs : List Int} {d : Nat} {e : Ex} {k : Int} (h : WfT (d + 1) e) (ho : e.op = 22) (hk : kndE zs (d + 1) e = (k, 0)) : ∃ m, kndE zs (d + 1) (simC e) = (m, 0) ∧ (m = k ∨ m = 0) := by
 have hk0 := hk
 obtain ⟨hw, _, ha⟩ := knd_out hk
 rw [knd_in hw (by omega) ha, if_neg (by omega), if_neg (by omega)] at hk
 unfold simC
 split
 ·rename_i c x y hg
  rw [ho, hg] at hk
  obtain ⟨hx, hy, _⟩ := resG_i hk
  have hmx : x ∈ e.args := by rw [hg]; simp
  have hmy : y ∈ e.args := by rw [hg]; simp
  split
  ·exact ⟨k, hk0, .inl rfl⟩
  ·split
   ·refine ⟨(kndE zs d x).1, ?_, hx.symm⟩
    rw [knd_up (wt_fin (h.2 x hmx))]
    exact Prod.ext rfl (ha x hmx)
   ·refine ⟨(kndE zs d y).1, ?_, hy.symm⟩
    rw [knd_up (wt_fin (h.2 y hmy))]
    exact Prod.ext rfl (ha y hmy)
 ·exact ⟨k, hk0, .inl rfl⟩
theorem knd_simF {zs : List Int} {d : Nat} {e : Ex} {k : Int} (h : WfT (d + 1) e) (ho : e.op = 23) (hs : ∃ a ∈ e.args, a.op ≠ 1) (hk : kndE zs (d + 1) e = (k, 0)) : ∃ m, kndE zs (d + 1) (simF e) = (m, 0) ∧ (m = k ∨ m = 0) := by
 obtain ⟨hw, _, ha⟩ := knd_out hk
 rw [knd_in hw (by omega) ha, if_neg (by omega), if_neg (by omega), ho, resG_t _ (by omega)] at hk
 obtain ⟨j, hz, _, h3⟩ := res_get hk
 rw [if_pos (show opRs 23 = 0 from rfl)] at h3
 subst h3
 have hz : ∀ a ∈ e.args, (kndE zs d a).1 = 0 ∨ (kndE zs d a).1 = k := fun a hm => hz _ (List.mem_map_of_mem (f := fun a => (kndE zs d a).1) hm)
 have hsub := coF_sub e.args
 have hne : coF e.args ≠ [] := by
  obtain ⟨a, ha, h1⟩ := hs
  exact coF_mem ha h1
 unfold simF
 match hr : coF e.args with
 | [] => exact absurd hr hne
 | [b] =>
  dsimp only
  have hm : b ∈ e.args := hsub.subset (by rw [hr]; exact List.mem_cons_self ..)
  refine ⟨(kndE zs d b).1, ?_, (hz b hm).symm⟩
  rw [knd_up (wt_fin (h.2 b hm))]
  exact Prod.ext rfl (ha b hm)
 | b :: c :: r =>
  dsimp only
  rw [hr] at hsub
  have hw2 : wfX { e with args := b :: c :: r } = true := wf_less h.1 (by rw [ho]; simp [opLo]; omega) hsub.length_le
  obtain ⟨m, h1, h2⟩ := res_put (d := 0) (r := 0) (j := k) (zs := (b :: c :: r).map fun a => (kndE zs d a).1) (fun z hz2 => by
   obtain ⟨x, hx, rfl⟩ := List.mem_map.1 hz2
   exact hz x (hsub.subset hx)) (.inl rfl)
  refine ⟨m, ?_, h2.symm⟩
  rw [knd_in hw2 (fun h2 => by dsimp only at h2; omega) (fun x hx => ha x (hsub.subset hx))]
  dsimp only
  rw [if_neg (by omega), if_neg (by omega), ho, resG_t _ (by omega)]
  rw [if_pos rfl] at h1
  exact h1
theorem knd_sim (zs : List Int) : ∀ (d : Nat) (e : Ex) (k : Int), Ex.Fin d e → kndE zs d e = (k, 0) → ∃ m, kndE zs d (simE d e) = (m, 0) ∧ (m = k ∨ m = 0)
 | 0, _, _, h, _ => h.elim
 | d + 1, e, k, h, hk => by
  obtain ⟨hw0, hi, ha⟩ := knd_out hk
  have hw : wfX e = true := hw0
  have ih := fun a (hm : a ∈ e.args) => knd_sim zs d a (kndE zs d a).1 (h a hm) (Prod.ext rfl (ha a hm))
  have hlen : (e.args.map (simE d)).length = e.args.length := List.length_map ..
  have hw' : wfX { e with args := e.args.map (simE d) } = true := (wf_args hlen).trans hw
  have hwt : WfT (d + 1) { e with args := e.args.map (simE d) } := ⟨hw', fun a ha => by
   obtain ⟨b, hb, rfl⟩ := List.mem_map.1 ha
   exact (sim_ok d b (h b hb)).1⟩
  have ha' : ∀ a ∈ e.args.map (simE d), (kndE zs d a).2 = 0 := fun a hm => by
   obtain ⟨b, hb, rfl⟩ := List.mem_map.1 hm
   obtain ⟨m, h1, _⟩ := ih b hb
   rw [h1]
  -- the node with simplified arguments
  have hnode : ∃ m, kndE zs (d + 1) { e with args := e.args.map (simE d) } = (m, 0) ∧ (m = k ∨ m = 0) := by
   rw [knd_in hw hi ha] at hk
   rw [knd_in hw' hi ha']
   dsimp only
   by_cases o1 : e.op = 1
   ·rw [if_pos o1] at hk ⊢
    exact ⟨k, hk, .inl rfl⟩
   rw [if_neg o1] at hk ⊢
   by_cases o2 : e.op = 2
   ·rw [if_pos o2] at hk ⊢
    exact ⟨k, hk, .inl rfl⟩
   rw [if_neg o2] at hk ⊢
   rw [List.map_map]
   refine resG_less (g := (fun a => (kndE zs d a).1) ∘ simE d) hk (fun h22 => ?_) (fun a hm => ?_)
   ·obtain ⟨c, x, y, hg⟩ := wf_three hw h22
    rw [hg]; rfl
   ·obtain ⟨m, h1, h2⟩ := ih a hm
    show (kndE zs d (simE d a)).1 = _ ∨ (kndE zs d (simE d a)).1 = 0
    rw [h1]; exact h2
  obtain ⟨k1, hk1, hkk⟩ := hnode
  have close : ∀ {x : Ex}, (∃ m, kndE zs (d + 1) x = (m, 0) ∧ (m = k1 ∨ m = 0)) → ∃ m, kndE zs (d + 1) x = (m, 0) ∧ (m = k ∨ m = 0) := fun ⟨m, h1, h2⟩ => ⟨m, h1, by omega⟩
  unfold simE
  rw [if_pos hw]
  by_cases hc : e.op ≠ 2 ∧ (e.args.map (simE d)).all (fun a => a.op == 1) = true
  ·rw [if_pos hc]
   refine close ⟨_, knd_conE zs d (vld_evE [] 2 _), ?_⟩
   have hall : ∀ a ∈ e.args.map (simE d), a.op = 1 := fun a ha => by simpa using List.all_eq_true.1 hc.2 a ha
   have hcw : ∀ a ∈ e.args.map (simE d), wfX a = true := fun a ha => wt_wf (hwt.2 a ha)
   have hk2 : kndE [] 2 { e with args := e.args.map (simE d) } = (k1, 0) := by
    rw [← hk1, knd_in hw' hi ha', knd_in hw' (fun h2 => absurd h2 hc.1) (fun a ha => by rw [knd_con [] 0 (hcw a ha) (hall a ha)])]
    have hm : ({ e with args := e.args.map (simE d) } : Ex).args.map (fun a => (kndE [] 1 a).1) = ({ e with args := e.args.map (simE d) } : Ex).args.map (fun a => (kndE zs d a).1) := List.map_congr_left fun a ha => by
     obtain ⟨d, rfl⟩ : ∃ k, d = k + 1 := ⟨d - 1, by have := fin_pos (wt_fin (hwt.2 a ha)); omega⟩
     rw [knd_con [] 0 (hcw a ha) (hall a ha), knd_con zs d (hcw a ha) (hall a ha)]
    rw [hm]
    dsimp only
    rw [if_neg hc.1, if_neg hc.1]
   exact kinds_ok [] [] rfl (fun i p z hp => by simp at hp) 2 _ k1 hk2
  ·rw [if_neg hc]
   have hs : e.op ≠ 2 → ∃ a ∈ e.args.map (simE d), a.op ≠ 1 := fun h2 => not_all fun h3 => hc ⟨h2, h3⟩
   by_cases h5 : e.op = 5 ∨ e.op = 6
   ·rw [if_pos h5]; exact close (knd_simJ hwt h5 (hs (by omega)) hk1)
   rw [if_neg h5]
   by_cases h4 : e.op = 4
   ·rw [if_pos h4]; exact close (knd_simN hwt h4 hk1)
   rw [if_neg h4]
   by_cases h22 : e.op = 22
   ·rw [if_pos h22]; exact close (knd_simC hwt h22 hk1)
   rw [if_neg h22]
   by_cases h23 : e.op = 23
   ·rw [if_pos h23]; exact close (knd_simF hwt h23 (hs (by omega)) hk1)
   rw [if_neg h23]
   exact close ⟨k1, hk1, .inl rfl⟩
theorem RdE.grown {w w' : World} {L B : Nat} {row : Option Nat} (hg : w.grownBy w' row) (hB : B ≤ w.heap.size) (hne : ∀ g, row = some g → g < L ∨ B ≤ g) : ∀ {d : Nat} {u : Value} {es : List Ex}, RdE w L B d u es → RdE w' L B d u es
 | 0, _, _, h => h
 | d + 1, u, es, ⟨A, c, hv, hl, hc⟩ => ⟨A, c, hv, hl, fun k e hk => by
   obtain ⟨ad, x, h1, h2, h3, h4, h5⟩ := hc k e hk
   have hq : ∀ a : Addr, a.block = ad.block → w'.cell? a = w.cell? a := fun a ha => World.grownBy.cell_far hg a (by omega) (by
    rw [ha]
    intro e2
    rcases hne _ e2.symm with h | h <;> omega)
   have hk7 : ∀ i, (⟨(ad.add (k * 7)).block, (ad.add (k * 7)).off + i, none⟩ : Addr).block = ad.block := fun i => add_blk ad (k * 7)
   obtain ⟨q0, q1, q2, q3, q4, q5, q6⟩ := h4
   exact ⟨ad, x, h1, h2, h3, ⟨(hq _ (add_blk ad (k * 7))).trans q0, (hq _ (hk7 1)).trans q1, (hq _ (hk7 2)).trans q2, (hq _ (hk7 3)).trans q3, (hq _ (hk7 4)).trans q4, (hq _ (hk7 5)).trans q5, (hq _ (hk7 6)).trans q6⟩, RdE.grown hg hB hne h5⟩⟩
def KidsX (w : World) (base : Nat) (v : Value) (d : Nat) (ps : List ExU) : Prop := ∀ p ∈ ps, ∃ Lp Bp, RdE w Lp Bp d p.2 p.1.args ∧ Bp ≤ w.heap.size ∧ base ≤ Lp ∧ ∀ g, v.ownBlock = some g → g < Lp ∨ Bp ≤ g
theorem KidsX.below {w w' : World} {base : Nat} {v : Value} {d : Nat} {ps : List ExU} (h : KidsX w base v d ps) (hb : Below w.heap.size w w') : KidsX w' base v d ps := fun p hp => by
 obtain ⟨Lp, Bp, h1, h2, h3, h4⟩ := h p hp
 exact ⟨Lp, Bp, h1.below (hb.mono h2), Nat.le_trans h2 hb.size, h3, h4⟩
theorem KidsX.far {w : World} {base : Nat} {v : Value} {d : Nat} {ps : List ExU} (h : KidsX w base v d ps) {p : Addr} (hp : p.block < base) (u : Value) : KidsX (w.setCell p u) base v d ps := fun q hq => by
 obtain ⟨Lp, Bp, h1, h2, h3, h4⟩ := h q hq
 exact ⟨Lp, Bp, h1.far (by omega), by rw [World.size_setCell]; exact h2, h3, h4⟩
theorem KidsX.grown {W w' : World} {base g n c : Nat} {v : Value} {d : Nat} {ps : List ExU} (h : KidsX W base v d ps) (hg : W.grownBy w' v.ownBlock) (hv : v.ownBlock = some g ∨ g = W.heap.size) : KidsX w' base (.slice (some ⟨g, 0, none⟩) n c) d ps := fun p hp => by
 obtain ⟨Lp, Bp, h1, h2, h3, h4⟩ := h p hp
 refine ⟨Lp, Bp, h1.grown hg h2 h4, Nat.le_trans h2 hg.size, h3, fun g2 hg2 => ?_⟩
 have e : g = g2 := by simpa [Value.ownBlock] using hg2
 subst e
 rcases hv with hv | rfl
 ·exact h4 _ hv
 ·exact .inr h2
theorem KidsX.snoc {w : World} {base : Nat} {v : Value} {d : Nat} {ps : List ExU} {p : ExU} (h : KidsX w base v d ps) (hp : KidsX w base v d [p]) : KidsX w base v d (ps ++ [p]) := fun q hq => by
 rcases List.mem_append.1 hq with hq | hq
 ·exact h q hq
 ·exact hp q hq
theorem KidsX.one {W w' : World} {base : Nat} {v : Value} {d : Nat} {p : ExU} (h : RdE w' W.heap.size w'.heap.size d p.2 p.1.args) (hb : base ≤ W.heap.size) (hv : ∀ g, v.ownBlock = some g → g < W.heap.size) : KidsX w' base v d [p] := fun q hq => by
 rw [List.mem_singleton.1 hq]
 exact ⟨W.heap.size, w'.heap.size, h, Nat.le_refl _, hb, fun g hg => .inl (hv g hg)⟩
theorem ownX_lt {w : World} {base n : Nat} {v : Value} {xs : List Value} (h : w.ownsRow base 26 7 v n xs) : ∀ g, v.ownBlock = some g → g < w.heap.size := fun g hg => (h.lt g hg).2
theorem rdE_own {w : World} {base d : Nat} {v : Value} {ps : List ExU} (h : w.ownsRow base 26 7 v ps.length (flatE ps)) (hl : ps.length ≤ 1099511627776) (hk : KidsX w base v d ps) : RdE w base w.heap.size (d + 1) v (ps.map (·.1)) := by
 have hkid : ∀ p ∈ ps, RdE w base w.heap.size d p.2 p.1.args := fun p hp => by
  obtain ⟨Lp, Bp, h1, h2, h3, _⟩ := hk p hp
  exact h1.more h2 h3
 rcases h.2 with ⟨rfl, h0⟩ | ⟨g, cap, cur, rfl, hb, hh, hn, hc, hs, ht⟩
 ·obtain rfl := List.eq_nil_of_length_eq_zero h0
  exact ⟨none, 0, rfl, by simp, fun k e hk => by simp at hk⟩
 ·have hg : g < w.heap.size := by
   rcases Nat.lt_or_ge g w.heap.size with h1 | h1
   ·exact h1
   ·rw [Array.getElem?_eq_none h1] at hh; cases hh
  have he : ∀ i u, (flatE ps)[i]? = some u → w.cell? ⟨g, i, none⟩ = some u := fun i u hu => by
   rw [cell_of_row w g i cur _ _ hh, ← Array.getElem?_toList]
   rw [← ht, List.getElem?_take] at hu
   split at hu
   ·exact hu
   ·cases hu
  refine ⟨some ⟨g, 0, none⟩, cap, by rw [List.length_map], by rw [List.length_map]; exact hl, fun k e hk => ?_⟩
  rw [List.getElem?_map] at hk
  obtain ⟨p, hp, rfl⟩ := Option.map_eq_some_iff.1 hk
  refine ⟨⟨g, 0, none⟩, p.2, rfl, hb, hg, ?_, hkid p (List.mem_of_getElem? hp)⟩
  rw [addX]
  have G := fun j hj u hu => he (k * 7 + j) u ((flatE_get ps k p hp j hj).trans hu)
  exact ⟨G 0 (by decide) _ rfl, G 1 (by decide) _ rfl, G 2 (by decide) _ rfl, G 3 (by decide) _ rfl, G 4 (by decide) _ rfl, G 5 (by decide) _ rfl, G 6 (by decide) _ rfl⟩
theorem own_farX {w : World} {base n : Nat} {v : Value} {xs : List Value} (h : w.ownsRow base 26 7 v n xs) {p : Addr} (hp : p.block < base) (u : Value) : (w.setCell p u).ownsRow base 26 7 v n xs := by
 refine ⟨h.1, ?_⟩
 rcases h.2 with h0 | ⟨g, cap, cur, rfl, hb, hh, hr⟩
 ·exact .inl h0
 ·exact .inr ⟨g, cap, cur, rfl, hb, (Below.heap_setCell w p u g (by omega)).trans hh, hr⟩
theorem step_append_ex {ops : Array Oper} {o : Oper} {a : Act} {K : Act → World → Prop} {Q : Exit → Act → World → Prop} {E : Prop} (W : World) (hgd : o.guard = none) (s x : Operand)
  (ho : o.op = .call { callee := .builtin .append, args := #[s, x], argTypes := #[24, 24] }) (base : Nat) (v : Value) (l : List ExU) (hs : a.eval s = v)
  (hown : W.ownsRow base 26 7 v l.length (flatE l)) (g c : Nat) (p : ExU) (hp : ∃ A4 n4 c4, p.2 = .slice A4 n4 c4) (hx : a.eval x = .slice (some ⟨g, 0, none⟩) 1 c)
  (hnew : ∀ j u, (exL p)[j]? = some u → W.cell? ((⟨g, 0, none⟩ : Addr).add j) = some u) (hl : l.length ≤ 1099511627776) (hbase : base ≤ W.heap.size)
  (h : ∀ g' cap w', w'.ownsRow base 26 7 (.slice (some ⟨g', 0, none⟩) (l.length + 1) cap) (l ++ [p]).length (flatE (l ++ [p])) → W.grownBy w' v.ownBlock → (v.ownBlock = some g' ∨ g' = W.heap.size) → g' < w'.heap.size → K (a.put o.dst (.slice (some ⟨g', 0, none⟩) (l.length + 1) cap)) w') :
  if Region.wanted o (yielded ops a.tmps) = true then Oper.wp Tryz.prog o a W K Q else E := by
 obtain ⟨i0, hi, hz0, hz1, hz2⟩ := info_partsB infoX
 obtain ⟨A4, n4, c4, hp⟩ := hp
 refine step_append_lies W hgd s x 24 ho base 26 i0 (.agg #[.int .i64 0, .int .i64 0, .int .i64 0, .int .i64 0, .string ⟨#[]⟩, .string ⟨#[]⟩, .slice none 0 0]) 7 88 Tryz.underlying24 hi hz0 hz1 hz2 rfl (by decide) v l.length (flatE l) hs hown ⟨g, 0, none⟩ 1 c (exL p) hx rfl hnew (fun u hu => ?_) (by decide) (by unfold maxLen; omega) (by omega) hbase W.heap.size rfl ?_
 ·simp only [exL, List.mem_cons, List.not_mem_nil, or_false, hp] at hu
  rcases hu with rfl | rfl | rfl | rfl | rfl | rfl | rfl <;> rfl
 ·intro g' cap w' h1 h2 h3 h4
  refine h g' cap w' ?_ h2 h3 h4
  rw [flatE_append, List.length_append]
  show w'.ownsRow base _ 7 _ (l.length + 1) (flatE l ++ (exL p ++ []))
  rw [List.append_nil]
  exact h1
theorem Own.grownX {w w' : World} {g : Nat} {t : TypeId} {cs : Array Value} (h : Own w g t cs) {row : Option Nat} (hg : w.grownBy w' row) (hne : ∀ b, row = some b → b ≠ g) : Own w' g t cs := by
 have hlt := h.lt
 unfold Own at h ⊢
 rw [hg.block g hlt (fun e => hne g e.symm rfl)]
 exact h
theorem ownX_ge {w : World} {base n : Nat} {v : Value} {xs : List Value} (h : w.ownsRow base 26 7 v n xs) : ∀ g, v.ownBlock = some g → base ≤ g := fun g hg => (h.lt g hg).1
theorem ownX_shape {w : World} {base n : Nat} {v : Value} {xs : List Value} (h : w.ownsRow base 26 7 v n xs) : ∃ Av cv, v = .slice Av n cv := by
 rcases h.2 with ⟨rfl, rfl⟩ | ⟨g, cap, cur, rfl, _⟩
 ·exact ⟨_, _, rfl⟩
 ·exact ⟨_, _, rfl⟩
theorem lit_ex (W : World) (p : ExU) : ∀ j u, (exL p)[j]? = some u → (W.alloc (.cells #[.int .i64 p.1.op, .int .i64 p.1.n, .int .i64 p.1.v.1, .int .i64 p.1.v.2.1, .string p.1.v.2.2, .string p.1.nm, p.2] 26)).cell? ((⟨W.heap.size, 0, none⟩ : Addr).add j) = some u := fun j u hu => by
 rw [addX, (Own.new W 26 _).cell j]
 rw [← hu]
 exact List.getElem?_toArray ..
theorem sum_take {l : List Nat} {k : Nat} (h : k < l.length) : (l.take (k + 1)).sum = (l.take k).sum + l[k] := by
 rw [List.take_succ_eq_append_getElem h, List.sum_append]
 simp
theorem sum_take_le : ∀ (l : List Nat) (k : Nat), (l.take k).sum ≤ l.sum
 | [], k => by simp
 | a :: l, 0 => by simp
 | a :: l, k + 1 => by
  have := sum_take_le l k
  simp only [List.take_succ_cons, List.sum_cons]
  omega
theorem rNod_any : ∀ (d : Nat) (e : Ex) (u : Value) (w : World) (L : Nat), RdE w L w.heap.size d u e.args → nodE d e ≤ 9223372036854775000 →
  Calls Tryz.prog 6 #[exV e u] w fun e' w' => e' = .returned (.int .i64 (nodE d e : Nat)) ∧ Below w.heap.size w w'
 | 0, e, u, w, L, h, _ => h.elim
 | d + 1, e, u, w, L, h, hd => by
  have IH := Lib.hid (rNod_any d)
  obtain ⟨op, n, ⟨v1, v2, v3⟩, nm, es⟩ := e
  rw [nod_succ] at hd ⊢
  unfold exV
  dsimp only at h hd ⊢
  obtain ⟨A, c, rfl, hl, hc⟩ := h
  have HC := Lib.hid hc
  clear hc
  have HL := Lib.hid hl
  have HO := Lib.hid (Own.new w 26 #[.int .i64 op, .int .i64 n, .int .i64 v1, .int .i64 v2, .string v3, .string nm, .slice A es.length c])
  have HB := Lib.hid (bel_mk w (.cells #[.int .i64 op, .int .i64 n, .int .i64 v1, .int .i64 v2, .string v3, .string nm, .slice A es.length c] 26))
  obtain ⟨ls, hls⟩ : ∃ ls, ls = es.map (nodE d) := ⟨_, rfl⟩
  have hll : ls.length = es.length := by rw [hls, List.length_map]
  have HK := Lib.hid (show ∀ (k : Nat) (h : k < es.length), ls[k]? = some (nodE d es[k]) from fun k h => by rw [hls, List.getElem?_map, List.getElem?_eq_getElem h]; rfl)
  rw [← hls] at hd ⊢
  clear hls
  have HLL := Lib.hid hll
  clear hll
  go_enter Tryz.func6, Tryz.ntmps6
  go_wp2
  go_loopw [3, 4] (fun m i wr => ∃ k : Nat, k ≤ es.length ∧ i = .int .i64 k ∧ m = .int .i64 ((1 + (ls.take k).sum : Nat) : Int) ∧ Hid (Own wr w.heap.size 26 #[.int .i64 op, .int .i64 n, .int .i64 v1, .int .i64 v2, .string v3, .string nm, .slice A es.length c]) ∧ Below w.heap.size w wr) (fun _ i _ => es.length - (intOf i).toNat)
  case atStart => exact ⟨0, Nat.zero_le _, rfl, rfl, HO, HB.out⟩
  case round =>
   clear HO HB
   obtain ⟨k, hk, rfl, rfl, HO, hbr⟩ := hrel
   have hbz := hbr.size
   have x6 := HO.out.cell 6
   by_cases hlt : k < es.length
   ·have hki : (k : Int) < es.length := by omega
    obtain ⟨ad, x, rfl, _, hab, hxc, hxr⟩ := HC.out k _ (List.getElem?_eq_getElem hlt)
    obtain ⟨A2, cc, rfl, hl2⟩ := hxr.slice
    have hx := hxc.below hbr (by rw [add_blk]; exact hab)
    have hm := HK.out k hlt
    have hlk : k < ls.length := by have := HLL.out; omega
    have hm2 := sum_take hlk
    rw [List.getElem?_eq_getElem hlk] at hm
    injection hm with hm
    rw [hm] at hm2
    have hle := sum_take_le ls (k + 1)
    have HR := (hxr.below hbr).more hbz (Nat.le_refl _)
    clear hxc hxr hm hlk
    generalize es[k] = y at *
    obtain ⟨c0, c1, c2, c3, c4, c5, c6⟩ := hx
    have hcall := IH.out y (.slice A2 y.args.length cc) wr L HR (by omega)
    unfold exV at hcall
    have HX := Lib.hid hcall
    have HM := Lib.hid (show ((1 + (ls.take (k + 1)).sum : Nat) : Int) = ((1 + (ls.take k).sum : Nat) : Int) + ((nodE d y : Nat) : Int) by rw [hm2]; push_cast; omega)
    have hb1 : ((1 + (ls.take k).sum : Nat) : Int) + ((nodE d y : Nat) : Int) ≤ 9223372036854775000 := by omega
    have hb0 : 0 ≤ ((1 + (ls.take k).sum : Nat) : Int) := by omega
    have hb2 : 0 ≤ ((nodE d y : Nat) : Int) := by omega
    clear hm2 hcall HR hle hd
    generalize ((1 + (ls.take k).sum : Nat) : Int) = q0 at *
    go_wp2_with fail
    with_reducible refine HX.out.mono ?_
    rintro e w1 ⟨rfl, hb1⟩
    have HO1 := Lib.hid (HO.out.below hb1 HO.out.lt)
    have HB1 := Lib.hid (hbr.trans (hb1.mono hbz))
    clear hb1 HX HO
    generalize ((nodE d y : Nat) : Int) = q at *
    go_wp2
    go_round
    case rel => exact ⟨k + 1, by omega, by go_num, (by have := HM.out; congr 1; omega), HO1, HB1.out⟩
    case measure => simp [intOf]; omega
   ·have hki : ¬ (k : Int) < es.length := by omega
    rw [List.take_of_length_le (by have := HLL.out; omega)]
    go_wp2
    go_ret
    exact ⟨by first | rfl | (congr 1), hbr⟩
end Go.Proofs.YtdhemhmgenhmaaaGreat
