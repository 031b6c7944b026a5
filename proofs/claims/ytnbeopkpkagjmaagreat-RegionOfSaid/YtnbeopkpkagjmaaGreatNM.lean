import Derived.Test.YtnbeopkpkagjmaaGreatMA
/-
  Sets of points of two dimensions as lists of rectangles: slices, strips, grouping, and the reference's way. Conditions: none.
-/
namespace Go.Proofs.YtnbeopkpkagjmaaGreat
set_option maxRecDepth 100000
set_option linter.unusedVariables false
set_option linter.unusedSimpArgs false

/-- A rectangle: its valid time, its system time. -/
abbrev Rc := (Int × Int) × (Int × Int)
def sndR (r : Rc) : Bool := vld r.1.1 r.1.2 && vld r.2.1 r.2.2
def memR (l : List Rc) (v s : Int) : Bool := l.any fun r => cnt r.1.1 r.1.2 v && cnt r.2.1 r.2.2 s
/-- The valid times of the sound rectangles at a system time. -/
def atS (l : List Rc) (s : Int) : List (Int × Int) := (l.filter fun r => sndR r && cnt r.2.1 r.2.2 s).map (·.1)
def atV (l : List Rc) (v : Int) : List (Int × Int) := (l.filter fun r => sndR r && cnt r.1.1 r.1.2 v).map (·.2)
/-- The program's: it doesn't ask whether the rectangle is sound. -/
def atSp (l : List Rc) (s : Int) : List (Int × Int) := (l.filter fun r => cnt r.2.1 r.2.2 s).map (·.1)
def atVp (l : List Rc) (v : Int) : List (Int × Int) := (l.filter fun r => cnt r.1.1 r.1.2 v).map (·.2)
theorem memR_nil (v s : Int) : memR [] v s = false := rfl
theorem memR_cons (r : Rc) (l : List Rc) (v s : Int) : memR (r :: l) v s = (cnt r.1.1 r.1.2 v && cnt r.2.1 r.2.2 s || memR l v s) := rfl
theorem memR_append (l m : List Rc) (v s : Int) : memR (l ++ m) v s = (memR l v s || memR m v s) := by simp [memR]
theorem cnt_vld {a b t : Int} (h : cnt a b t = true) : vld a b = true := by
  have h1 := cnt_iff.1 h
  exact vld_iff.2 ⟨h1.1, h1.2.1, h1.2.2.1⟩
theorem atSp_mem : ∀ (l : List Rc) (v s : Int), memL (atSp l s) v = memR l v s
  | [], _, _ => rfl
  | r :: l, v, s => by
    rw [memR_cons, ← atSp_mem l v s]
    unfold atSp
    rw [List.filter_cons]
    cases h : cnt r.2.1 r.2.2 s
    · simp
    · rw [if_pos rfl, List.map_cons, memL_cons]; simp
theorem atVp_mem : ∀ (l : List Rc) (v s : Int), memL (atVp l v) s = memR l v s
  | [], _, _ => rfl
  | r :: l, v, s => by
    rw [memR_cons, ← atVp_mem l v s]
    unfold atVp
    rw [List.filter_cons]
    cases h : cnt r.1.1 r.1.2 v
    · simp
    · rw [if_pos rfl, List.map_cons, memL_cons]; simp
theorem atS_mem : ∀ (l : List Rc) (v s : Int), memL (atS l s) v = memR l v s
  | [], _, _ => rfl
  | r :: l, v, s => by
    rw [memR_cons, ← atS_mem l v s]
    unfold atS
    rw [List.filter_cons]
    cases h : sndR r && cnt r.2.1 r.2.2 s
    · rw [if_neg (by simp)]
      cases h1 : cnt r.1.1 r.1.2 v
      · simp
      · cases h2 : cnt r.2.1 r.2.2 s
        · simp
        · unfold sndR at h
          rw [cnt_vld h1, cnt_vld h2, h2] at h
          simp at h
    · have h9 := h
      rw [Bool.and_eq_true] at h9
      rw [if_pos rfl, List.map_cons, memL_cons, h9.2]; simp
theorem atV_mem : ∀ (l : List Rc) (v s : Int), memL (atV l v) s = memR l v s
  | [], _, _ => rfl
  | r :: l, v, s => by
    rw [memR_cons, ← atV_mem l v s]
    unfold atV
    rw [List.filter_cons]
    cases h : sndR r && cnt r.1.1 r.1.2 v
    · rw [if_neg (by simp)]
      cases h1 : cnt r.2.1 r.2.2 s
      · simp
      · cases h2 : cnt r.1.1 r.1.2 v
        · simp
        · unfold sndR at h
          rw [cnt_vld h1, cnt_vld h2, h2] at h
          simp at h
    · have h9 := h
      rw [Bool.and_eq_true] at h9
      rw [if_pos rfl, List.map_cons, memL_cons, h9.2]; simp
/-- The slice and the section, as spans. -/
def slcR (l : List Rc) (s : Int) : List (Int × Int) := ofL (atS l s)
def secR (l : List Rc) (v : Int) : List (Int × Int) := ofL (atV l v)
theorem ofL_mem (l : List (Int × Int)) (t : Int) : memL (ofL l) t = memL l t := comb_mem rfl l [] t
theorem ofL_ext {l m : List (Int × Int)} (h : ∀ t, memL l t = memL m t) : ofL l = ofL m := comb_ext rfl rfl h
theorem slc_p (l : List Rc) (s : Int) : ofL (atSp l s) = slcR l s := ofL_ext fun t => (atSp_mem l t s).trans (atS_mem l t s).symm
theorem sec_p (l : List Rc) (v : Int) : ofL (atVp l v) = secR l v := ofL_ext fun t => (atVp_mem l v t).trans (atV_mem l v t).symm
theorem slc_mem (l : List Rc) (v s : Int) : memL (slcR l s) v = memR l v s := (ofL_mem _ _).trans (atS_mem l v s)
theorem sec_mem (l : List Rc) (v s : Int) : memL (secR l v) s = memR l v s := (ofL_mem _ _).trans (atV_mem l v s)
theorem slc_sp (l : List Rc) (s : Int) : spB (-1) (slcR l s) = true := comb_sp rfl _ _

/-! Strips and their grouping. -/
abbrev St := (Int × Int) × List (Int × Int)
/-- The strips between neighbours of a list of times, with a slice for each. -/
def stp (g : Int → List (Int × Int)) : List Int → List St
  | x :: y :: r => ((x, y), g x) :: stp g (y :: r)
  | _ => []
/-- Neighbours with the same slice become one. -/
def grp : List St → List St
  | [] => []
  | a :: l => match grp l with
    | [] => [a]
    | b :: m => if a.2 = b.2 then ((a.1.1, b.1.2), a.2) :: m else a :: b :: m
/-- The rectangles of strips. -/
def outR (l : List St) : List Rc := l.flatMap fun s => s.2.map fun p => (p, s.1)
theorem outR_append (l m : List St) : outR (l ++ m) = outR l ++ outR m := by simp [outR]
theorem outR_cons (s : St) (l : List St) : outR (s :: l) = (s.2.map fun p => (p, s.1)) ++ outR l := rfl
theorem grp_ne {a : St} {l : List St} : grp (a :: l) ≠ [] := by
  unfold grp
  cases h : grp l with
  | nil => simp
  | cons b m => dsimp only; split <;> simp
/-- What one more strip behind does. -/
def gstep (G : List St) (a : St) : List St :=
  match G.getLast? with
  | none => [a]
  | some b => if b.2 = a.2 then G.dropLast ++ [((b.1.1, a.1.2), a.2)] else G ++ [a]
theorem gstep_nil (a : St) : gstep [] a = [a] := rfl
theorem gstep_one (b a : St) : gstep [b] a = if b.2 = a.2 then [((b.1.1, a.1.2), a.2)] else [b, a] := rfl
theorem gstep_cons (c b : St) (G : List St) (a : St) : gstep (c :: b :: G) a = c :: gstep (b :: G) a := by
  unfold gstep
  rw [List.getLast?_cons_cons]
  cases h : (b :: G).getLast? with
  | none => simp at h
  | some d =>
    dsimp only
    split
    · rw [List.dropLast_cons_cons, List.cons_append]
    · rfl
theorem gstep_head (b : St) (G : List St) (a : St) : ∃ c m, gstep (b :: G) a = c :: m ∧ c.2 = b.2 ∧ c.1.1 = b.1.1 ∧ (∀ x, ((x, c.1.2), c.2) :: m = gstep (((x, b.1.2), b.2) :: G) a) := by
  cases G with
  | nil =>
    rw [gstep_one]
    by_cases h : b.2 = a.2
    · rw [if_pos h]
      exact ⟨_, _, rfl, h.symm, rfl, fun x => by rw [gstep_one, if_pos h]⟩
    · rw [if_neg h]
      exact ⟨_, _, rfl, rfl, rfl, fun x => by rw [gstep_one, if_neg h]⟩
  | cons d G =>
    rw [gstep_cons]
    exact ⟨_, _, rfl, rfl, rfl, fun x => by rw [gstep_cons]⟩
theorem grp_snoc : ∀ (l : List St) (a : St), grp (l ++ [a]) = gstep (grp l) a
  | [], a => rfl
  | b :: l, a => by
    rw [List.cons_append]
    conv => lhs; unfold grp
    rw [grp_snoc l a]
    conv => rhs; unfold grp
    cases h : grp l with
    | nil =>
      rw [gstep_nil, gstep_one]
      dsimp only
      split
      · rename_i h1; rw [h1]
      · rfl
    | cons c m =>
      obtain ⟨d, n, h1, h2, h3, h4⟩ := gstep_head c m a
      rw [h1]
      dsimp only
      rw [h2]
      by_cases hb : b.2 = c.2
      · rw [if_pos hb, if_pos hb]
        have := h4 b.1.1
        rw [h2] at this
        rw [hb, this]
      · rw [if_neg hb, if_neg hb, gstep_cons, h1]
/-- The reference: a run of strips with the same slice. -/
theorem stp_two (g : Int → List (Int × Int)) (x y : Int) (r : List Int) : stp g (x :: y :: r) = ((x, y), g x) :: stp g (y :: r) := rfl
theorem grp_run (g : Int → List (Int × Int)) (x : Int) : ∀ (m : List Int) (y : Int) (r : List Int), (∀ z ∈ m, g z = g x) →
    (r = [] ∨ g y ≠ g x) → grp (stp g (x :: (m ++ y :: r))) = ((x, y), g x) :: grp (stp g (y :: r))
  | [], y, r, _, hr => by
    rw [List.nil_append, stp_two]
    conv => lhs; unfold grp
    cases r with
    | nil => rfl
    | cons z r =>
      have hy : g y ≠ g x := hr.resolve_left (by simp)
      rw [stp_two]
      cases h : grp (((y, z), g y) :: stp g (z :: r)) with
      | nil => exact absurd h grp_ne
      | cons c n =>
        have hc : c.2 = g y := by
          conv at h => lhs; unfold grp
          cases hn : grp (stp g (z :: r)) with
          | nil => rw [hn] at h; dsimp only at h; injection h with h1 h2; rw [← h1]
          | cons d k =>
            rw [hn] at h; dsimp only at h
            split at h
            · injection h with h1 h2; rw [← h1]
            · injection h with h1 h2; rw [← h1]
        dsimp only
        rw [hc, if_neg (fun he => hy he.symm)]
  | w :: m, y, r, hm, hr => by
    have hw : g w = g x := hm w (List.mem_cons_self ..)
    have ih := grp_run g w m y r (fun z hz => (hm z (List.mem_cons_of_mem _ hz)).trans hw.symm) (by rw [hw]; exact hr)
    rw [List.cons_append, stp_two]
    conv => lhs; unfold grp
    rw [ih]
    dsimp only
    rw [hw, if_pos rfl]
/-- The program: what a visit of one more strip does to the result and the last slice. -/
def vstep (z : List Rc × List (Int × Int)) (s : St) : List Rc × List (Int × Int) :=
  if s.2 = z.2 then (z.1.take (z.1.length - s.2.length) ++ (z.1.drop (z.1.length - s.2.length)).map (fun r => (r.1, (r.2.1, s.1.2))), s.2)
  else (z.1 ++ s.2.map (fun p => (p, s.1)), s.2)
def lastS (l : List St) : List (Int × Int) := ((l.getLast?).map (·.2)).getD []
theorem lastS_snoc (l : List St) (a : St) : lastS (l ++ [a]) = a.2 := by simp [lastS]
theorem lastS_grp (l : List St) : lastS (grp l) = lastS l := by
  rcases List.eq_nil_or_concat l with rfl | ⟨l, a, rfl⟩
  · rfl
  · rw [List.concat_eq_append, grp_snoc, lastS_snoc]
    unfold gstep
    cases h : (grp l).getLast? with
    | none => rfl
    | some b =>
      dsimp only
      split
      · rw [lastS_snoc]
      · rw [lastS_snoc]
theorem vfold_grp (l : List St) : l.foldl vstep ([], []) = (outR (grp l), lastS l) := by
  induction hn : l.length generalizing l with
  | zero =>
    obtain rfl := List.length_eq_zero_iff.1 hn
    rfl
  | succ n ih =>
    rcases List.eq_nil_or_concat l with rfl | ⟨l, a, rfl⟩
    · simp at hn
    · rw [List.concat_eq_append] at *
      rw [List.foldl_append, ih l (by simp at hn; exact hn), lastS_snoc, grp_snoc]
      show vstep (outR (grp l), lastS l) a = _
      unfold vstep
      dsimp only
      rw [← lastS_grp l]
      generalize grp l = G
      rcases List.eq_nil_or_concat G with rfl | ⟨G, b, rfl⟩
      · rw [gstep_nil]
        by_cases h : a.2 = []
        · rw [show lastS [] = [] from rfl, if_pos h, outR_cons, h]; rfl
        · rw [show lastS [] = [] from rfl, if_neg h, outR_cons]; simp [outR]
      · rw [List.concat_eq_append, lastS_snoc]
        unfold gstep
        rw [List.getLast?_concat]
        dsimp only
        by_cases h : b.2 = a.2
        · rw [if_pos h, if_pos h.symm, List.dropLast_concat, outR_append, outR_append]
          have hl : (outR G ++ outR [b]).length - a.2.length = (outR G).length := by
            rw [List.length_append, ← h]; simp [outR]
          rw [hl, List.take_left', List.drop_left']
          · simp [outR, h]
          · rfl
          · rfl
        · rw [if_neg h, if_neg (fun he => h he.symm), outR_append]
          simp [outR]
end Go.Proofs.YtnbeopkpkagjmaaGreat
