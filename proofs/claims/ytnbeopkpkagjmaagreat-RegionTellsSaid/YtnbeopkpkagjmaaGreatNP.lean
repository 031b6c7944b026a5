import Derived.Test.YtnbeopkpkagjmaaGreatNO
/-
  Regions as strips: a region is determined by its points; the combinations are regions and have the points asked. Conditions: none.
-/
namespace Go.Proofs.YtnbeopkpkagjmaaGreat
set_option maxRecDepth 100000
set_option linter.unusedVariables false
set_option linter.unusedSimpArgs false

theorem st_mem (a : St) (v s : Int) : memR (a.2.map fun p => (p, a.1)) v s = (memL a.2 v && cnt a.1.1 a.1.2 s) := by
  obtain ⟨q, l⟩ := a
  dsimp only
  induction l with
  | nil => rfl
  | cons p l ih =>
    rw [List.map_cons, memR_cons, ih, memL_cons]
    cases cnt p.1 p.2 v <;> cases cnt q.1 q.2 s <;> simp
theorem outR_mem (a : St) (l : List St) (v s : Int) : memR (outR (a :: l)) v s = (memL a.2 v && cnt a.1.1 a.1.2 s || memR (outR l) v s) := by rw [outR_cons, memR_append, st_mem]
/-- Strips of a region, behind z, where a strip with the slice pr has ended. -/
def rgS : Int → List (Int × Int) → List St → Bool
  | _, _, [] => true
  | z, pr, a :: l => decide (z ≤ a.1.1) && vld a.1.1 a.1.2 && spB (-1) a.2 && !a.2.isEmpty && (decide (z < a.1.1) || decide (a.2 ≠ pr)) && rgS a.1.2 a.2 l
theorem rgS_iff {z : Int} {pr : List (Int × Int)} {a : St} {l : List St} : rgS z pr (a :: l) = true ↔ z ≤ a.1.1 ∧ vld a.1.1 a.1.2 = true ∧ spB (-1) a.2 = true ∧ a.2 ≠ [] ∧ (z < a.1.1 ∨ a.2 ≠ pr) ∧ rgS a.1.2 a.2 l = true := by
  simp only [rgS, Bool.and_eq_true, decide_eq_true_eq, Bool.or_eq_true, Bool.not_eq_true', List.isEmpty_eq_false_iff, and_assoc]
theorem rgS_before : ∀ {z : Int} {pr : List (Int × Int)} {l : List St} {v s : Int}, rgS z pr l = true → s < z → memR (outR l) v s = false
  | _, _, [], _, _, _, _ => rfl
  | z, pr, a :: l, v, s, h, hs => by
    obtain ⟨h1, h2, _, _, _, h6⟩ := rgS_iff.1 h
    have hv := vld_iff.1 h2
    rw [outR_mem, rgS_before h6 (by omega), Bool.or_false, show cnt a.1.1 a.1.2 s = false by rw [Bool.eq_false_iff]; intro hc; have := cnt_iff.1 hc; omega, Bool.and_false]
theorem sp_wit {l : List (Int × Int)} (h : spB (-1) l = true) (hn : l ≠ []) : ∃ v, memL l v = true := by
  cases l with
  | nil => exact absurd rfl hn
  | cons p l =>
    have hp := vld_iff.1 (by simp only [spB, Bool.and_eq_true] at h; exact h.1.2)
    exact ⟨p.1, by rw [sp_at h _ (by omega)]; simp [hp.2.1]⟩
/-- The points at a time before the end of the first strip. -/
theorem rg_at {z : Int} {pr : List (Int × Int)} {a : St} {l : List St} (h : rgS z pr (a :: l) = true) (v : Int) {s : Int} (hs : s < a.1.2) : memR (outR (a :: l)) v s = (memL a.2 v && decide (a.1.1 ≤ s)) := by
  obtain ⟨_, h2, _, _, _, h6⟩ := rgS_iff.1 h
  have hv := vld_iff.1 h2
  rw [outR_mem, rgS_before h6 hs, Bool.or_false]
  congr 1
  rw [Bool.eq_iff_iff, cnt_iff, decide_eq_true_eq]
  omega
theorem rg_rest {z : Int} {pr : List (Int × Int)} {a : St} {l : List St} (h : rgS z pr (a :: l) = true) (v s : Int) : memR (outR l) v s = if s < a.1.2 then false else memR (outR (a :: l)) v s := by
  obtain ⟨_, h2, _, _, _, h6⟩ := rgS_iff.1 h
  have hv := vld_iff.1 h2
  split
  · rename_i hs; exact rgS_before h6 hs
  · rename_i hs
    rw [outR_mem, show cnt a.1.1 a.1.2 s = false by rw [Bool.eq_false_iff]; intro hc; have := cnt_iff.1 hc; omega, Bool.and_false, Bool.false_or]
theorem rg_start {z z' : Int} {pr pr' : List (Int × Int)} {a b : St} {l m : List St} (hl : rgS z pr (a :: l) = true) (hm : rgS z' pr' (b :: m) = true) (h : ∀ v s, memR (outR (a :: l)) v s = memR (outR (b :: m)) v s) : b.1.1 ≤ a.1.1 := by
  obtain ⟨_, g2, g3, g4, _, _⟩ := rgS_iff.1 hl
  obtain ⟨_, k2, _, _, _, _⟩ := rgS_iff.1 hm
  have hv := vld_iff.1 g2
  have kv := vld_iff.1 k2
  obtain ⟨v, hw⟩ := sp_wit g3 g4
  rcases ltge a.1.1 b.1.1 with hlt | hge
  · have h1 := h v a.1.1
    rw [rg_at hl v (by omega), rg_at hm v (by omega), hw] at h1
    simp at h1
    omega
  · exact hge
theorem rg_end {z z' : Int} {pr pr' : List (Int × Int)} {a b : St} {l m : List St} (hl : rgS z pr (a :: l) = true) (hm : rgS z' pr' (b :: m) = true) (h : ∀ v s, memR (outR (a :: l)) v s = memR (outR (b :: m)) v s)
    (hs : a.1.1 = b.1.1) (he : a.2 = b.2) : b.1.2 ≤ a.1.2 := by
  obtain ⟨_, g2, g3, g4, _, g6⟩ := rgS_iff.1 hl
  obtain ⟨_, k2, k3, _, _, _⟩ := rgS_iff.1 hm
  have hv := vld_iff.1 g2
  have kv := vld_iff.1 k2
  rcases ltge a.1.2 b.1.2 with hlt | hge
  · exfalso
    have h1 : ∀ v, memR (outR l) v a.1.2 = memL b.2 v := fun v => by
      have := h v a.1.2
      rw [rg_at hm v hlt] at this
      rw [rg_rest hl v a.1.2, if_neg (by omega), this, show decide (b.1.1 ≤ a.1.2) = true by simp; omega, Bool.and_true]
    obtain ⟨v, hw⟩ := sp_wit g3 g4
    cases l with
    | nil =>
      have := h1 v
      rw [← he, hw] at this
      cases this
    | cons c l =>
      obtain ⟨c1, c2, c3, _, c5, _⟩ := rgS_iff.1 g6
      have cv := vld_iff.1 c2
      by_cases hc : a.1.2 < c.1.1
      · have := h1 v
        rw [rg_at g6 v (by omega), ← he, hw] at this
        simp at this; omega
      · refine (c5.resolve_left hc) (sp_ext c3 g3 fun t => ?_)
        have := h1 t
        rw [rg_at g6 t (by omega), show decide (c.1.1 ≤ a.1.2) = true by simp; omega, Bool.and_true] at this
        rw [this, he]
  · exact hge
/-- A region is determined by its points. -/
theorem rg_ext : ∀ {z z' : Int} {pr pr' : List (Int × Int)} {L M : List St}, rgS z pr L = true → rgS z' pr' M = true → (∀ v s, memR (outR L) v s = memR (outR M) v s) → L = M
  | _, _, _, _, [], [], _, _, _ => rfl
  | _, _, _, _, [], b :: m, _, hm, h => by
    obtain ⟨_, k2, k3, k4, _, _⟩ := rgS_iff.1 hm
    have kv := vld_iff.1 k2
    obtain ⟨v, hw⟩ := sp_wit k3 k4
    have := h v b.1.1
    rw [rg_at hm v (by omega), hw] at this
    simp [outR, memR] at this
  | _, _, _, _, a :: l, [], hl, _, h => by
    obtain ⟨_, k2, k3, k4, _, _⟩ := rgS_iff.1 hl
    have kv := vld_iff.1 k2
    obtain ⟨v, hw⟩ := sp_wit k3 k4
    have := h v a.1.1
    rw [rg_at hl v (by omega), hw] at this
    simp [outR, memR] at this
  | z, z', pr, pr', a :: l, b :: m, hl, hm, h => by
    obtain ⟨_, g2, g3, g4, _, g6⟩ := rgS_iff.1 hl
    obtain ⟨_, k2, k3, _, _, k6⟩ := rgS_iff.1 hm
    have hv := vld_iff.1 g2
    have kv := vld_iff.1 k2
    have e1 : a.1.1 = b.1.1 := Int.le_antisymm (rg_start hm hl fun v s => (h v s).symm) (rg_start hl hm h)
    have e2 : a.2 = b.2 := sp_ext g3 k3 fun t => by
      have := h t a.1.1
      rw [rg_at hl t (by omega), rg_at hm t (by omega), e1] at this
      simpa using this
    have e3 : a.1.2 = b.1.2 := Int.le_antisymm (rg_end hm hl (fun v s => (h v s).symm) e1.symm e2.symm) (rg_end hl hm h e1 e2)
    have e : a = b := Prod.ext (Prod.ext e1 e3) e2
    subst e
    rw [rg_ext g6 k6 fun v s => by rw [rg_rest hl, rg_rest hm, h]]

/-! Grouped strips. -/
def ctg : Int → List St → Prop
  | _, [] => True
  | x, a :: l => a.1.1 = x ∧ vld a.1.1 a.1.2 = true ∧ spB (-1) a.2 = true ∧ (∀ b ∈ l.head?, b.2 ≠ a.2) ∧ ctg a.1.2 l
theorem grp_ctg {g : Int → List (Int × Int)} (hg : ∀ x, spB (-1) (g x) = true) : ∀ (r : List Int) (x : Int), (x :: r).Pairwise (· < ·) → (∀ z ∈ x :: r, 0 ≤ z ∧ z ≤ 1099511627776) →
    ctg x (grp (stp g (x :: r))) ∧ ∀ v s, memR (outR (grp (stp g (x :: r)))) v s = memR (outR (stp g (x :: r))) v s
  | [], x, _, _ => ⟨trivial, fun _ _ => rfl⟩
  | y :: r, x, h, hb => by
    have h0 := List.pairwise_cons.1 h
    have hxy := h0.1 y (by simp)
    have hx := hb x (by simp)
    have hy := hb y (by simp)
    obtain ⟨ih, im⟩ := grp_ctg hg r y h0.2 fun z hz => hb z (List.mem_cons_of_mem _ hz)
    rw [stp_two]
    have hd : grp (((x, y), g x) :: stp g (y :: r)) = match grp (stp g (y :: r)) with
      | [] => [((x, y), g x)]
      | b :: m => if g x = b.2 then ((x, b.1.2), g x) :: m else ((x, y), g x) :: b :: m := by
      conv => lhs; unfold grp
      cases grp (stp g (y :: r)) <;> rfl
    rw [hd]
    have hvl : vld x y = true := vld_iff.2 ⟨hx.1, hxy, hy.2⟩
    cases hG : grp (stp g (y :: r)) with
    | nil =>
      rw [hG] at im
      refine ⟨⟨rfl, hvl, hg x, by simp, trivial⟩, fun v s => ?_⟩
      dsimp only
      rw [outR_mem, outR_mem, im]
    | cons b m =>
      rw [hG] at im ih
      obtain ⟨i1, i2, i3, i4, i5⟩ := ih
      have ib := vld_iff.1 i2
      dsimp only
      by_cases he : g x = b.2
      · rw [if_pos he]
        refine ⟨⟨rfl, vld_iff.2 ⟨hx.1, by show x < b.1.2; omega, ib.2.2⟩, hg x, fun c hc => ?_, i5⟩, fun v s => ?_⟩
        · show c.2 ≠ g x
          rw [he]; exact i4 c hc
        · rw [outR_mem, outR_mem, ← im v s, outR_mem, ← he, ← Bool.or_assoc, ← Bool.and_or_distrib_left]
          congr 2
          rw [Bool.eq_iff_iff, Bool.or_eq_true, cnt_iff, cnt_iff, cnt_iff]
          dsimp only
          omega
      · rw [if_neg he]
        refine ⟨⟨rfl, hvl, hg x, fun c hc => ?_, i1, i2, i3, i4, i5⟩, fun v s => ?_⟩
        · simp at hc; rw [← hc]; exact fun hh => he hh.symm
        · rw [outR_mem ((x, y), g x) (b :: m), im v s, outR_mem ((x, y), g x) (stp g (y :: r))]
def full (l : List St) : List St := l.filter fun s => !s.2.isEmpty
theorem full_out : ∀ l : List St, outR (full l) = outR l
  | [] => rfl
  | a :: l => by
    unfold full
    rw [List.filter_cons]
    cases h : a.2 with
    | nil => rw [if_neg (by simp)]; rw [outR_cons, h]; exact full_out l
    | cons p q => rw [if_pos (by simp)]; rw [outR_cons, outR_cons]; congr 1; exact full_out l
theorem ctg_rg : ∀ (l : List St) (x z : Int) (pr : List (Int × Int)), ctg x l → z ≤ x → (z = x → ∀ b ∈ l.head?, b.2 ≠ pr) → rgS z pr (full l) = true
  | [], _, _, _, _, _, _ => rfl
  | a :: l, x, z, pr, h, hz, hp => by
    obtain ⟨h1, h2, h3, h4, h5⟩ := h
    have hv := vld_iff.1 h2
    unfold full
    rw [List.filter_cons]
    cases ha : a.2 with
    | nil =>
      rw [if_neg (by simp)]
      exact ctg_rg l a.1.2 z pr h5 (by omega) (fun he => by omega)
    | cons p q =>
      rw [if_pos (by simp)]
      refine rgS_iff.2 ⟨by omega, h2, h3, by rw [ha]; simp, ?_, ctg_rg l a.1.2 a.1.2 a.2 h5 (Int.le_refl _) fun _ => h4⟩
      by_cases hzx : z = x
      · exact .inr (hp hzx a (by simp))
      · exact .inl (by omega)

/-! The points of a combination. -/
theorem stp_before (g : Int → List (Int × Int)) (v : Int) : ∀ (r : List Int) (x t : Int), (x :: r).Pairwise (· < ·) → t < x → memR (outR (stp g (x :: r))) v t = false
  | [], _, _, _, _ => rfl
  | y :: r, x, t, h, ht => by
    have h0 := List.pairwise_cons.1 h
    have hxy := h0.1 y (by simp)
    rw [stp_two, outR_mem, stp_before g v r y t h0.2 (by omega), Bool.or_false, show cnt x y t = false by rw [Bool.eq_false_iff]; intro hc; have := cnt_iff.1 hc; omega, Bool.and_false]
theorem stp_mem (g : Int → List (Int × Int)) (G : Int → Int → Bool) (v : Int) : ∀ (r : List Int) (x : Int), (x :: r).Pairwise (· < ·) → (∀ z ∈ x :: r, 0 ≤ z ∧ z ≤ 1099511627776) →
    (∀ t u, u ∈ x :: r → u ≤ t → (∀ z ∈ x :: r, z ≤ u ∨ t < z) → memL (g u) v = G v t) → (∀ t, (∀ z ∈ x :: r, z ≤ t) → G v t = false) → ∀ t, x ≤ t → memR (outR (stp g (x :: r))) v t = G v t
  | [], x, _, _, _, ha, t, ht => by rw [ha t (by simpa using ht)]; rfl
  | y :: r, x, h, hb, hc, ha, t, ht => by
    have h0 := List.pairwise_cons.1 h
    have hxy := h0.1 y (by simp)
    have hx := hb x (by simp)
    have hy := hb y (by simp)
    have hbt : ∀ z ∈ y :: r, 0 ≤ z ∧ z ≤ 1099511627776 := fun z hz => hb z (List.mem_cons_of_mem _ hz)
    rw [stp_two, outR_mem]
    dsimp only
    rcases ltge t y with hlt | hge
    · rw [stp_before g v r y t h0.2 hlt, Bool.or_false, show cnt x y t = true from cnt_iff.2 ⟨hx.1, hxy, hy.2, ht, hlt⟩, Bool.and_true]
      exact hc t x (by simp) ht (fun z hz => by
        rcases List.mem_cons.1 hz with rfl | hz
        · exact .inl (Int.le_refl _)
        · rcases List.mem_cons.1 hz with rfl | hz
          · exact .inr hlt
          · have := (List.pairwise_cons.1 h0.2).1 z hz; right; omega)
    · rw [stp_mem g G v r y h0.2 hbt (fun t u hu htu hz => hc t u (List.mem_cons_of_mem _ hu) htu fun z hz' => by
        rcases List.mem_cons.1 hz' with rfl | hz'
        · rcases List.mem_cons.1 hu with rfl | hu
          · left; omega
          · have := (List.pairwise_cons.1 h0.2).1 u hu; left; omega
        · exact hz z hz') (fun t hz => ha t fun z hz' => by
        rcases List.mem_cons.1 hz' with rfl | hz'
        · have := hz y (by simp); omega
        · exact hz z hz') t hge, show cnt x y t = false by rw [Bool.eq_false_iff]; intro hcc; have := cnt_iff.1 hcc; omega, Bool.and_false, Bool.false_or]
theorem ptsR_sub {l m : List Rc} (h : ∀ r ∈ l, r ∈ m) (v : Int) : ∀ p ∈ atV l v, vld p.1 p.2 = true → p.1 ∈ ptsR m ∧ p.2 ∈ ptsR m := fun p hp _ => by
  unfold atV at hp
  obtain ⟨r, hr, rfl⟩ := List.mem_map.1 hp
  have h1 := List.mem_filter.1 hr
  have h2 : sndR r = true := by have := h1.2; rw [Bool.and_eq_true] at this; exact this.1
  exact ⟨(ptsR_mem m _).2 ⟨r, h r h1.1, h2, .inl rfl⟩, (ptsR_mem m _).2 ⟨r, h r h1.1, h2, .inr rfl⟩⟩
theorem ptsR_sorted (l : List Rc) : (ptsR l).Pairwise (· < ·) := pts_sorted _
theorem ptsR_bd (l : List Rc) : ∀ z ∈ ptsR l, 0 ≤ z ∧ z ≤ 1099511627776 := pts_bd _
theorem slcC_mem {f : Bool → Bool → Bool} (hf : f false false = false) (a b : List Rc) (x v : Int) : memL (slcC f a b x) v = f (memR a v x) (memR b v x) := by
  unfold slcC
  rw [comb_mem hf, atS_mem, atS_mem]
theorem slcC_sp {f : Bool → Bool → Bool} (hf : f false false = false) (a b : List Rc) (x : Int) : spB (-1) (slcC f a b x) = true := comb_sp hf _ _
theorem cmb_mem {f : Bool → Bool → Bool} (hf : f false false = false) (a b : List Rc) (v s : Int) : memR (cmbR f a b) v s = f (memR a v s) (memR b v s) := by
  have ha := ptsR_sub (l := a) (m := a ++ b) (fun _ h => List.mem_append_left _ h) v
  have hb := ptsR_sub (l := b) (m := a ++ b) (fun _ h => List.mem_append_right _ h) v
  have hs := ptsR_sorted (a ++ b)
  have hbd := ptsR_bd (a ++ b)
  unfold cmbR
  rw [← atV_mem a v s, ← atV_mem b v s]
  generalize hP : ptsR (a ++ b) = P at *
  cases P with
  | nil =>
    rw [mem_before ha s (by simp), mem_before hb s (by simp), hf]; rfl
  | cons x r =>
    rw [(grp_ctg (slcC_sp hf a b) r x hs hbd).2 v s]
    rcases ltge s x with hlt | hge
    · have hz : ∀ z ∈ x :: r, s < z := fun z hz => by
        rcases List.mem_cons.1 hz with rfl | hz
        · exact hlt
        · have := (List.pairwise_cons.1 hs).1 z hz; omega
      rw [stp_before _ _ r x s hs hlt, mem_before ha s hz, mem_before hb s hz, hf]
    · exact stp_mem (slcC f a b) (fun v t => f (memL (atV a v) t) (memL (atV b v) t)) v r x hs hbd (fun t u _ hut hz => by
          rw [slcC_mem hf, ← atV_mem, ← atV_mem]
          show _ = f (memL (atV a v) t) (memL (atV b v) t)
          rw [mem_const ha t u hut hz, mem_const hb t u hut hz])
        (fun t hz => by show f _ _ = _; rw [mem_after ha t hz, mem_after hb t hz, hf]) s hge
/-- A combination is a region. -/
theorem cmb_rg {f : Bool → Bool → Bool} (hf : f false false = false) (a b : List Rc) : ∃ L, rgS (-1) [] L = true ∧ cmbR f a b = outR L := by
  have hs := ptsR_sorted (a ++ b)
  have hbd := ptsR_bd (a ++ b)
  unfold cmbR
  generalize ptsR (a ++ b) = P at *
  cases P with
  | nil => exact ⟨[], rfl, rfl⟩
  | cons x r =>
    refine ⟨full (grp (stp (slcC f a b) (x :: r))), ctg_rg _ x (-1) [] (grp_ctg (slcC_sp hf a b) r x hs hbd).1 ?_ ?_, (full_out _).symm⟩
    · have := hbd x (by simp); omega
    · have := hbd x (by simp); omega
theorem cmb_ext {f g : Bool → Bool → Bool} (hf : f false false = false) (hg : g false false = false) {a b c d : List Rc} (h : ∀ v s, f (memR a v s) (memR b v s) = g (memR c v s) (memR d v s)) : cmbR f a b = cmbR g c d := by
  obtain ⟨L, h1, h2⟩ := cmb_rg hf a b
  obtain ⟨M, h3, h4⟩ := cmb_rg hg c d
  rw [h2, h4, rg_ext h1 h3 fun v s => by rw [← h2, ← h4, cmb_mem hf, cmb_mem hg, h]]
/-- The region of a list. -/
def ofR (l : List Rc) : List Rc := cmbR fA l []
theorem ofR_mem (l : List Rc) (v s : Int) : memR (ofR l) v s = memR l v s := cmb_mem rfl l [] v s
theorem ofR_region {L : List St} (h : rgS (-1) [] L = true) : ofR (outR L) = outR L := by
  obtain ⟨M, h3, h4⟩ := cmb_rg (f := fA) rfl (outR L) []
  unfold ofR
  rw [h4, rg_ext h3 h fun v s => by rw [← h4]; exact ofR_mem _ _ _]
theorem ofR_cmb {f : Bool → Bool → Bool} (hf : f false false = false) (a b : List Rc) : ofR (cmbR f a b) = cmbR f a b := by
  obtain ⟨L, h1, h2⟩ := cmb_rg hf a b
  rw [h2, ofR_region h1]
theorem valid_iff (l : List Rc) : ofR l = l ↔ ∃ L, rgS (-1) [] L = true ∧ l = outR L := by
  constructor
  · intro h
    obtain ⟨L, h1, h2⟩ := cmb_rg (f := fA) rfl l []
    exact ⟨L, h1, h.symm.trans h2⟩
  · rintro ⟨L, h1, rfl⟩
    exact ofR_region h1
end Go.Proofs.YtnbeopkpkagjmaaGreat
