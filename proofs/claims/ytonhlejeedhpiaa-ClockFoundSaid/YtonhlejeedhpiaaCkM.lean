/-
  Mathematics of clocks and stamps: validity, the next time, the check of a list of stamps, steps back, the last stamp up to a time, the periods in which a reading may have been shown, and replays. Conditions: none.
-/
import Derived.Test.YtonhlejeedhpiaaBase
namespace Go.Proofs.Ytonhlejeedhpiaa
open Go.RowKit

def inst (t : Int) : Bool := decide (0 ≤ t) && decide (t < 1099511627776)
def cok (a b : Int) : Bool := decide (0 ≤ b) && decide (b ≤ a) && decide (a < 1099511627776)
theorem inst_iff {t : Int} : inst t = true ↔ 0 ≤ t ∧ t < 1099511627776 := by simp [inst]
theorem cok_iff {a b : Int} : cok a b = true ↔ 0 ≤ b ∧ b ≤ a ∧ a < 1099511627776 := by simp [cok, and_assoc]
/-- The greater one of the last time + 1 and the reading. -/
def nxT (a r : Int) : Int := max (a + 1) r
def nxE (a b r : Int) : Int := if cok a b = false then 8 else if inst r = false then 6 else if inst (nxT a r) = false then 21 else 0
def nxV (a b r : Int) : Value := if nxE a b r = 0 then .tuple #[.agg #[.int .i64 (nxT a r), .int .i64 r], .int .i64 (nxT a r), .int .i64 0] else .tuple #[.agg #[.int .i64 0, .int .i64 0], .int .i64 0, .int .i64 (nxE a b r)]
theorem nxV_ok {a b r : Int} (h : nxE a b r = 0) : nxV a b r = .tuple #[.agg #[.int .i64 (nxT a r), .int .i64 r], .int .i64 (nxT a r), .int .i64 0] := by unfold nxV; rw [if_pos h]
theorem nxV_no {a b r : Int} (h : ¬ nxE a b r = 0) : nxV a b r = .tuple #[.agg #[.int .i64 0, .int .i64 0], .int .i64 0, .int .i64 (nxE a b r)] := by unfold nxV; rw [if_neg h]
theorem nxE_zero {a b r : Int} : nxE a b r = 0 ↔ cok a b = true ∧ inst r = true ∧ inst (nxT a r) = true := by
  unfold nxE
  cases h1 : cok a b
  · simp
  · cases h2 : inst r
    · simp
    · cases h3 : inst (nxT a r) <;> simp
def bhd (a b r : Int) : Int := if cok a b && inst r then max (a - r) 0 else 0

/-- Check, behind the time a. -/
def chk : Int → List (Int × Int) → Int
  | _, [] => 0
  | a, (t, r) :: l => if (inst r && inst t) = false then 6 else if t ≤ a then 9 else if t ≠ nxT a r then 8 else chk t l
theorem drop_cons {l : List (Int × Int)} {k : Nat} {p : Int × Int} (h : l[k]? = some p) : l.drop k = p :: l.drop (k + 1) := by
  obtain ⟨hk, rfl⟩ := List.getElem?_eq_some_iff.1 h
  exact (List.drop_eq_getElem_cons hk)
theorem chk_range {a : Int} {l : List (Int × Int)} {k : Nat} {t r : Int} (h : l[k]? = some (t, r)) (h1 : (inst r && inst t) = false) : chk a (l.drop k) = 6 := by
  rw [drop_cons h, chk, if_pos h1]
theorem chk_order {a : Int} {l : List (Int × Int)} {k : Nat} {t r : Int} (h : l[k]? = some (t, r)) (h1 : (inst r && inst t) = true) (h2 : t ≤ a) : chk a (l.drop k) = 9 := by
  rw [drop_cons h, chk, if_neg (by rw [h1]; decide), if_pos h2]
theorem chk_inv {a : Int} {l : List (Int × Int)} {k : Nat} {t r : Int} (h : l[k]? = some (t, r)) (h1 : (inst r && inst t) = true) (h2 : ¬ t ≤ a) (h3 : t ≠ nxT a r) : chk a (l.drop k) = 8 := by
  rw [drop_cons h, chk, if_neg (by rw [h1]; decide), if_neg h2, if_pos h3]
theorem chk_step {a : Int} {l : List (Int × Int)} {k : Nat} {t r : Int} (h : l[k]? = some (t, r)) (h1 : (inst r && inst t) = true) (h2 : ¬ t ≤ a) (h3 : ¬ t ≠ nxT a r) : chk a (l.drop k) = chk t (l.drop (k + 1)) := by
  rw [drop_cons h, chk, if_neg (by rw [h1]; decide), if_neg h2, if_neg h3]
theorem chk_end {a : Int} {l : List (Int × Int)} {k : Nat} (h : l.length ≤ k) : chk a (l.drop k) = 0 := by rw [List.drop_eq_nil_of_le h]; rfl

/-- Where the wall clock steps backwards, up to index k. -/
def wl (l : List (Int × Int)) (k : Nat) : Int := (l.getD k (0, 0)).2
theorem wl_get {l : List (Int × Int)} {k : Nat} {p : Int × Int} (h : l[k]? = some p) : wl l k = p.2 := by unfold wl; rw [List.getD_eq_getElem?_getD, h]; rfl
def stp (l : List (Int × Int)) : Nat → List Int
  | 0 => []
  | k + 1 => stp l k ++ if 0 < k ∧ wl l k < wl l (k - 1) then [(k : Int)] else []
theorem stp_len (l : List (Int × Int)) : ∀ k, (stp l k).length ≤ k
  | 0 => Nat.le_refl _
  | k + 1 => by
    have := stp_len l k
    rw [stp, List.length_append]
    split <;> simp <;> omega
theorem stp_yes {l : List (Int × Int)} {k : Nat} {p q : Int × Int} (h0 : l[k]? = some p) (h1 : l[k + 1]? = some q) (h : q.2 < p.2) : stp l (k + 1 + 1) = stp l (k + 1) ++ [((k + 1 : Nat) : Int)] := by
  rw [stp, if_pos ⟨by omega, by rw [wl_get h1, Nat.add_sub_cancel, wl_get h0]; exact h⟩]
theorem stp_no {l : List (Int × Int)} {k : Nat} {p q : Int × Int} (h0 : l[k]? = some p) (h1 : l[k + 1]? = some q) (h : ¬ q.2 < p.2) : stp l (k + 1 + 1) = stp l (k + 1) := by
  rw [stp, if_neg (by rw [wl_get h1, Nat.add_sub_cancel, wl_get h0]; exact fun x => h x.2), List.append_nil]

/-- The last stamp up to a time. -/
def lat (t : Int) (l : List (Int × Int)) : Option (Int × Int) := (l.filter fun p => decide (p.1 ≤ t)).getLast?
def latV (o : Option (Int × Int)) : Value := match o with
  | none => .tuple #[.agg #[.int .i64 0, .int .i64 0], .bool false]
  | some p => .tuple #[.agg #[.int .i64 p.1, .int .i64 p.2], .bool true]
theorem take_snocP {l : List (Int × Int)} {k : Nat} {x : Int × Int} (hx : l[k]? = some x) : l.take (k + 1) = l.take k ++ [x] := by
  obtain ⟨hj, rfl⟩ := List.getElem?_eq_some_iff.1 hx
  exact List.take_succ_eq_append_getElem hj
theorem lat_yes {l : List (Int × Int)} {k : Nat} {t : Int} {p : Int × Int} (hx : l[k]? = some p) (h : p.1 ≤ t) : lat t (l.take (k + 1)) = some p := by
  unfold lat; rw [take_snocP hx, List.filter_append]; simp [h]
theorem lat_no {l : List (Int × Int)} {k : Nat} {t : Int} {p : Int × Int} (hx : l[k]? = some p) (h : ¬ p.1 ≤ t) : lat t (l.take (k + 1)) = lat t (l.take k) := by
  unfold lat; rw [take_snocP hx, List.filter_append]; simp [h]
theorem lat_all {l : List (Int × Int)} {k : Nat} {t : Int} (h : l.length ≤ k) : lat t (l.take k) = lat t l := by rw [List.take_of_length_le h]
theorem lat_none (t : Int) (l : List (Int × Int)) : lat t (l.take 0) = none := rfl

/-- Replay behind the time a: the stamps, or the first error. -/
def rep (a : Int) : List Int → List (Int × Int) ⊕ Int
  | [] => .inl []
  | r :: l => if inst r = false then .inr 6 else if inst (nxT a r) = false then .inr 21 else match rep (nxT a r) l with
    | .inl s => .inl ((nxT a r, r) :: s)
    | .inr e => .inr e
/-- The stamps of the readings up to k, without asking for errors. -/
def rpl (a : Int) : List Int → List (Int × Int)
  | [] => []
  | r :: l => (nxT a r, r) :: rpl (nxT a r) l
def lstT (a : Int) : List Int → Int
  | [] => a
  | r :: l => lstT (nxT a r) l
theorem rpl_len (a : Int) (l : List Int) : (rpl a l).length = l.length := by
  induction l generalizing a with
  | nil => rfl
  | cons r l ih => simp [rpl, ih]
theorem rpl_snoc (a : Int) (l : List Int) (r : Int) : rpl a (l ++ [r]) = rpl a l ++ [(nxT (lstT a l) r, r)] := by
  induction l generalizing a with
  | nil => rfl
  | cons x l ih => simp [rpl, lstT, ih]
theorem lstT_snoc (a : Int) (l : List Int) (r : Int) : lstT a (l ++ [r]) = nxT (lstT a l) r := by
  induction l generalizing a with
  | nil => rfl
  | cons x l ih => simp [lstT, ih]
theorem lstT_ge (a : Int) (l : List Int) : a + l.length ≤ lstT a l := by
  induction l generalizing a with
  | nil => simp [lstT]
  | cons x l ih =>
    have := ih (nxT a x)
    have h2 : a + 1 ≤ nxT a x := by unfold nxT; omega
    simp only [lstT, List.length_cons]
    omega
/-- The first error of a replay (0: none), behind the time a. -/
def rpE (a : Int) : List Int → Int
  | [] => 0
  | r :: l => if inst r = false then 6 else if inst (nxT a r) = false then 21 else rpE (nxT a r) l
theorem dropI {l : List Int} {k : Nat} {x : Int} (h : l[k]? = some x) : l.drop k = x :: l.drop (k + 1) := by
  obtain ⟨hk, rfl⟩ := List.getElem?_eq_some_iff.1 h
  exact (List.drop_eq_getElem_cons hk)
theorem takeI {l : List Int} {k : Nat} {x : Int} (hx : l[k]? = some x) : l.take (k + 1) = l.take k ++ [x] := by
  obtain ⟨hj, rfl⟩ := List.getElem?_eq_some_iff.1 hx
  exact List.take_succ_eq_append_getElem hj
theorem rpE_six {l : List Int} {k : Nat} {a r : Int} (h : l[k]? = some r) (h1 : inst r = false) : rpE a (l.drop k) = 6 := by rw [dropI h, rpE, if_pos h1]
theorem rpE_clk {l : List Int} {k : Nat} {a r : Int} (h : l[k]? = some r) (h1 : inst r = true) (h2 : inst (nxT a r) = false) : rpE a (l.drop k) = 21 := by rw [dropI h, rpE, if_neg (by rw [h1]; decide), if_pos h2]
theorem rpE_step {l : List Int} {k : Nat} {a r : Int} (h : l[k]? = some r) (h1 : inst r = true) (h2 : inst (nxT a r) = true) : rpE a (l.drop k) = rpE (nxT a r) (l.drop (k + 1)) := by rw [dropI h, rpE, if_neg (by rw [h1]; decide), if_neg (by rw [h2]; decide)]
theorem rpE_end {l : List Int} {k : Nat} {a : Int} (h : l.length ≤ k) : rpE a (l.drop k) = 0 := by rw [List.drop_eq_nil_of_le h]; rfl
theorem rpl_step {l : List Int} {k : Nat} {r : Int} (h : l[k]? = some r) : rpl 0 (l.take (k + 1)) = rpl 0 (l.take k) ++ [(nxT (lstT 0 (l.take k)) r, r)] := by rw [takeI h, rpl_snoc]
theorem lstT_step {l : List Int} {k : Nat} {r : Int} (h : l[k]? = some r) : lstT 0 (l.take (k + 1)) = nxT (lstT 0 (l.take k)) r := by rw [takeI h, lstT_snoc]
/-- A valid clock goes on to a valid one. -/
theorem cok_next {a b r : Int} (_h : cok a b = true) (h1 : inst r = true) (h2 : inst (nxT a r) = true) : cok (nxT a r) r = true := by
  rw [cok_iff]; rw [inst_iff] at *; unfold nxT at *; omega
end Go.Proofs.Ytonhlejeedhpiaa
