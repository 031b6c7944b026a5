/-
  Mathematics of the checksum: steps of one bit, of four bits by the table, of bytes. Conditions: none.
-/
import Derived.Test.YtkhdfjneibnlmaaDoorBase
import Derived.Laws.BitsAllLaws
namespace Go.Proofs.YtkhdfjneibnlmaaDoor

/-- One step of the register. -/
def bst (r : Nat) : Nat := if r % 2 = 1 then r / 2 ^^^ 2197175160 else r / 2
def bstN : Nat → Nat → Nat
  | 0, r => r
  | n + 1, r => bst (bstN n r)
theorem bstN_bst : ∀ (n r : Nat), bstN n (bst r) = bstN (n + 1) r
  | 0, _ => rfl
  | n + 1, r => by show bst (bstN n (bst r)) = bst (bstN (n + 1) r); rw [bstN_bst n r]
theorem bstN_add (m : Nat) : ∀ (n r : Nat), bstN n (bstN m r) = bstN (n + m) r
  | 0, r => by rw [Nat.zero_add]; rfl
  | n + 1, r => by rw [Nat.add_right_comm]; show bst (bstN n (bstN m r)) = bst (bstN (n + m) r); rw [bstN_add m n r]
theorem bst_lt {r : Nat} (h : r < 4294967296) : bst r < 4294967296 := by
  unfold bst; split
  · exact Nat.xor_lt_two_pow (n := 32) (by omega) (by decide)
  · omega
theorem bstN_lt {r : Nat} (h : r < 4294967296) : ∀ n, bstN n r < 4294967296
  | 0 => h
  | n + 1 => bst_lt (bstN_lt h n)
theorem bst_lin (x y : Nat) : bst (x ^^^ y) = bst x ^^^ bst y := by
  have h2 : (x ^^^ y) / 2 = x / 2 ^^^ y / 2 := by
    have := Nat.shiftRight_xor_distrib (a := x) (b := y) (i := 1)
    simpa [Nat.shiftRight_eq_div_pow] using this
  have hm : (x ^^^ y) % 2 = (x + y) % 2 := by
    have h0 := Nat.testBit_xor x y 0
    rw [Nat.testBit_zero, Nat.testBit_zero, Nat.testBit_zero] at h0
    rcases Nat.mod_two_eq_zero_or_one x with hx | hx <;> rcases Nat.mod_two_eq_zero_or_one y with hy | hy <;> rcases Nat.mod_two_eq_zero_or_one (x ^^^ y) with hz | hz <;> rw [hx, hy, hz] at h0 <;> first | omega | (exact absurd h0 (by decide))
  unfold bst
  rw [h2, hm]
  rcases Nat.mod_two_eq_zero_or_one x with hx | hx <;> rcases Nat.mod_two_eq_zero_or_one y with hy | hy
  · rw [if_neg (by omega), if_neg (by omega), if_neg (by omega)]
  · rw [if_pos (by omega), if_neg (by omega), if_pos hy, Nat.xor_assoc]
  · rw [if_pos (by omega), if_pos hx, if_neg (by omega), Nat.xor_assoc, Nat.xor_assoc, Nat.xor_comm (y / 2)]
  · rw [if_neg (by omega), if_pos hx, if_pos hy, Nat.xor_assoc, ← Nat.xor_assoc 2197175160 (y / 2), Nat.xor_comm 2197175160 (y / 2), Nat.xor_assoc (y / 2), Nat.xor_self, Nat.xor_zero]
theorem bstN_lin (x y : Nat) : ∀ n, bstN n (x ^^^ y) = bstN n x ^^^ bstN n y
  | 0 => rfl
  | n + 1 => by show bst (bstN n (x ^^^ y)) = bst (bstN n x) ^^^ bst (bstN n y); rw [bstN_lin x y n, bst_lin]
theorem bst_two (m : Nat) : bst (2 * m) = m := by unfold bst; rw [if_neg (by omega)]; omega
theorem bstN_four (q : Nat) : bstN 4 (16 * q) = q := by
  show bst (bst (bst (bst (16 * q)))) = q
  rw [show 16 * q = 2 * (8 * q) by omega, bst_two, show 8 * q = 2 * (4 * q) by omega, bst_two, show 4 * q = 2 * (2 * q) by omega, bst_two, bst_two]
/-- The table. -/
def tabL : List Int := [0, 274646895, 549293790, 820201905, 1098587580, 1361435347, 1640403810, 1905808397, 2197175160, 2460548119, 2722870694, 2987750089, 3280807620, 3553878443, 3811616794, 4084100981]
def tabN (d : Nat) : Nat := bstN 4 d
theorem tab_fin : ∀ i : Fin 16, tabL[i.val]? = some (tabN i.val : Int) := by decide +kernel
theorem tab_at (d : Nat) (h : d < 16) : tabL[d]? = some (tabN d : Int) := tab_fin ⟨d, h⟩
theorem split16 (r : Nat) : r = 16 * (r / 16) ^^^ r % 16 := by
  apply Nat.eq_of_testBit_eq
  intro i
  rw [Nat.testBit_xor, show (16 : Nat) = 2 ^ 4 from rfl, Nat.testBit_two_pow_mul, Nat.testBit_mod_two_pow, Nat.testBit_div_two_pow]
  by_cases h : i < 4
  · rw [decide_eq_true h, decide_eq_false (p := i ≥ 4) (by omega)]; simp
  · rw [decide_eq_false h, decide_eq_true (p := i ≥ 4) (by omega), show i - 4 + 4 = i by omega]; simp
/-- Four steps by the table. -/
def hbs (r : Nat) : Nat := r / 16 ^^^ tabN (r % 16)
theorem hbs_eq (r : Nat) : hbs r = bstN 4 r := by
  have h := split16 r
  conv => rhs; rw [h]
  rw [bstN_lin, bstN_four]
  rfl
theorem tabN_lt (d : Nat) (h : d < 16) : tabN d < 4294967296 := bstN_lt (by omega) 4
theorem hbs_lt {r : Nat} (h : r < 4294967296) : hbs r < 4294967296 := by rw [hbs_eq]; exact bstN_lt h 4
/-- The register after a byte. -/
def byR (r : Nat) (c : UInt8) : Nat := bstN 8 (r ^^^ c.toNat)
theorem byR_lt {r : Nat} (h : r < 4294967296) (c : UInt8) : byR r c < 4294967296 :=
  bstN_lt (Nat.xor_lt_two_pow (n := 32) h (by have := c.toNat_lt; omega)) 8
theorem byR_tab (r : Nat) (c : UInt8) : byR r c = hbs (hbs (r ^^^ c.toNat)) := by
  rw [hbs_eq, hbs_eq, bstN_add]; rfl
def crcU (r : Nat) (l : List UInt8) : Nat := l.foldl byR r
theorem crcU_lt : ∀ (l : List UInt8) (r : Nat), r < 4294967296 → crcU r l < 4294967296 := by
  intro l
  induction l with
  | nil => intro r h; exact h
  | cons c l ih => intro r h; exact ih _ (byR_lt h c)
theorem crcU_snoc (r : Nat) (l : List UInt8) (c : UInt8) : crcU r (l ++ [c]) = byR (crcU r l) c := by unfold crcU; rw [List.foldl_append]; rfl
theorem crcU_app (r : Nat) (l m : List UInt8) : crcU r (l ++ m) = crcU (crcU r l) m := by unfold crcU; rw [List.foldl_append]
/-- The checksum. -/
def crc (l : List UInt8) : Nat := 4294967295 ^^^ crcU 4294967295 l
theorem crc_lt (l : List UInt8) : crc l < 4294967296 := Nat.xor_lt_two_pow (n := 32) (by decide) (crcU_lt l _ (by decide))
/-! ### steps are one to one -/
theorem bst_inj {x y : Nat} (hx : x < 4294967296) (hy : y < 4294967296) (h : bst x = bst y) : x = y := by
  have hd : ∀ a : Nat, a < 4294967296 → (a / 2) / 2147483648 = 0 := fun a ha => by omega
  have hz : bst (x ^^^ y) = 0 := by rw [bst_lin, h, Nat.xor_self]
  have hl : x ^^^ y < 4294967296 := Nat.xor_lt_two_pow (n := 32) hx hy
  generalize hm : x ^^^ y = m at *
  have h0 : m = 0 := by
    unfold bst at hz
    split at hz
    · exfalso
      have e : m / 2 = 2197175160 := by
        have := congrArg (· ^^^ 2197175160) hz
        simp only [Nat.xor_assoc, Nat.xor_self, Nat.xor_zero, Nat.zero_xor] at this
        exact this
      omega
    · omega
  subst h0
  have := congrArg (x ^^^ ·) hm
  simp only [← Nat.xor_assoc, Nat.xor_self, Nat.zero_xor, Nat.xor_zero] at this
  exact this.symm
theorem bstN_inj {x y : Nat} (hx : x < 4294967296) (hy : y < 4294967296) : ∀ n, bstN n x = bstN n y → x = y
  | 0, h => h
  | n + 1, h => bstN_inj hx hy n (bst_inj (bstN_lt hx n) (bstN_lt hy n) h)
end Go.Proofs.YtkhdfjneibnlmaaDoor
