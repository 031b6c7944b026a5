/-
  Mathematics of the reference's Tighten: its start has the bits of the program's; the converse of the table. Conditions: none.
-/
import Derived.Test.YtmmecpmeemhglaaDoorRst
namespace Go.Proofs.YtmmecpmeemhglaaDoor

theorem set_has {r : List Int} (h : okR r) (c : Nat) : (setN r).testBit c = true ↔ (c : Int) ∈ r := by
  rw [setN_bit]
  constructor
  · rintro ⟨x, hx, e⟩
    have := (h x hx)
    have e2 : (c : Int) = x := by omega
    rw [e2]; exact hx
  · intro hx; exact ⟨_, hx, by omega⟩
theorem conS_bit {M : Net} {e : Con} (h : okR e.r) (i j c : Nat) (hc : c < 13) : (conS M e i j).testBit c = true ↔ (M i j).testBit c = true ∧ (i = e.a.toNat ∧ j = e.b.toNat → (c : Int) ∈ e.r) ∧ (i = e.b.toNat ∧ j = e.a.toNat → ((12 - c : Nat) : Int) ∈ e.r) := by
  have h1 := set_has h c
  have h2 : (invN (setN e.r)).testBit c = true ↔ ((12 - c : Nat) : Int) ∈ e.r := by rw [inv_bit, set_has h]; exact ⟨fun x => x.2, fun x => ⟨hc, x⟩⟩
  unfold conS upd
  (try dsimp only)
  generalize e.a.toNat = a at *
  generalize e.b.toNat = b at *
  by_cases p1 : i = b ∧ j = a
  · obtain ⟨rfl, rfl⟩ := p1
    rw [if_pos ⟨rfl, rfl⟩, Nat.testBit_and, Bool.and_eq_true, h2]
    by_cases p2 : i = j ∧ j = i
    · rw [if_pos p2, Nat.testBit_and, Bool.and_eq_true]
      obtain ⟨rfl, _⟩ := p2
      rw [h1]
      constructor
      · rintro ⟨⟨x, y⟩, z⟩; exact ⟨x, fun _ => y, fun _ => z⟩
      · rintro ⟨x, y, z⟩; exact ⟨⟨x, y ⟨rfl, rfl⟩⟩, z ⟨rfl, rfl⟩⟩
    · rw [if_neg p2]
      constructor
      · rintro ⟨x, z⟩; exact ⟨x, fun q => absurd q p2, fun _ => z⟩
      · rintro ⟨x, y, z⟩; exact ⟨x, z ⟨rfl, rfl⟩⟩
  · rw [if_neg p1]
    by_cases p2 : i = a ∧ j = b
    · obtain ⟨rfl, rfl⟩ := p2
      rw [if_pos ⟨rfl, rfl⟩, Nat.testBit_and, Bool.and_eq_true, h1]
      constructor
      · rintro ⟨x, y⟩; exact ⟨x, fun _ => y, fun q => absurd q p1⟩
      · rintro ⟨x, y, z⟩; exact ⟨x, y ⟨rfl, rfl⟩⟩
    · rw [if_neg p2]
      exact ⟨fun x => ⟨x, fun q => absurd q p2, fun q => absurd q p1⟩, fun x => x.1⟩
theorem cutC_bit {B : BNet} {e : Con} (i j c : Nat) (hc : c < 13) : ∀ m, m ≤ 13 → (cutC B e m i j c = true ↔ B i j c = true ∧ (i = e.a.toNat ∧ j = e.b.toNat → c < m → (c : Int) ∈ e.r) ∧ (i = e.b.toNat ∧ j = e.a.toNat → 12 - c < m → ((12 - c : Nat) : Int) ∈ e.r))
  | 0, _ => ⟨fun h => ⟨h, fun _ h => absurd h (Nat.not_lt_zero _), fun _ h => absurd h (Nat.not_lt_zero _)⟩, fun h => h.1⟩
  | m + 1, hm => by
    have ih := cutC_bit (B := B) (e := e) i j c hc m (by omega)
    rw [cutC_succ]
    by_cases hin : (m : Int) ∈ e.r
    · rw [if_pos hin, ih]
      constructor
      · rintro ⟨x, y, z⟩
        refine ⟨x, fun q hl => ?_, fun q hl => ?_⟩
        · by_cases hcm : c = m
          · rw [hcm]; exact hin
          · exact y q (by omega)
        · by_cases hcm : 12 - c = m
          · rw [hcm]; exact hin
          · exact z q (by omega)
      · rintro ⟨x, y, z⟩; exact ⟨x, fun q hl => y q (by omega), fun q hl => z q (by omega)⟩
    · rw [if_neg hin, cut_iff, ih]
      constructor
      · rintro ⟨⟨x, y, z⟩, u, v⟩
        refine ⟨x, fun q hl => ?_, fun q hl => ?_⟩
        · by_cases hcm : c = m
          · exact absurd ⟨q.1, q.2, hcm⟩ u
          · exact y q (by omega)
        · by_cases hcm : 12 - c = m
          · exact absurd ⟨q.1, q.2, by omega⟩ v
          · exact z q (by omega)
      · rintro ⟨x, y, z⟩
        refine ⟨⟨x, fun q hl => y q (by omega), fun q hl => z q (by omega)⟩, ?_, ?_⟩
        · rintro ⟨q1, q2, rfl⟩; exact hin (y ⟨q1, q2⟩ (by omega))
        · rintro ⟨q1, q2, q3⟩
          have q4 : 12 - c = m := by omega
          have := z ⟨q1, q2⟩ (by omega)
          rw [q4] at this
          exact hin this
/-- B and M have the same bits. -/
def SameB (n : Nat) (B : BNet) (M : Net) : Prop := ∀ i j c, i < n → j < n → c < 13 → (B i j c = true ↔ (M i j).testBit c = true)
theorem same_ini (n : Nat) : SameB n iniB (pP n n) := fun i j c hi hj hc => by
  unfold iniB pP
  rw [if_pos ⟨hi, hj⟩, Bool.or_eq_true, bne_iff_ne, beq_iff_eq]
  by_cases h : i = j
  · rw [if_pos h]
    have := (by decide : ∀ c : Fin 13, (64 : Nat).testBit c.val = true ↔ c.val = 6) ⟨c, hc⟩
    rw [this]
    exact ⟨fun x => x.resolve_left (fun y => y h), .inr⟩
  · rw [if_neg h]
    have := (by decide : ∀ c : Fin 13, (8191 : Nat).testBit c.val = true) ⟨c, hc⟩
    exact ⟨fun _ => this, fun _ => .inl h⟩
theorem same_step {n : Nat} {B : BNet} {M : Net} {e : Con} (h : SameB n B M) (hr : okR e.r) : SameB n (cutC B e 13) (conS M e) := fun i j c hi hj hc => by
  rw [cutC_bit i j c hc 13 (Nat.le_refl _), conS_bit hr i j c hc, h i j c hi hj hc]
  exact ⟨fun ⟨x, y, z⟩ => ⟨x, fun q => y q hc, fun q => z q (by omega)⟩, fun ⟨x, y, z⟩ => ⟨x, fun q _ => y q, fun q _ => z q⟩⟩
theorem same_fold {n : Nat} : ∀ {l : List Con} {B : BNet} {M : Net}, SameB n B M → okL n l = true → SameB n (l.foldl (fun B e => cutC B e 13) B) (l.foldl conS M)
  | [], _, _, h, _ => h
  | e :: l, B, M, h, ho => by
    unfold okL at ho
    rw [List.all_cons, Bool.and_eq_true] at ho
    have hs := same_step h (okC_out ho.1).2.2
    exact same_fold (l := l) hs ho.2
/-- The reference starts from what the program starts from. -/
theorem same_start {n : Nat} {l : List Con} (ho : okL n l = true) : SameB n (stB l) (permN n l) := same_fold (same_ini n) ho
theorem clo_ini (n : Nat) : Clo n iniB := fun i j c _ _ hc => by
  unfold iniB
  rw [Bool.eq_iff_iff, Bool.or_eq_true, Bool.or_eq_true, bne_iff_ne, bne_iff_ne, beq_iff_eq, beq_iff_eq]
  omega
theorem clo_cut {n : Nat} {B : BNet} (h : Clo n B) (a b m : Nat) (hm : m < 13) : Clo n (cut B a b m) := fun x y z h1 h2 h3 => by
  rw [Bool.eq_iff_iff, cut_iff, cut_iff, h x y z h1 h2 h3]
  constructor
  · rintro ⟨p, q, r⟩; exact ⟨p, by omega, by omega⟩
  · rintro ⟨p, q, r⟩; exact ⟨p, by omega, by omega⟩
theorem clo_cutC {n : Nat} {B : BNet} (h : Clo n B) (e : Con) : ∀ m, m ≤ 13 → Clo n (cutC B e m)
  | 0, _ => h
  | m + 1, hm => by
    rw [cutC_succ]
    split
    · exact clo_cutC h e m (by omega)
    · exact clo_cut (clo_cutC h e m (by omega)) _ _ _ (by omega)
theorem clo_fold {n : Nat} : ∀ {l : List Con} {B : BNet}, Clo n B → Clo n (l.foldl (fun B e => cutC B e 13) B)
  | [], _, h => h
  | e :: l, _, h => clo_fold (l := l) (clo_cutC h e 13 (Nat.le_refl _))
theorem clo_start (n : Nat) (l : List Con) : Clo n (stB l) := clo_fold (clo_ini n)
theorem relN_inv (p q : Nat) (hp : p < 15) (hq : q < 15) : relN q p = 12 - relN p q := by
  have h := relPQ_inv ⟨p, hp⟩ ⟨q, hq⟩
  have e1 := relN_eq p q hp hq
  have e2 := relN_eq q p hq hp
  have l1 := relN_lt p q hp hq
  dsimp only at h
  omega
theorem tb_conv1 {a b c : Nat} (ha : a < 13) (hb : b < 13) (h : (tb a b).testBit c = true) : (tb (12 - b) (12 - a)).testBit (12 - c) = true := by
  obtain ⟨p, q, r, hp, hq, hr, h1, h2, h3⟩ := (tb_bit a b c ha hb).1 h
  exact (tb_bit _ _ _ (by omega) (by omega)).2 ⟨r, q, p, hr, hq, hp, by rw [relN_inv q r hq hr, h2], by rw [relN_inv p q hp hq, h1], by rw [relN_inv p r hp hr, h3]⟩
/-- The converse of a network. -/
def cvN (B : BNet) : BNet := fun i j c => B j i (12 - c)
theorem pcb_conv {n : Nat} {B : BNet} (h : PCb n B) : PCb n (cvN B) := fun i j c k hi hj hc hk hb => by
  obtain ⟨a, b, ha, hb', h1, h2, h3⟩ := (posA_iff _ _ _ _ _).1 (h j i (12 - c) k hj hi (by omega) hk hb)
  have h4 := tb_conv1 ha hb' h3
  rw [show 12 - (12 - c) = c by omega] at h4
  refine (posA_iff _ _ _ _ _).2 ⟨12 - b, 12 - a, by omega, by omega, ?_, ?_, h4⟩
  · show B k i (12 - (12 - b)) = true
    rw [show 12 - (12 - b) = b by omega]; exact h2
  · show B j k (12 - (12 - a)) = true
    rw [show 12 - (12 - a) = a by omega]; exact h1
end Go.Proofs.YtmmecpmeemhglaaDoor
