/-
  The program's and the reference's networks end with the same bits. Conditions: none.
-/
import Derived.Test.YtmmecpmeemhglaaDoorTgM
namespace Go.Proofs.YtmmecpmeemhglaaDoor

def bitsOf (f : Nat → Bool) : Nat → Nat
  | 0 => 0
  | m + 1 => if f m then bitsOf f m ||| 2 ^ m else bitsOf f m
theorem bitsOf_bit (f : Nat → Bool) (c : Nat) : ∀ m, (bitsOf f m).testBit c = true ↔ c < m ∧ f c = true
  | 0 => by simp [bitsOf]
  | m + 1 => by
    have ih := bitsOf_bit f c m
    unfold bitsOf
    split
    · rename_i h
      rw [Nat.testBit_or, Bool.or_eq_true, ih, Nat.testBit_two_pow, decide_eq_true_eq]
      constructor
      · rintro (⟨h1, h2⟩ | h1)
        · exact ⟨by omega, h2⟩
        · subst h1; exact ⟨by omega, h⟩
      · rintro ⟨h1, h2⟩
        by_cases e : m = c
        · exact .inr e
        · exact .inl ⟨by omega, h2⟩
    · rename_i h
      rw [ih]
      constructor
      · rintro ⟨h1, h2⟩; exact ⟨by omega, h2⟩
      · rintro ⟨h1, h2⟩
        refine ⟨?_, h2⟩
        by_cases e : c = m
        · subst e; exact absurd h2 h
        · omega
def netOf (B : BNet) : Net := fun i j => bitsOf (B i j) 13
theorem netOf_bit (B : BNet) (i j c : Nat) : (netOf B i j).testBit c = true ↔ c < 13 ∧ B i j c = true := bitsOf_bit _ _ _
def ofNet (M : Net) : BNet := fun i j c => (M i j).testBit c
theorem pc_netOf {n : Nat} {B : BNet} (h : PCb n B) : PC n (netOf B) := fun i j k hi hj hk c hc => by
  obtain ⟨h1, h2⟩ := (netOf_bit _ _ _ _).1 hc
  obtain ⟨a, b, ha, hb, x, y, z⟩ := (posA_iff _ _ _ _ _).1 (h i j c k hi hj h1 hk h2)
  exact ⟨a, b, ha, hb, (netOf_bit _ _ _ _).2 ⟨ha, x⟩, (netOf_bit _ _ _ _).2 ⟨hb, y⟩, z⟩
theorem pcb_ofNet {n : Nat} {M : Net} (h : PC n M) : PCb n (ofNet M) := fun i j c k hi hj _ hk hc =>
  (posA_iff _ _ _ _ _).2 (h i j k hi hj hk c hc)
/-- What the reference's rounds end in. -/
structure REnd (n : Nat) (l : List Con) (B : BNet) : Prop where
  sub : Subb n B (stB l)
  clo : Clo n B
  pc : PCb n B
  keep : ∀ S, PCb n S → Clo n S → Subb n S (stB l) → Subb n S B
theorem sub_perm {n : Nat} {l : List Con} {B : BNet} (ho : okL n l = true) (h : Subb n B (stB l)) : Sub n (netOf B) (permN n l) := fun i j hi hj c hc => by
  obtain ⟨h1, h2⟩ := (netOf_bit _ _ _ _).1 hc
  exact (same_start ho i j c hi hj h1).1 (h i j c hi hj h1 h2)
/-- Where the program finds nothing, the reference's network has no relation for some pair. -/
theorem rend_none {n f : Nat} {l : List Con} {B : BNet} (ho : okL n l = true) (h : REnd n l B) (ht : tightF n f (permN n l) = some none) : ∃ i j, i ≤ j ∧ j < n ∧ ∀ c, c < 13 → B i j c = false := by
  obtain ⟨i, j, hi, hj, hn⟩ := (tight_sub (pc_netOf h.pc) f _ _ (sub_perm ho h.sub) ht).1 rfl
  have hB : ∀ c, c < 13 → B i j c = false := fun c hc => by
    rw [Bool.eq_false_iff]; intro hb
    have := hn c
    rw [(netOf_bit B i j c).2 ⟨hc, hb⟩] at this
    cases this
  rcases Nat.le_total i j with h1 | h1
  · exact ⟨i, j, h1, hj, hB⟩
  · refine ⟨j, i, h1, hi, fun c hc => ?_⟩
    rw [h.clo j i c hj hi hc]
    exact hB (12 - c) (by omega)
theorem clo_prog {n f : Nat} {l : List Con} {R : Net} (hn : n ≤ 8) (ho : okL n l = true) (ht : tightF n f (permN n l) = some (some R)) : Clo n (ofNet R) := by
  obtain ⟨_, hp, hs⟩ := tight_end hn f _ _ ht
  have hsub : Subb n (cvN (ofNet R)) (stB l) := fun i j c hi hj hc hb => by
    rw [clo_start n l i j c hi hj hc]
    exact (same_start ho j i (12 - c) hj hi (by omega)).2 (hs j i (12 - c) hb)
  have h1 := (tight_sub (pc_netOf (pcb_conv (pcb_ofNet hp))) f _ _ (sub_perm ho hsub) ht).2 R rfl
  have h2 : ∀ i j c, i < n → j < n → c < 13 → (R j i).testBit (12 - c) = true → (R i j).testBit c = true := fun i j c hi hj hc hb =>
    h1 i j hi hj c ((netOf_bit _ _ _ _).2 ⟨hc, hb⟩)
  intro i j c hi hj hc
  unfold ofNet
  rw [Bool.eq_iff_iff]
  constructor
  · intro h
    refine h2 j i (12 - c) hj hi (by omega) ?_
    rw [show 12 - (12 - c) = c by omega]; exact h
  · exact h2 i j c hi hj hc
/-- Where the program finds a network, the reference's has the same bits. -/
theorem rend_some {n f : Nat} {l : List Con} {B : BNet} {R : Net} (hn : n ≤ 8) (ho : okL n l = true) (h : REnd n l B) (ht : tightF n f (permN n l) = some (some R)) : SameB n B R := by
  obtain ⟨_, hp, hs⟩ := tight_end hn f _ _ ht
  have h1 := (tight_sub (pc_netOf h.pc) f _ _ (sub_perm ho h.sub) ht).2 R rfl
  have h2 := h.keep (ofNet R) (pcb_ofNet hp) (clo_prog hn ho ht) (fun i j c hi hj hc hb => (same_start ho i j c hi hj hc).2 (hs i j c hb))
  exact fun i j c hi hj hc => ⟨fun hb => h1 i j hi hj c ((netOf_bit _ _ _ _).2 ⟨hc, hb⟩), fun hb => h2 i j c hi hj hc hb⟩
/-- What holds ahead of a round. -/
structure RMid (n : Nat) (l : List Con) (m : Nat) (B : BNet) : Prop where
  sub : Subb n B (stB l)
  clo : Clo n B
  keep : ∀ S, PCb n S → Clo n S → Subb n S (stB l) → Subb n S B
  few : m + cntB n B ≤ 13 * (n * n)
theorem RMid.start (n : Nat) (l : List Con) : RMid n l 0 (stB l) where
  sub _ _ _ _ _ _ h := h
  clo := clo_start n l
  keep _ _ _ h := h
  few := by have := cntB_le n (stB l); omega
theorem RMid.step {n : Nat} {l : List Con} {m r : Nat} {B B' : BNet} (h : RMid n l m B) (ho : OI n B B' r n 0 0 0) (hr : 0 < r) : RMid n l (m + 1) B' where
  sub i j c hi hj hc hb := h.sub i j c hi hj hc (ho.sub i j c hi hj hc hb)
  clo := ho.clo h.clo
  keep S a b d := ho.keep S a b (h.keep S a b d)
  few := by have := h.few; have := ho.cntB; omega
theorem RMid.rest {n : Nat} {l : List Con} {m : Nat} {B B' : BNet} (h : RMid n l m B) (ho : OI n B B' 0 n 0 0 0) : REnd n l B' := by
  obtain ⟨e, hd⟩ := ho.fix rfl
  subst e
  exact ⟨h.sub, h.clo, fun i j c k hi hj hc hk hb => hd i j c k hi hj hc hk (by omega) hb, h.keep⟩
theorem RMid.full {n : Nat} {l : List Con} {B : BNet} (h : RMid n l (13 * (n * n)) B) : REnd n l B where
  sub := h.sub
  clo := h.clo
  keep := h.keep
  pc i j c k hi hj hc _ hb := by
    have h0 : cntB n B = 0 := by have := h.few; omega
    have h1 := cnt_cut (n := n) (B := B) (C := cut B i j c) (fun x y z hh => ((cut_iff _ _ _ _ _ _ _).1 hh).1) hi hj hc hb (by
      rw [Bool.eq_false_iff]; intro hh; exact ((cut_iff _ _ _ _ _ _ _).1 hh).2.1 ⟨rfl, rfl, rfl⟩)
    omega
end Go.Proofs.YtmmecpmeemhglaaDoor
