import Derived.Test.YteihjneeiojgaaaSEoN
import Derived.WalkKit
import Derived.WalkSpells
import Derived.WalkLawsBesides
import Derived.Deep.QuietTactic
import Derived.BigQuiet
import Derived.Handy
import Derived.Lib.Hide
/-
  Index and Lossless of evolve. Conditions: a definition that is valid is small.
-/
namespace Go.Proofs.Yteihjneeiojgaaa
set_option maxRecDepth 100000
set_option linter.unusedVariables false
set_option linter.unusedSimpArgs false
open Go.RowKit

def idxE (nm : List UInt8) (cs : List Cl) (zs : List Int) (fs : List Fk) (d : Nat) (es : List Ex) (h : Chg) (col : Int) : Int :=
  if evoE nm cs zs fs d es h ≠ 0 ∨ col < 0 ∨ (cs.length : Int) ≤ col then -1 else if h.k ≠ 2 then col else if col = findK h.nm 0 cs then -1 else mvI (findK h.nm 0 cs) col
def losE (k : Int) : Bool := k == 1 || k == 3 || k == 4
set_option maxRecDepth 100000 in
set_option maxHeartbeats 12800000 in
theorem pIndex_any (nm : ByteArray) (u1 u2 u3 u4 : Value) (cs : List Cl) (zs : List Int) (fs : List Fk) (d : Nat) (es : List Ex) (h : Chg) (col m : Int) (w : World) (hm : w.cell? ⟨0, 0, none⟩ = some (.int .i64 m)) (ht : RdT w 0 w.heap.size u1 u2 u3 u4 cs zs fs d es) (hlen : cs.length ≤ 1099511627776) (hg : chkA nm.data.toList cs zs fs d es = 0 → GdT ⟨cs, zs, fs, d, es⟩) :
    Calls Try.prog 9 #[.agg #[.string nm, u1, u2, u3, u4], chV h, .int .i64 col] w fun e w' => e = .returned (.int .i64 (idxE nm.data.toList cs zs fs d es h col)) ∧ Below w.heap.size w w' := by
  have hcl : ∀ W : World, Below w.heap.size w W → W.cell? ⟨0, 0, none⟩ = some (.int .i64 m) := fun W hb => (hb.cell (p := ⟨0, 0, none⟩) (World.block_lt_of_cell? w _ hm)).trans hm
  have HCK := Lib.hid (fun (W : World) (hb : Below w.heap.size w W) => pEvCheck_any nm u1 u2 u3 u4 cs zs fs d es h m W 0 (hcl W hb) (ht.step hb (Nat.le_refl _)) hlen (fun hz => (hg hz).s))
  have hev : evoE nm.data.toList cs zs fs d es h = 0 → ∀ c ∈ cs, (nmC c).all okcB = true := fun he => by
    have hz : chkA nm.data.toList cs zs fs d es = 0 := by
      by_cases h0 : chkA nm.data.toList cs zs fs d es = 0
      · exact h0
      · unfold evoE at he
        rw [if_pos h0] at he
        exact he
    exact (hg hz).s.hn
  have HFD := Lib.hid (fun (he : evoE nm.data.toList cs zs fs d es h = 0) (W : World) (hb : Below w.heap.size w W) => eFind_any (.string nm) u1 u2 u3 u4 cs h.nm W 0 (ht.c.step hb (Nat.le_refl _)) (hev he))
  obtain ⟨A1, c1, e1⟩ := shK ht.c
  subst e1
  have hd : idxE nm.data.toList cs zs fs d es h col = (if evoE nm.data.toList cs zs fs d es h ≠ 0 ∨ col < 0 ∨ (cs.length : Int) ≤ col then -1 else if h.k ≠ 2 then col else if col = findK h.nm 0 cs then -1 else mvI (findK h.nm 0 cs) col) := rfl
  generalize idxE nm.data.toList cs zs fs d es h col = RES at *
  generalize evoE nm.data.toList cs zs fs d es h = E at *
  generalize findK h.nm 0 cs = fi at *
  obtain ⟨k, s1, s2, ⟨s3, ck, cb⟩, ⟨p1, p2, p3⟩⟩ := h
  clear hcl ht hg hm hev
  unfold chV chA at *
  dsimp only at *
  have HD := Lib.hid hd
  clear hd
  obtain ⟨HT, HC, HB⟩ := bx2 w 27 #[.string nm, .slice A1 cs.length c1, u2, u3, u4] 40 #[.int .i64 k, .string s1, .string s2, .string s3, .int .i64 ck, .bool cb, .int .i64 p1, .int .i64 p2, .string p3]
  obtain ⟨d0, d1, d2, d3, d4⟩ := Own.five HT.out
  obtain ⟨x0, x1, x2, x3, x4, x5, x6, x7, x8⟩ := oc9 HC
  go_enter Try.func9, Try.ntmps9
  go_wp2_with fail
  with_reducible refine (HCK.out _ HB.out).mono ?_
  rintro e w2 ⟨rfl, hb⟩
  replace HT := blw HT hb
  replace HC := blw HC hb
  replace HB := btr HB hb
  clear hb d0 d1 d2 d3 d4 x0 x1 x2 x3 x4 x5 x6 x7 x8 HCK
  by_cases he : E = 0
  rotate_left
  · have hrn : (E != 0) = true := by simp [he]
    have HR := Lib.hid (show RES = -1 from HD.out.trans (if_pos (.inl he)))
    clear he HD
    go_wp2
    go_ret
    exact ⟨by rw [HR.out]; rfl, HB.out⟩
  subst he
  obtain ⟨d0, d1, d2, d3, d4⟩ := Own.five HT.out
  obtain ⟨x0, x1, x2, x3, x4, x5, x6, x7, x8⟩ := oc9 HC
  by_cases hc0 : col < 0
  · have HR := Lib.hid (show RES = -1 from HD.out.trans (if_pos (.inr (.inl hc0))))
    clear HD
    go_wp2
    go_ret
    exact ⟨by rw [HR.out]; rfl, HB.out⟩
  by_cases hc1 : (cs.length : Int) ≤ col
  · have HR := Lib.hid (show RES = -1 from HD.out.trans (if_pos (.inr (.inr hc1))))
    clear HD
    go_wp2
    go_ret
    exact ⟨by rw [HR.out]; rfl, HB.out⟩
  have HN := Lib.hid (show ¬ ((0 : Int) ≠ 0 ∨ col < 0 ∨ (cs.length : Int) ≤ col) from fun h => h.elim (fun h => h rfl) (fun h => h.elim hc0 hc1))
  by_cases hk : k = 2
  rotate_left
  · have hkn : (k != 2) = true := by simp [hk]
    have HR := Lib.hid (show RES = col from HD.out.trans ((if_neg HN.out).trans (if_pos hk)))
    clear hk HD
    go_wp2
    go_ret
    exact ⟨by rw [HR.out]; rfl, HB.out⟩
  subst hk
  have HCB := Lib.hid (show 0 ≤ col ∧ col ≤ 9223372036854775807 from by omega)
  have HMV := Lib.hid (fun W => move_any col fi W HCB.out)
  have HRES := Lib.hid (show RES = (if col = fi then -1 else mvI fi col) from HD.out.trans ((if_neg HN.out).trans (if_neg (fun h => h rfl))))
  go_wp2_with fail
  with_reducible refine (HFD.out (by trivial) _ HB.out).mono ?_
  rintro e w3 ⟨rfl, hb⟩
  replace HB := btr HB hb
  clear hb d0 d1 d2 d3 d4 x0 x1 x2 x3 x4 x5 x6 x7 x8 HFD HT HC hc0 hc1
  by_cases hf : col = fi
  · have hfb : (col == fi) = true := by rw [beq_iff_eq]; exact hf
    have HR := Lib.hid (show RES = -1 from HRES.out.trans (if_pos hf))
    clear hf HRES HD HN
    go_wp2
    go_ret
    exact ⟨by rw [HR.out]; rfl, HB.out⟩
  · have hfb : (col == fi) = false := by rw [beq_eq_false_iff_ne]; exact hf
    have HR := Lib.hid (show RES = mvI fi col from HRES.out.trans (if_neg hf))
    clear hf HRES HD HN
    go_wp2_with fail
    with_reducible refine (HMV.out _).mono ?_
    rintro e w4 ⟨rfl, rfl⟩
    go_wp2
    go_ret
    exact ⟨by rw [HR.out]; rfl, HB.out⟩
end Go.Proofs.Yteihjneeiojgaaa
