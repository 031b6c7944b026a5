import Derived.Test.YteihjneeiojgaaaSEoL
import Derived.Test.YteihjneeiojgaaaGL
import Derived.WalkKit
import Derived.WalkSpells
import Derived.WalkLawsBesides
import Derived.Deep.QuietTactic
import Derived.BigQuiet
import Derived.Handy
import Derived.Lib.Hide
/-
  Run of evolve: changes one after another. Conditions: the definitions that they lead to are small. (Written by mkEoM.py.)
-/
namespace Go.Proofs.Yteihjneeiojgaaa
set_option maxRecDepth 100000
set_option linter.unusedVariables false
set_option linter.unusedSimpArgs false
open Go.RowKit

/-- A definition's lists. -/
structure Tb where
  cs : List Cl
  zs : List Int
  fs : List Fk
  d : Nat
  es : List Ex
def stepT (T : Tb) (h : Chg) : Tb := ⟨chCs T.cs h (findK h.nm 0 T.cs).toNat, chZs T.zs h.k (findK h.nm 0 T.cs).toNat, chFs T.fs h.k (findK h.nm 0 T.cs).toNat, T.d + 1, chEs T.cs.length T.d T.es h.k (findK h.nm 0 T.cs).toNat⟩
def errT (T : Tb) (h : Chg) : Int := chgE T.cs T.zs T.fs T.d T.es h
/-- The definition after k changes, if all of them can be applied. -/
def stAt : Tb → List Chg → Nat → Option Tb
  | T, _, 0 => some T
  | _, [], _ + 1 => none
  | T, h :: t, k + 1 => if errT T h = 0 then stAt (stepT T h) t k else none
theorem stAt_zero (T : Tb) (l : List Chg) : stAt T l 0 = some T := by cases l <;> rfl
theorem stAt_next : ∀ (l : List Chg) (T : Tb) (k : Nat) (S : Tb) (h : Chg), stAt T l k = some S → l[k]? = some h → errT S h = 0 → stAt T l (k + 1) = some (stepT S h)
  | [], _, _, _, _, _, h, _ => by simp at h
  | x :: t, T, 0, S, h, h1, h2, h3 => by
    simp only [stAt] at h1
    injection h1 with h1
    subst h1
    simp at h2
    subst h2
    simp only [stAt, h3, if_true]
  | x :: t, T, k + 1, S, h, h1, h2, h3 => by
    simp only [stAt] at h1
    by_cases he : errT T x = 0
    · rw [if_pos he] at h1
      simp only [List.getElem?_cons_succ] at h2
      show (if errT T x = 0 then stAt (stepT T x) t (k + 1) else none) = _
      rw [if_pos he]
      exact stAt_next t _ k S h h1 h2 h3
    · rw [if_neg he] at h1
      cases h1
structure GdT (T : Tb) : Prop where
  s : SmT T.cs T.zs T.fs T.d T.es
  c : T.cs.length ≤ 1000000
  z : ∀ z ∈ T.zs, 0 ≤ z ∧ z ≤ 9223372036854775807
  f : ∀ f ∈ T.fs, ∀ z ∈ f.1, 0 ≤ z ∧ z ≤ 9223372036854775807
theorem chg_ok {T : Tb} {h : Chg} (he : errT T h = 0) : (1 ≤ h.k ∧ h.k ≤ 4) ∧ (h.k ≠ 1 → 0 ≤ findK h.nm 0 T.cs) := by
  unfold errT chgE at he
  by_cases h1 : h.k < 1 ∨ 4 < h.k
  · rw [if_pos h1] at he; cases he
  rw [if_neg h1] at he
  refine ⟨by omega, fun hk => ?_⟩
  by_cases h2 : eqH h (plnC h) = false
  · rw [if_pos h2] at he; cases he
  rw [if_neg h2, if_neg hk] at he
  by_cases h3 : findK h.nm 0 T.cs < 0
  · rw [if_pos h3] at he; cases he
  omega
/-- A slice of changes. -/
def RdH (w : World) (L B : Nat) (v : Value) (hs : List Chg) : Prop :=
  ∃ A c, v = .slice A hs.length c ∧ hs.length ≤ 9223372036854775807 ∧ ∀ (k : Nat) (h : Chg), hs[k]? = some h → ∃ ad : Addr, A = some ad ∧ L ≤ ad.block ∧ ad.block < B ∧
    w.cell? (ad.add (k * 9)) = some (.int .i64 h.k) ∧ w.cell? ⟨(ad.add (k * 9)).block, (ad.add (k * 9)).off + 1, none⟩ = some (.string h.nm) ∧ w.cell? ⟨(ad.add (k * 9)).block, (ad.add (k * 9)).off + 2, none⟩ = some (.string h.to) ∧
    w.cell? ⟨(ad.add (k * 9)).block, (ad.add (k * 9)).off + 3, none⟩ = some (.string h.c.1) ∧ w.cell? ⟨(ad.add (k * 9)).block, (ad.add (k * 9)).off + 4, none⟩ = some (.int .i64 h.c.2.1) ∧ w.cell? ⟨(ad.add (k * 9)).block, (ad.add (k * 9)).off + 5, none⟩ = some (.bool h.c.2.2) ∧
    w.cell? ⟨(ad.add (k * 9)).block, (ad.add (k * 9)).off + 6, none⟩ = some (.int .i64 h.p.1) ∧ w.cell? ⟨(ad.add (k * 9)).block, (ad.add (k * 9)).off + 7, none⟩ = some (.int .i64 h.p.2.1) ∧ w.cell? ⟨(ad.add (k * 9)).block, (ad.add (k * 9)).off + 8, none⟩ = some (.string h.p.2.2)
theorem RdH.below {w w' : World} {L B : Nat} {v : Value} {hs : List Chg} (h : RdH w L B v hs) (hb : Below B w w') : RdH w' L B v hs := by
  obtain ⟨A, c, hv, hl, hc⟩ := h
  refine ⟨A, c, hv, hl, fun k x hk => ?_⟩
  obtain ⟨ad, h1, h0, h2, q0, q1, q2, q3, q4, q5, q6, q7, q8⟩ := hc k x hk
  have f : ∀ i, (⟨(ad.add (k * 9)).block, (ad.add (k * 9)).off + i, none⟩ : Addr).block < B := fun i => by show (ad.add (k * 9)).block < _; rw [add_block]; exact h2
  exact ⟨ad, h1, h0, h2, (hb.cell (p := ad.add (k * 9)) (by rw [add_block]; exact h2)).trans q0, (hb.cell (f 1)).trans q1, (hb.cell (f 2)).trans q2, (hb.cell (f 3)).trans q3, (hb.cell (f 4)).trans q4, (hb.cell (f 5)).trans q5, (hb.cell (f 6)).trans q6, (hb.cell (f 7)).trans q7, (hb.cell (f 8)).trans q8⟩
def zTab : Value := .agg #[.string ⟨#[]⟩, .slice none 0 0, .slice none 0 0, .slice none 0 0, .slice none 0 0]
/-- What Run answers: the error of the definition, or of a change, or the definition behind the last one. -/
def RetRun (w : World) (nm : ByteArray) (T : Tb) (hs : List Chg) (e : Ending) (w' : World) : Prop :=
  ((∃ x : Int, x = chkA nm.data.toList T.cs T.zs T.fs T.d T.es ∧ x ≠ 0 ∧ e = .returned (.tuple #[zTab, .int .i64 0, .int .i64 x])) ∨
   (chkA nm.data.toList T.cs T.zs T.fs T.d T.es = 0 ∧ ∃ (k : Nat) (S : Tb) (h : Chg), stAt ⟨T.cs, T.zs, T.fs, T.d + 1, T.es⟩ hs k = some S ∧ hs[k]? = some h ∧ errT S h ≠ 0 ∧ e = .returned (.tuple #[zTab, .int .i64 k, .int .i64 (errT S h)])) ∨
   (chkA nm.data.toList T.cs T.zs T.fs T.d T.es = 0 ∧ ∃ (S : Tb) (v1 v2 v3 v4 : Value), stAt ⟨T.cs, T.zs, T.fs, T.d + 1, T.es⟩ hs hs.length = some S ∧ e = .returned (.tuple #[.agg #[.string nm, v1, v2, v3, v4], .int .i64 hs.length, .int .i64 0]) ∧ (GdT S → RdT w' 0 w'.heap.size v1 v2 v3 v4 S.cs S.zs S.fs S.d S.es) ∧ (∃ qs ps, OwT w.heap.size (fun b => b < w.heap.size) w' v1 v2 v3 v4 S.cs S.zs qs S.d ps ∧ qs.map (·.1) = S.fs ∧ ps.map (·.1) = S.es))) ∧ Below w.heap.size w w'
theorem OwT.lowN {N N' : Nat} {X : Nat → Prop} {W : World} {v1 v2 v3 v4 : Value} {cs : List Cl} {zs : List Int} {qs : List FkU} {d : Nat} {ps : List ExU} (h : OwT N X W v1 v2 v3 v4 cs zs qs d ps) (hN : N' ≤ N) : OwT N' X W v1 v2 v3 v4 cs zs qs d ps :=
  ⟨own_low h.c hN, own_low h.k hN, own_low h.f hN, own_low h.x hN, fun q hq => own_low (h.i q hq) hN, h.ki, h.ii, h.e⟩
theorem RetRun.bad {w w' : World} {nm : ByteArray} {T : Tb} {hs : List Chg} {x : Int} (h : chkA nm.data.toList T.cs T.zs T.fs T.d T.es = x) (hx : x ≠ 0) (hb : Below w.heap.size w w') : RetRun w nm T hs (.returned (.tuple #[zTab, .int .i64 0, .int .i64 x])) w' :=
  ⟨.inl ⟨x, h.symm, hx, rfl⟩, hb⟩
theorem RetRun.err {w w' : World} {nm : ByteArray} {T : Tb} {hs : List Chg} {k : Nat} {S : Tb} {h : Chg} {x : Int} (h0 : chkA nm.data.toList T.cs T.zs T.fs T.d T.es = 0) (hst : stAt ⟨T.cs, T.zs, T.fs, T.d + 1, T.es⟩ hs k = some S) (hk : hs[k]? = some h) (he : errT S h = x) (hx : x ≠ 0) (hb : Below w.heap.size w w') :
    RetRun w nm T hs (.returned (.tuple #[zTab, .int .i64 k, .int .i64 x])) w' :=
  ⟨.inr (.inl ⟨h0, k, S, h, hst, hk, by rw [he]; exact hx, by rw [he]⟩), hb⟩
theorem RetRun.fin {w w' : World} {nm : ByteArray} {T : Tb} {hs : List Chg} {S : Tb} {v1 v2 v3 v4 : Value} {qs : List FkU} {ps : List ExU} {N : Nat} (h0 : chkA nm.data.toList T.cs T.zs T.fs T.d T.es = 0) (hst : stAt ⟨T.cs, T.zs, T.fs, T.d + 1, T.es⟩ hs hs.length = some S) (hN : w.heap.size ≤ N) (ho : OwT N (fun b => b < w.heap.size) w' v1 v2 v3 v4 S.cs S.zs qs S.d ps) (hq : qs.map (·.1) = S.fs) (hp : ps.map (·.1) = S.es) (hb : Below w.heap.size w w') :
    RetRun w nm T hs (.returned (.tuple #[.agg #[.string nm, v1, v2, v3, v4], .int .i64 hs.length, .int .i64 0])) w' :=
  ⟨.inr (.inr ⟨h0, S, v1, v2, v3, v4, hst, rfl, fun hg => by
    have h := ho.rd (by have := hg.c; omega) hg.s.lk (by have h := congrArg List.length hq; rw [List.length_map] at h; have := hg.s.lf; omega) (by have h := congrArg List.length hp; rw [List.length_map] at h; have := hg.s.le; omega) (fun q hq' => hg.s.lf1 _ (by rw [← hq]; exact List.mem_map_of_mem hq'))
    rw [hq, hp] at h
    exact h, ⟨qs, ps, ho.lowN hN, hq, hp⟩⟩), hb⟩
set_option maxRecDepth 100000 in
set_option maxHeartbeats 25600000 in
theorem pRun_any (nm : ByteArray) (u1 u2 u3 u4 uh : Value) (cs : List Cl) (zs : List Int) (fs : List Fk) (d : Nat) (es : List Ex) (hs : List Chg) (m : Int) (w : World) (hm : w.cell? ⟨0, 0, none⟩ = some (.int .i64 m)) (ht : RdT w 0 w.heap.size u1 u2 u3 u4 cs zs fs d es) (hh : RdH w 0 w.heap.size uh hs)
    (hlen : cs.length ≤ 1099511627776) (hg : chkA nm.data.toList cs zs fs d es = 0 → ∀ k S, k < hs.length → stAt ⟨cs, zs, fs, d + 1, es⟩ hs k = some S → GdT S) (hs0 : chkA nm.data.toList cs zs fs d es = 0 → SmT cs zs fs d es) :
    Calls Try.prog 6 #[.agg #[.string nm, u1, u2, u3, u4], uh] w (RetRun w nm ⟨cs, zs, fs, d, es⟩ hs) := by
  have hcl : ∀ W : World, Below w.heap.size w W → W.cell? ⟨0, 0, none⟩ = some (.int .i64 m) := fun W hb => (hb.cell (p := ⟨0, 0, none⟩) (World.block_lt_of_cell? w _ hm)).trans hm
  have H1 := Lib.hid (fun (W : World) (hb : Below w.heap.size w W) => pTabCheck_any nm u1 u2 u3 u4 cs zs fs es d m W 0 0 0 0 (hcl W hb) (ht.c.step hb (Nat.le_refl _)) (ht.k.step hb (Nat.le_refl _)) (ht.f.step hb (Nat.le_refl _)) (ht.x.step hb (Nat.le_refl _)) hlen)
  have H2 := Lib.hid (fun (hz : chkA nm.data.toList cs zs fs d es = 0) (W : World) (hb : Below w.heap.size w W) => pCloO_any nm u1 u2 u3 u4 cs zs fs es d W (ht.c.step hb (Nat.le_refl _)) (ht.k.step hb (Nat.le_refl _)) (ht.f.step hb (Nat.le_refl _)) (ht.x.step hb (Nat.le_refl _)) hlen (hs0 hz).lk (by have := (hs0 hz).lf; omega) (hs0 hz).lf1)
  have HCL := Lib.hid hcl
  have HG := Lib.hid hg
  have HH := Lib.hid hh
  obtain ⟨A1, c1, e1⟩ := shK ht.c
  obtain ⟨A2, c2, e2⟩ := shI ht.k
  obtain ⟨A3, c3, e3⟩ := shF ht.f
  obtain ⟨A4, c4, e4, _⟩ := ht.x.slice
  obtain ⟨Ah, ch, eh, hhl, _⟩ := id hh
  subst e1 e2 e3 e4 eh
  obtain ⟨HT, HR, HB⟩ := bx2 w 27 #[.string nm, .slice A1 cs.length c1, .slice A2 zs.length c2, .slice A3 fs.length c3, .slice A4 es.length c4] 27 #[.string ⟨#[]⟩, .slice none 0 0, .slice none 0 0, .slice none 0 0, .slice none 0 0]
  obtain ⟨d0, d1, d2, d3, d4⟩ := Own.five HT.out
  clear hcl ht hh hg hs0 hm hlen
  generalize hR : chkA nm.data.toList cs zs fs d es = R at *
  have HRR := Lib.hid hR
  clear hR
  go_enter Try.func6, Try.ntmps6
  go_wp2_with fail
  with_reducible refine (H1.out _ HB.out).mono ?_
  rintro e w2 ⟨rfl, hb⟩
  replace HT := blw HT hb
  replace HR := blw HR hb
  replace HB := btr HB hb
  clear hb d0 d1 d2 d3 d4 H1
  by_cases hr : R = 0
  rotate_left
  · have hrn : (R != 0) = true := by simp [hr]
    have HN := Lib.hid hr
    obtain ⟨r0, r1, r2, r3, r4, m0, m1, m2, m3, m4⟩ := om5 HR
    have HXR := Lib.hid (own_store5 (.string ⟨#[]⟩) (.slice none 0 0) (.slice none 0 0) (.slice none 0 0) (.slice none 0 0) HR.out)
    have HF := Lib.hid ((((((HB.out.sc (w.heap.size + 1) 0 (.string ⟨#[]⟩) (by omega)).sc (w.heap.size + 1) 1 (.slice none 0 0) (by omega)).sc (w.heap.size + 1) 2 (.slice none 0 0) (by omega)).sc (w.heap.size + 1) 3 (.slice none 0 0) (by omega)).sc (w.heap.size + 1) 4 (.slice none 0 0) (by omega)))
    clear hr
    go_wp2
    (try simp only [Exit.inBlock, Exit.then]); refine bodyPost_ret_by (results_cell_row3 (by rfl) _ _ (w.heap.size + 1) _ (by rfl) (load_tabF HXR.out)) ?_ ?_; (focus rfl)
    exact RetRun.bad HRR.out HN.out HF.out
  subst hr
  obtain ⟨d0, d1, d2, d3, d4⟩ := Own.five HT.out
  have tm := fun i => HT.out.free i
  have tm0 := tm 0; have tm1 := tm 1; have tm2 := tm 2; have tm3 := tm 3; have tm4 := tm 4
  clear tm
  go_wp2_with fail
  refine (H2.out (by trivial) _ HB.out).mono ?_
  rintro e w3 ⟨v1, v2, v3, v4, qs, ps, rfl, hqs, hps, hoX, hb⟩
  have ho := hoX (fun b => b < w.heap.size + 2) (fun b (h : b < w.heap.size + 2) => by have := HR.out.lt; omega)
  obtain ⟨A5, c5, e5⟩ := own_len ho.c
  obtain ⟨A6, c6, e6⟩ := own_len ho.k
  obtain ⟨A7, c7, e7⟩ := own_len ho.f
  obtain ⟨A8, c8, e8⟩ := own_len ho.x
  subst e5 e6 e7 e8
  have hTl : w.heap.size < w2.heap.size := HT.out.lt
  have hRl : w.heap.size + 1 < w2.heap.size := HR.out.lt
  have hnT : ¬ Mine _ _ _ _ qs w.heap.size := fun hm => by have := ho.mine_ge _ hm; omega
  have HT3 := Lib.hid (own_store5 (.string nm) (.slice A5 cs.length c5) (.slice A6 zs.length c6) (.slice A7 qs.length c7) (.slice A8 ps.length c8) (HT.out.below hb HT.out.lt))
  have HR3 := Lib.hid ((((((HR.out.below hb HR.out.lt).fr (w.heap.size) 0 (.string nm) (by omega)).fr (w.heap.size) 1 (.slice A5 cs.length c5) (by omega)).fr (w.heap.size) 2 (.slice A6 zs.length c6) (by omega)).fr (w.heap.size) 3 (.slice A7 qs.length c7) (by omega)).fr (w.heap.size) 4 (.slice A8 ps.length c8) (by omega))
  have HO3 := Lib.hid (OwT.setX (OwT.setX (OwT.setX (OwT.setX (OwT.setX ho (p := ⟨w.heap.size, 0, none⟩) (by show w.heap.size < w.heap.size + 2; omega) hnT (.string nm)) (p := ⟨w.heap.size, 1, none⟩) (by show w.heap.size < w.heap.size + 2; omega) hnT (.slice A5 cs.length c5)) (p := ⟨w.heap.size, 2, none⟩) (by show w.heap.size < w.heap.size + 2; omega) hnT (.slice A6 zs.length c6)) (p := ⟨w.heap.size, 3, none⟩) (by show w.heap.size < w.heap.size + 2; omega) hnT (.slice A7 qs.length c7)) (p := ⟨w.heap.size, 4, none⟩) (by show w.heap.size < w.heap.size + 2; omega) hnT (.slice A8 ps.length c8))
  have HB3 := Lib.hid ((((((HB.out.trans (hb.mono HB.out.size)).sc (w.heap.size) 0 (.string nm) (Nat.le_refl _)).sc (w.heap.size) 1 (.slice A5 cs.length c5) (Nat.le_refl _)).sc (w.heap.size) 2 (.slice A6 zs.length c6) (Nat.le_refl _)).sc (w.heap.size) 3 (.slice A7 qs.length c7) (Nat.le_refl _)).sc (w.heap.size) 4 (.slice A8 ps.length c8) (Nat.le_refl _))
  have hN3 : w2.heap.size ≤ ((((((w3.setCell ⟨w.heap.size, 0, none⟩ (.string nm)).setCell ⟨w.heap.size, 1, none⟩ (.slice A5 cs.length c5)).setCell ⟨w.heap.size, 2, none⟩ (.slice A6 zs.length c6)).setCell ⟨w.heap.size, 3, none⟩ (.slice A7 qs.length c7)).setCell ⟨w.heap.size, 4, none⟩ (.slice A8 ps.length c8))).heap.size := by simp only [World.size_setCell]; exact hb.size
  have HQS := Lib.hid hqs
  have HPS := Lib.hid hps
  have h3T := blw HT hb
  clear hqs hps hoX ho hnT H2 d0 d1 d2 d3 d4 tm0 tm1 tm2 tm3 tm4
  have tm := fun i => h3T.out.free i
  obtain ⟨d0, d1, d2, d3, d4⟩ := Own.five h3T.out
  have tm0 := tm 0; have tm1 := tm 1; have tm2 := tm 2; have tm3 := tm 3; have tm4 := tm 4
  clear tm h3T hb
  go_upto_region 6 with fail
  generalize (((((w3.setCell ⟨w.heap.size, 0, none⟩ (.string nm)).setCell ⟨w.heap.size, 1, none⟩ (.slice A5 cs.length c5)).setCell ⟨w.heap.size, 2, none⟩ (.slice A6 zs.length c6)).setCell ⟨w.heap.size, 3, none⟩ (.slice A7 qs.length c7)).setCell ⟨w.heap.size, 4, none⟩ (.slice A8 ps.length c8)) = W3 at *
  clear d0 d1 d2 d3 d4 tm0 tm1 tm2 tm3 tm4 HT HR
  generalize w2.heap.size = N at *
  go_loopw [21] (fun x wr => ∃ (k : Nat) (S : Tb) (A : Option Addr) (c : Nat) (rs : List FkU) (rp : List ExU), k ≤ hs.length ∧ x = .int .i64 k ∧ Hid (stAt ⟨cs, zs, fs, d + 1, es⟩ hs k = some S) ∧ Hid (rs.map (·.1) = S.fs) ∧ Hid (rp.map (·.1) = S.es) ∧ Hid (OwT N (fun b => b < w.heap.size + 2) wr (.slice A S.cs.length c) (.slice A6 zs.length c6) (.slice A7 qs.length c7) (.slice A8 ps.length c8) S.cs S.zs rs S.d rp) ∧ Hid (Own wr w.heap.size 27 #[.string nm, .slice A S.cs.length c, .slice A6 zs.length c6, .slice A7 qs.length c7, .slice A8 ps.length c8]) ∧ Hid (Own wr (w.heap.size + 1) 27 #[.string ⟨#[]⟩, .slice none 0 0, .slice none 0 0, .slice none 0 0, .slice none 0 0]) ∧ Hid (N ≤ wr.heap.size) ∧ Below w.heap.size w wr) (fun x _ => hs.length - (intOf x).toNat)
  case atStart => exact ⟨0, ⟨cs, zs, fs, d + 1, es⟩, A5, c5, qs, ps, Nat.zero_le _, rfl, Lib.hid (stAt_zero _ _), HQS, HPS, HO3, HT3, HR3, Lib.hid hN3, HB3.out⟩
  case round =>
    clear HO3 HT3 HR3 HB3 HQS HPS hN3
    obtain ⟨k, S, A, c, rs, rp, hk, rfl, HST, HQ, HP, HO, HT, HR, HN, hbr⟩ := hrel
    by_cases hlt : k < hs.length
    · have hki : (k : Int) < hs.length := by omega
      have hgd := HG.out (by trivial) k S hlt HST.out
      obtain ⟨Ax, cx, ev, _, hcc⟩ := HH.out.below hbr
      injection ev with e1 e2 e3
      subst e1 e3
      have hke := List.getElem?_eq_getElem hlt
      obtain ⟨ad, hA, _, hab, q0, q1, q2, q3, q4, q5, q6, q7, q8⟩ := hcc k _ hke
      subst hA
      have HKE := Lib.hid hke
      generalize hs[k] = h at *
      obtain ⟨hk', s1, s2, ⟨s3, ck, cb⟩, ⟨p1, p2, p3⟩⟩ := h
      dsimp only at q0 q1 q2 q3 q4 q5 q6 q7 q8
      have bV := bel_mk wr (.cells #[.int .i64 hk', .string s1, .string s2, .string s3, .int .i64 ck, .bool cb, .int .i64 p1, .int .i64 p2, .string p3] 40)
      have hl3 : rs.length ≤ 4 := by have h := congrArg List.length HQ.out; rw [List.length_map] at h; have := hgd.s.lf; omega
      have hl4 : rp.length ≤ 4 := by have h := congrArg List.length HP.out; rw [List.length_map] at h; have := hgd.s.le; omega
      have hl5 : ∀ q ∈ rs, q.1.1.length ≤ 1099511627776 := fun q hq => hgd.s.lf1 _ (by rw [← HQ.out]; exact List.mem_map_of_mem hq)
      have hf5 : ∀ q ∈ rs, ∀ z ∈ q.1.1, 0 ≤ z ∧ z ≤ 9223372036854775807 := fun q hq => hgd.f _ (by rw [← HQ.out]; exact List.mem_map_of_mem hq)
      have HOV := Lib.hid (HO.out.later bV)
      have hrd := HOV.out.rd (by have := hgd.c; omega) hgd.s.lk (by omega) (by omega) hl5
      rw [HQ.out, HP.out] at hrd
      have HBV := Lib.hid (hbr.trans (bV.mono hbr.size))
      have HCK := Lib.hid (checkChange_any (.string nm) (.slice A S.cs.length c) (.slice A6 zs.length c6) (.slice A7 qs.length c7) (.slice A8 ps.length c8) S.cs S.zs S.fs S.d S.es ⟨hk', s1, s2, (s3, ck, cb), (p1, p2, p3)⟩ m _ 0 (HCL.out _ HBV.out) hrd hgd.s)
      have hne := fun (he : errT S ⟨hk', s1, s2, (s3, ck, cb), (p1, p2, p3)⟩ = 0) => (chg_ok he)
      have hnx := fun (he : errT S ⟨hk', s1, s2, (s3, ck, cb), (p1, p2, p3)⟩ = 0) => stAt_next hs ⟨cs, zs, fs, d + 1, es⟩ k S _ HST.out HKE.out he
      have HCG := Lib.hid (fun (he : errT S ⟨hk', s1, s2, (s3, ck, cb), (p1, p2, p3)⟩ = 0) (W : World) (hb : Below wr.heap.size wr W) => change_any nm (.slice A S.cs.length c) (.slice A6 zs.length c6) (.slice A7 qs.length c7) (.slice A8 ps.length c8) S.cs S.zs rs S.d rp ⟨hk', s1, s2, (s3, ck, cb), (p1, p2, p3)⟩ N (fun b => b < w.heap.size + 2) W (Nat.le_trans HN.out hb.size) (fun b (h : b < w.heap.size + 2) => by have h1 := HT.out.lt; have h2 := HR.out.lt; have h3 := hb.size; omega) (HO.out.later hb) hgd.s.hn (hne he).1 (hne he).2 hgd.c hgd.s.lk (by omega) (by omega) hl5 hgd.z hf5)
      change Hid (Calls _ _ _ _ fun e w' => e = .returned (.int .i64 (errT S ⟨hk', s1, s2, (s3, ck, cb), (p1, p2, p3)⟩)) ∧ _) at HCK
      have HTV := Lib.hid (HT.out.alloc (.cells #[.int .i64 hk', .string s1, .string s2, .string s3, .int .i64 ck, .bool cb, .int .i64 p1, .int .i64 p2, .string p3] 40))
      have HRV := Lib.hid (HR.out.alloc (.cells #[.int .i64 hk', .string s1, .string s2, .string s3, .int .i64 ck, .bool cb, .int .i64 p1, .int .i64 p2, .string p3] 40))
      have HCV := Lib.hid (Own.new wr 40 #[.int .i64 hk', .string s1, .string s2, .string s3, .int .i64 ck, .bool cb, .int .i64 p1, .int .i64 p2, .string p3])
      have HNX := Lib.hid hnx
      generalize hE : errT S ⟨hk', s1, s2, (s3, ck, cb), (p1, p2, p3)⟩ = E at *
      have HEE := Lib.hid hE
      have HBW := Lib.hid bV
      unfold chV chA at *
      dsimp only at *
      clear hcc hke hgd hrd hne hnx hl3 hl4 hl5 hf5 hE bV
      obtain ⟨d0, d1, d2, d3, d4⟩ := Own.five HTV.out
      obtain ⟨x0, x1, x2, x3, x4, x5, x6, x7, x8⟩ := oc9 HCV
      go_wp2_with fail
      with_reducible refine HCK.out.mono ?_
      rintro e w5 ⟨rfl, hb5⟩
      have HT5 := blw HTV hb5
      have HR5 := blw HRV hb5
      have HC5 := blw HCV hb5
      have HB5 := Lib.hid (HBV.out.trans (hb5.mono HBV.out.size))
      have HW5 := Lib.hid (HBW.out.trans (hb5.mono HBW.out.size))
      clear hb5 HCK HTV HRV HCV d0 d1 d2 d3 d4 x0 x1 x2 x3 x4 x5 x6 x7 x8 q0 q1 q2 q3 q4 q5 q6 q7 q8
      by_cases he : E = 0
      rotate_left
      · have hrn : (E != 0) = true := by simp [he]
        have HNE := Lib.hid he
        obtain ⟨r0, r1, r2, r3, r4, m0, m1, m2, m3, m4⟩ := om5 HR5
        have HXR := Lib.hid (own_store5 (.string ⟨#[]⟩) (.slice none 0 0) (.slice none 0 0) (.slice none 0 0) (.slice none 0 0) HR5.out)
        have HF := Lib.hid ((((((HB5.out.sc (w.heap.size + 1) 0 (.string ⟨#[]⟩) (by omega)).sc (w.heap.size + 1) 1 (.slice none 0 0) (by omega)).sc (w.heap.size + 1) 2 (.slice none 0 0) (by omega)).sc (w.heap.size + 1) 3 (.slice none 0 0) (by omega)).sc (w.heap.size + 1) 4 (.slice none 0 0) (by omega)))
        clear he
        go_wp2
        (try simp only [Exit.inBlock, Exit.then]); refine bodyPost_ret_by (results_cell_row3 (by rfl) _ _ (w.heap.size + 1) _ (by rfl) (load_tabF HXR.out)) ?_ ?_; (focus rfl)
        exact RetRun.err HRR.out HST.out HKE.out HEE.out HNE.out HF.out
      subst he
      obtain ⟨d0, d1, d2, d3, d4⟩ := Own.five HT5.out
      obtain ⟨x0, x1, x2, x3, x4, x5, x6, x7, x8⟩ := oc9 HC5
      go_wp2_with fail
      refine (HCG.out (by trivial) _ HW5.out).mono ?_
      rintro e w6 ⟨v9, rs9, rp9, rfl, hq9, hp9, ho9, hf9⟩
      obtain ⟨S2, hS2⟩ : ∃ x, x = stepT S ⟨hk', s1, s2, (s3, ck, cb), (p1, p2, p3)⟩ := ⟨_, rfl⟩
      have HST2 := Lib.hid (show stAt ⟨cs, zs, fs, d + 1, es⟩ hs (k + 1) = some S2 from by rw [hS2]; exact HNX.out (by trivial))
      have HQ2 := Lib.hid (show rs9.map (·.1) = S2.fs from by rw [hS2, hq9, HQ.out]; rfl)
      have HP2 := Lib.hid (show rp9.map (·.1) = S2.es from by rw [hS2, hp9, HP.out]; rfl)
      have ho6 : OwT N (fun b => b < w.heap.size + 2) w6 v9 (.slice A6 zs.length c6) (.slice A7 qs.length c7) (.slice A8 ps.length c8) S2.cs S2.zs rs9 S2.d rp9 := by rw [hS2]; exact ho9
      have hb6 := hf9.below (fun b hm => HO.out.mine_ge b hm) (Nat.le_trans HN.out HW5.out.size)
      obtain ⟨A9, c9, e9⟩ := own_len ho6.c
      subst e9
      have hT6 := HT5.out.below hb6 hTl
      have hR6 := HR5.out.below hb6 hRl
      have hnT : ¬ Mine (.slice A9 S2.cs.length c9) (.slice A6 zs.length c6) (.slice A7 qs.length c7) (.slice A8 ps.length c8) rs9 w.heap.size := fun hm => by have := ho6.mine_ge _ hm; omega
      have HT7 := Lib.hid (own_store5 (.string nm) (.slice A9 S2.cs.length c9) (.slice A6 zs.length c6) (.slice A7 qs.length c7) (.slice A8 ps.length c8) hT6)
      have HR7 := Lib.hid (((((hR6.fr (w.heap.size) 0 (.string nm) (by omega)).fr (w.heap.size) 1 (.slice A9 S2.cs.length c9) (by omega)).fr (w.heap.size) 2 (.slice A6 zs.length c6) (by omega)).fr (w.heap.size) 3 (.slice A7 qs.length c7) (by omega)).fr (w.heap.size) 4 (.slice A8 ps.length c8) (by omega))
      have HO7 := Lib.hid (OwT.setX (OwT.setX (OwT.setX (OwT.setX (OwT.setX ho6 (p := ⟨w.heap.size, 0, none⟩) (by show w.heap.size < w.heap.size + 2; omega) hnT (.string nm)) (p := ⟨w.heap.size, 1, none⟩) (by show w.heap.size < w.heap.size + 2; omega) hnT (.slice A9 S2.cs.length c9)) (p := ⟨w.heap.size, 2, none⟩) (by show w.heap.size < w.heap.size + 2; omega) hnT (.slice A6 zs.length c6)) (p := ⟨w.heap.size, 3, none⟩) (by show w.heap.size < w.heap.size + 2; omega) hnT (.slice A7 qs.length c7)) (p := ⟨w.heap.size, 4, none⟩) (by show w.heap.size < w.heap.size + 2; omega) hnT (.slice A8 ps.length c8))
      have HB7 := Lib.hid ((((((HB5.out.trans (hb6.mono (by omega))).sc (w.heap.size) 0 (.string nm) (Nat.le_refl _)).sc (w.heap.size) 1 (.slice A9 S2.cs.length c9) (Nat.le_refl _)).sc (w.heap.size) 2 (.slice A6 zs.length c6) (Nat.le_refl _)).sc (w.heap.size) 3 (.slice A7 qs.length c7) (Nat.le_refl _)).sc (w.heap.size) 4 (.slice A8 ps.length c8) (Nat.le_refl _))
      have HN7 := Lib.hid (show N ≤ ((((((w6.setCell ⟨w.heap.size, 0, none⟩ (.string nm)).setCell ⟨w.heap.size, 1, none⟩ (.slice A9 S2.cs.length c9)).setCell ⟨w.heap.size, 2, none⟩ (.slice A6 zs.length c6)).setCell ⟨w.heap.size, 3, none⟩ (.slice A7 qs.length c7)).setCell ⟨w.heap.size, 4, none⟩ (.slice A8 ps.length c8))).heap.size by simp only [World.size_setCell]; exact Nat.le_trans (Nat.le_trans HN.out HW5.out.size) hb6.size)
      have tm := fun i => hT6.free i
      clear d0 d1 d2 d3 d4 x0 x1 x2 x3 x4 x5 x6 x7 x8
      obtain ⟨d0, d1, d2, d3, d4⟩ := Own.five hT6
      have tm0 := tm 0; have tm1 := tm 1; have tm2 := tm 2; have tm3 := tm 3; have tm4 := tm 4
      clear tm hq9 hp9 ho9 hf9 hS2 ho6 hb6 hT6 hR6 hnT HCG HNX HT HR HO HT5 HR5 HC5
      go_wp2
      go_roundw
      case rel => exact ⟨k + 1, S2, A9, c9, rs9, rp9, by omega, by go_num, HST2, HQ2, HP2, HO7, HT7, HR7, HN7, HB7.out⟩
      case measure => simp [intOf]; omega
    · have hki : ¬ (k : Int) < hs.length := by omega
      have hke : k = hs.length := by omega
      have HSF := Lib.hid (show stAt ⟨cs, zs, fs, d + 1, es⟩ hs hs.length = some S from by rw [← hke]; exact HST.out)
      have hnR : ¬ Mine (.slice A S.cs.length c) (.slice A6 zs.length c6) (.slice A7 qs.length c7) (.slice A8 ps.length c8) rs (w.heap.size + 1) := fun hm => by have := HO.out.mine_ge _ hm; omega
      have hX := HO.out
      have HOF := Lib.hid (OwT.withX (X' := fun b => b < w.heap.size) (OwT.setX (OwT.setX (OwT.setX (OwT.setX (OwT.setX hX (p := ⟨w.heap.size + 1, 0, none⟩) (by show w.heap.size + 1 < w.heap.size + 2; omega) hnR (.string nm)) (p := ⟨w.heap.size + 1, 1, none⟩) (by show w.heap.size + 1 < w.heap.size + 2; omega) hnR (.slice A S.cs.length c)) (p := ⟨w.heap.size + 1, 2, none⟩) (by show w.heap.size + 1 < w.heap.size + 2; omega) hnR (.slice A6 zs.length c6)) (p := ⟨w.heap.size + 1, 3, none⟩) (by show w.heap.size + 1 < w.heap.size + 2; omega) hnR (.slice A7 qs.length c7)) (p := ⟨w.heap.size + 1, 4, none⟩) (by show w.heap.size + 1 < w.heap.size + 2; omega) hnR (.slice A8 ps.length c8)) (fun b _ (h : b < w.heap.size) => show b < w.heap.size + 2 by omega))
      have HXR := Lib.hid (own_store5 (.string nm) (.slice A S.cs.length c) (.slice A6 zs.length c6) (.slice A7 qs.length c7) (.slice A8 ps.length c8) HR.out)
      have HF := Lib.hid (((((hbr.sc (w.heap.size + 1) 0 (.string nm) (by omega)).sc (w.heap.size + 1) 1 (.slice A S.cs.length c) (by omega)).sc (w.heap.size + 1) 2 (.slice A6 zs.length c6) (by omega)).sc (w.heap.size + 1) 3 (.slice A7 qs.length c7) (by omega)).sc (w.heap.size + 1) 4 (.slice A8 ps.length c8) (by omega))
      clear hX hnR hke hlt
      obtain ⟨d0, d1, d2, d3, d4⟩ := Own.five HT.out
      obtain ⟨r0, r1, r2, r3, r4, m0, m1, m2, m3, m4⟩ := om5 HR
      have hNw : w.heap.size ≤ N := by omega
      go_wp2
      (try simp only [Exit.inBlock, Exit.then]); refine bodyPost_ret_by (results_cell_row3 (by rfl) _ _ (w.heap.size + 1) _ (by rfl) (load_tabF HXR.out)) ?_ ?_; (focus rfl)
      exact RetRun.fin HRR.out HSF.out hNw HOF.out HQ.out HP.out HF.out
end Go.Proofs.Yteihjneeiojgaaa
