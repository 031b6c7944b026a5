/-
  Contracts of the reference's pointwise combinations. Conditions: at most 100000 steps each.
-/
import Derived.Test.YtbdioabeopnfeaaInT
import Derived.WalkKit
import Derived.WalkSpells
import Derived.WalkLawsBesides
import Derived.Deep.QuietTactic
import Derived.BigQuiet
import Derived.Handy
import Derived.Lib.Hide
namespace Go.Proofs.Ytbdioabeopnfeaa
open Go.RowKit

def opV (kd x y : Int) : Int := if kd = 1 then IntKind.i64.wrap (x + y) else if kd = 2 then IntKind.i64.wrap (x - y) else if kd = 3 then min x y else max x y
theorem wrap64_eq (n : Int) : wrap64 n = IntKind.i64.wrap n := by rw [IntKind.wrap_i64]; unfold wrap64; omega
set_option maxHeartbeats 800000 in
theorem value_any (kd x y : Int) (hk : kd = 1 ∨ kd = 2 ∨ kd = 3 ∨ kd = 4) (w : World) :
    Calls Try.prog 77 #[.int .i64 kd, .int .i64 x, .int .i64 y] w fun e w' => e = .returned (.int .i64 (opV kd x y)) ∧ Below w.heap.size w w' := by
  rcases hk with rfl | rfl | rfl | rfl
  · go_enter Try.func77, Try.ntmps77
    go_wp2
    go_ret
    refine ⟨?_, Below.refl _ _⟩
    show Ending.returned (.int .i64 (wrap64 (x + y))) = _
    rw [wrap64_eq]
    rfl
  · go_enter Try.func77, Try.ntmps77
    go_wp2
    go_ret
    refine ⟨?_, Below.refl _ _⟩
    show Ending.returned (.int .i64 (wrap64 (x - y))) = _
    rw [wrap64_eq]
    rfl
  · by_cases h : x ≤ y
    · rw [show opV 3 x y = x by unfold opV; simp; omega]
      go_enter Try.func77, Try.ntmps77
      go_wp2
      go_ret
      exact ⟨rfl, Below.refl _ _⟩
    · rw [show opV 3 x y = y by unfold opV; simp; omega]
      go_enter Try.func77, Try.ntmps77
      go_wp2
      go_ret
      exact ⟨rfl, Below.refl _ _⟩
  · by_cases h : y ≤ x
    · rw [show opV 4 x y = x by unfold opV; simp; omega]
      go_enter Try.func77, Try.ntmps77
      go_wp2
      go_ret
      exact ⟨rfl, Below.refl _ _⟩
    · rw [show opV 4 x y = y by unfold opV; simp; omega]
      go_enter Try.func77, Try.ntmps77
      go_wp2
      go_ret
      exact ⟨rfl, Below.refl _ _⟩
def insAll (acc : List Int) (l : List (Int × Int)) : List Int := l.foldl (fun p s => insI s.1 p) acc
theorem insAll_step {acc : List Int} {l : List (Int × Int)} {k : Nat} {p : Int × Int} (h : l[k]? = some p) : insAll acc (l.take (k + 1)) = insI p.1 (insAll acc (l.take k)) := by
  rw [take_snocP h]; unfold insAll; rw [List.foldl_append]; rfl
theorem insAll_len (acc : List Int) : ∀ l : List (Int × Int), (insAll acc l).length ≤ acc.length + l.length := by
  intro l
  induction l generalizing acc with
  | nil => simp [insAll]
  | cons p l ih =>
    have h1 := ih (insI p.1 acc)
    have h2 := insI_len p.1 acc
    show (insAll (insI p.1 acc) l).length ≤ _
    simp only [List.length_cons]
    omega
/-- The points of two lists, ascending, each once. -/
def ptsS (a b : List (Int × Int)) : List Int := insAll (insAll [] a) b

set_option maxRecDepth 100000 in
set_option maxHeartbeats 6400000 in
theorem combined_any (kd : Int) (hk : kd = 1 ∨ kd = 2 ∨ kd = 3 ∨ kd = 4) (u v : Value) (a b : List (Int × Int)) (w : World) (L L' : Nat) (hu : RdP w L w.heap.size u a) (hv : RdP w L' w.heap.size v b) (ha : a.length ≤ 100000) (hb : b.length ≤ 100000) :
    Calls Try.prog 58 #[.int .i64 kd, u, v] w (RetPers w (nrmV (fun t => opV kd (atV a t) (atV b t)) (ptsS a b))) := by
  have HU := Lib.hid hu
  have HV := Lib.hid hv
  obtain ⟨A, c, rfl, hla, _⟩ := hu
  obtain ⟨A2, c2, rfl, hlb, _⟩ := hv
  have HVal := Lib.hid (fun x y w => value_any kd x y hk w)
  generalize hf : (fun t => opV kd (atV a t) (atV b t)) = f
  have HF : Hid (∀ t, f t = opV kd (atV a t) (atV b t)) := Lib.hid (fun t => by rw [← hf])
  clear hf hk
  go_enter Try.func58, Try.ntmps58
  go_wp2
  go_loopw [7, 8] (fun p i wr => ∃ k : Nat, k ≤ a.length ∧ i = .int .i64 k ∧ Hid (RdI wr w.heap.size wr.heap.size p (insAll [] (a.take k))) ∧ Below w.heap.size w wr) (fun _ i _ => a.length - (intOf i).toNat)
  case atStart => exact ⟨0, by omega, rfl, Lib.hid ⟨none, 0, rfl, by simp [insAll], by intro k n h; simp [insAll] at h⟩, Below.refl _ _⟩
  case round =>
    obtain ⟨k, hk, rfl, hP, hbr⟩ := hrel
    have hbz := hbr.size
    by_cases hlt : k < a.length
    · have hx := List.getElem?_eq_getElem hlt
      generalize a[k] = s at hx
      obtain ⟨x, y⟩ := s
      obtain ⟨ad, rfl, _, hab, c0, c1⟩ := (HU.out.below hbr).at hx
      dsimp only at c0 c1
      have hS := Lib.hid (insAll_step (acc := []) hx)
      have hle := insAll_len [] (a.take k)
      rw [List.length_take] at hle
      have i2 : (0 : Int) ≤ (k : Int) := by omega
      have i3 : (k : Int) < (a.length : Int) := by omega
      clear hx
      generalize insAll [] (a.take k) = PL at *
      have hlen : PL.length ≤ 1000000 := by (try simp at hle); omega
      go_wp2_with fail
      refine (insert_any _ PL x _ _ hP.out hlen).mono ?_
      rintro e w2 ⟨v2, rfl, hr2, hb2⟩
      have HR2 := Lib.hid (hr2.more (Nat.le_refl _) hbz)
      clear hr2
      go_wp2
      go_roundw
      case rel => exact ⟨k + 1, by omega, by go_num, Lib.hid (by rw [hS.out]; exact HR2.out), hbr.trans (hb2.mono hbz)⟩
      case measure => simp [intOf]; omega
    · have hT : a.take k = a := List.take_of_length_le (by omega)
      have hd : ¬ (k : Int) < a.length := by omega
      rw [hT] at hP
      clear hT
      have hPA : (insAll [] a).length ≤ 100000 := by have := insAll_len [] a; simp at this; omega
      have hPP : ptsS a b = insAll (insAll [] a) b := rfl
      generalize insAll [] a = PA at *
      clear hk
      go_wp2
      go_loopw [7, 9] (fun p i wx => ∃ k : Nat, k ≤ b.length ∧ i = .int .i64 k ∧ Hid (RdI wx w.heap.size wx.heap.size p (insAll PA (b.take k))) ∧ Below w.heap.size w wx) (fun _ i _ => b.length - (intOf i).toNat)
      case atStart => exact ⟨0, by omega, rfl, hP, hbr⟩
      case round =>
        clear hP hbr hbz
        obtain ⟨k, hk, rfl, hP, hbr⟩ := hrel
        have hbz := hbr.size
        by_cases hlt : k < b.length
        · have hx := List.getElem?_eq_getElem hlt
          generalize b[k] = s at hx
          obtain ⟨x, y⟩ := s
          obtain ⟨ad2, rfl, _, hab, c0, c1⟩ := (HV.out.below hbr).at hx
          dsimp only at c0 c1
          have hS := Lib.hid (insAll_step (acc := PA) hx)
          have hle := insAll_len PA (b.take k)
          rw [List.length_take] at hle
          have i2 : (0 : Int) ≤ (k : Int) := by omega
          have i3 : (k : Int) < (b.length : Int) := by omega
          clear hx
          generalize insAll PA (b.take k) = PL at *
          have hlen : PL.length ≤ 1000000 := by (try simp at hle); omega
          go_wp2_with fail
          refine (insert_any _ PL x _ _ hP.out hlen).mono ?_
          rintro e w2 ⟨v2, rfl, hr2, hb2⟩
          have HR2 := Lib.hid (hr2.more (Nat.le_refl _) hbz)
          clear hr2
          go_wp2
          go_roundw
          case rel => exact ⟨k + 1, by omega, by go_num, Lib.hid (by rw [hS.out]; exact HR2.out), hbr.trans (hb2.mono hbz)⟩
          case measure => simp [intOf]; omega
        · have hT : b.take k = b := List.take_of_length_le (by omega)
          have hd : ¬ (k : Int) < b.length := by omega
          rw [hT, ← hPP] at hP
          have hPL : (ptsS a b).length ≤ 200000 := by rw [hPP]; have := insAll_len PA b; omega
          clear hT hPP hPA
          generalize ptsS a b = P at *
          have hP0 := hP.out
          obtain ⟨A3, c3, rfl, hl3, _⟩ := hP0
          have B1 := hbr
          clear hk hbr
          generalize wr = W at *
          have zW := B1.size
          go_wp2
          go_loopw [10, 11] (fun o i wx => ∃ k : Nat, k ≤ P.length ∧ i = .int .i64 k ∧ wx.ownsRow W.heap.size 48 2 o (nrmV f (P.take k)).length (flatP (nrmV f (P.take k))) ∧ Below W.heap.size W wx) (fun _ i _ => P.length - (intOf i).toNat)
          case atStart => exact ⟨0, by omega, rfl, own_nilT _ _, Below.refl _ _⟩
          case round =>
            obtain ⟨k, hk, rfl, hown, hbr⟩ := hrel
            have hbz := hbr.size
            have HO := Lib.hid hown
            clear hown
            have hnl := nrmV_len f (P.take k)
            rw [List.length_take] at hnl
            by_cases hlt : k < P.length
            · have hx := List.getElem?_eq_getElem hlt
              generalize P[k] = x at hx
              obtain ⟨ad3, rfl, _, hab, c0⟩ := (hP.out.below hbr).at hx
              have hS : Hid (nrmV f (P.take (k + 1)) = putL (nrmV f (P.take k)) x (f x)) := Lib.hid (by
                rw [take_snoc_I hx]
                by_cases hk0 : P.take k = []
                · rw [hk0]; exact putL_one f x
                · exact putL_nrm f hk0 x)
              have i2 : (0 : Int) ≤ (k : Int) := by omega
              have i3 : (k : Int) < (P.length : Int) := by omega
              have HBw : Hid (∀ w' : World, Below W.heap.size wr w' → Below w.heap.size w w') := Lib.hid (fun w' hb => B1.trans ((hbr.trans hb).mono zW))
              have HAa : Hid (∀ w' : World, Below W.heap.size wr w' → Calls Try.prog 15 #[.slice A a.length c, .int .i64 x] w' fun e w'' => e = .returned (.int .i64 (atV a x)) ∧ Below w'.heap.size w' w'') := Lib.hid (fun w' hb => rStAt_any _ a x w' _ (HU.out.step (HBw.out w' hb) (Nat.le_refl _)))
              have HAb : Hid (∀ w' : World, Below W.heap.size wr w' → Calls Try.prog 15 #[.slice A2 b.length c2, .int .i64 x] w' fun e w'' => e = .returned (.int .i64 (atV b x)) ∧ Below w'.heap.size w' w'') := Lib.hid (fun w' hb => rStAt_any _ b x w' _ (HV.out.step (HBw.out w' hb) (Nat.le_refl _)))
              have hfx := HF.out x
              generalize atV a x = xa at *
              generalize atV b x = xb at *
              have HVx := Lib.hid (fun w => HVal.out xa xb w)
              rw [← hfx] at HVx
              clear hx HBw
              generalize nrmV f (P.take k) = OL at *
              generalize f x = fx at *
              have hol : OL.length ≤ 1000000 := by omega
              have HS : Hid (∀ w' : World, Below W.heap.size wr w' → Below W.heap.size wr w' ∧ w'.cell? (ad3.add k) = some (.int .i64 x)) := Lib.hid (fun w' hb => ⟨hb, (hb.cell (p := ad3.add k) (by rw [add_block]; omega)).trans c0⟩)
              clear c0 hfx
              go_wp2
              go_region_held3 (fun w' => Below W.heap.size wr w' ∧ w'.cell? (ad3.add k) = some (.int .i64 x))
                (first | exact HS.out _ (by (repeat' (first | (with_reducible exact Below.refl _ _) | (with_reducible assumption) | (with_reducible refine Below.alloc ?_ ?_ _) | (with_reducible refine Below.drew ?_) | (with_reducible refine Below.setCell ?_ ?_ _) | (with_reducible refine Below.trans ?_ (Below.mono (by assumption) ?_)) | go_size))))
                (first
                  | (go_at_call 15; (first | with_reducible refine (HAa.out _ ?_).mono ?_ | with_reducible refine (HAb.out _ ?_).mono ?_); (focus (repeat' (first | (with_reducible exact Below.refl _ _) | (with_reducible assumption) | (with_reducible refine Below.alloc ?_ ?_ _) | (with_reducible refine Below.drew ?_) | (with_reducible refine Below.setCell ?_ ?_ _) | (with_reducible refine Below.trans ?_ (Below.mono (by assumption) ?_)) | go_size))); rintro e w2 ⟨rfl, hb2⟩; have hz2 := hb2.size; (try simp only [World.size_drew] at hz2))
                  | (go_at_call 77; refine (HVx.out _).mono ?_; rintro e w3 ⟨rfl, hb3⟩; have hz3 := hb3.size; (try simp only [World.size_drew] at hz3))
                  | (go_at_call 55; refine (put_any _ OL x fx _ W.heap.size (own_below HO.out ?_) ?_ hol).mono ?_; (focus (repeat' (first | (with_reducible exact Below.refl _ _) | (with_reducible assumption) | (with_reducible refine Below.alloc ?_ ?_ _) | (with_reducible refine Below.drew ?_) | (with_reducible refine Below.setCell ?_ ?_ _) | (with_reducible refine Below.trans ?_ (Below.mono (by assumption) ?_)) | go_size))); (focus go_size); rintro e w5 ⟨v5, rfl, hown5, hb5⟩))
              have hb6 : Below W.heap.size wr w5 := (by (repeat' (first | (with_reducible exact Below.refl _ _) | (with_reducible assumption) | (with_reducible refine Below.alloc ?_ ?_ _) | (with_reducible refine Below.drew ?_) | (with_reducible refine Below.setCell ?_ ?_ _) | (with_reducible refine Below.trans ?_ (Below.mono (by assumption) ?_)) | go_size)))
              go_wp2
              go_roundw
              case rel => exact ⟨k + 1, by omega, by go_num, by rw [hS.out]; exact hown5, hbr.trans hb6⟩
              case measure => simp [intOf]; omega
            · have hT : P.take k = P := List.take_of_length_le (by omega)
              have hd : ¬ (k : Int) < P.length := by omega
              rw [hT] at HO hnl
              clear hT
              go_wp2
              go_ret
              exact ⟨_, rfl, (RdP.of_ownS HO.out (by omega)).more (Nat.le_refl _) zW, B1.trans (hbr.mono zW)⟩
end Go.Proofs.Ytbdioabeopnfeaa
