import Derived.Test.YtbpjgipldddcfaaGHh
import Derived.WalkKit
import Derived.WalkSpells
import Derived.WalkLawsBesides
import Derived.Deep.QuietTactic
import Derived.BigQuiet
import Derived.Handy
import Derived.Lib.Hide
/-
  Contracts of the program's pointwise combinations of valid step functions. Conditions: at most 100000 steps each.
-/
namespace Go.Proofs.Ytbpjgipldddcfaa
set_option maxRecDepth 100000
set_option linter.unusedVariables false
set_option linter.unusedSimpArgs false
open Go.RowKit

theorem boxes4 (w : World) (fo : Nat) : Boxes ((((w.alloc (Obj.cells #[Value.func (Fn.func fo) #[] #[]] 54)).alloc (Obj.cells #[Value.slice none 0 0] 22)).alloc (Obj.cells #[Value.int IntKind.i64 0] 3)).alloc (Obj.cells #[Value.int IntKind.i64 0] 3)) w.heap.size fo 0 0 (.slice none 0 0) [] := by
  have s1 : (w.alloc (Obj.cells #[Value.func (Fn.func fo) #[] #[]] 54)).heap.size = w.heap.size + 1 := World.size_alloc _ _
  have o1 := Own.new w 54 #[Value.func (Fn.func fo) #[] #[]]
  generalize w.alloc (Obj.cells #[Value.func (Fn.func fo) #[] #[]] 54) = w1 at *
  have s2 : (w1.alloc (Obj.cells #[Value.slice none 0 0] 22)).heap.size = w.heap.size + 1 + 1 := by rw [World.size_alloc, s1]
  have o2 := Own.new w1 22 #[Value.slice none 0 0]
  rw [s1] at o2
  generalize hw2 : w1.alloc (Obj.cells #[Value.slice none 0 0] 22) = w2 at *
  have s3 : (w2.alloc (Obj.cells #[Value.int IntKind.i64 0] 3)).heap.size = w.heap.size + 1 + 1 + 1 := by rw [World.size_alloc, s2]
  have o3 := Own.new w2 3 #[Value.int IntKind.i64 0]
  rw [s2] at o3
  generalize hw3 : w2.alloc (Obj.cells #[Value.int IntKind.i64 0] 3) = w3 at *
  have o4 := Own.new w3 3 #[Value.int IntKind.i64 0]
  rw [s3] at o4
  refine ⟨?_, (by rw [← hw3] at *; exact (o2.alloc _).alloc _), o3.alloc _, o4, own_nilT _ _⟩
  rw [← hw3, ← hw2]
  exact ((o1.alloc _).alloc _).alloc _
set_option maxRecDepth 100000 in
set_option maxHeartbeats 1600000 in
theorem combine_any (fo : Nat) (F : Int → Int → Int) (hF : AsksI fo F) (eg : ∀ args w, (callFunc fo args).run Try.prog w = .ok (.enter fo args) w) (ada adb : Addr) (ca cb : Nat) (A B : List (Int × Int)) (w : World) (L L' : Nat)
    (h1 : RdP w L w.heap.size (.slice (some ada) A.length ca) A) (h2 : RdP w L' w.heap.size (.slice (some adb) B.length cb) B) (hA : srt A) (hB : srt B) (hl : ∀ p ∈ A ++ B, p.1 < 9223372036854775807) (la : A.length ≤ 100000) (lb : B.length ≤ 100000) :
    Calls Try.prog 33 #[.slice (some ada) A.length ca, .slice (some adb) B.length cb, .func (.func fo) #[] #[]] w (RetPers w (nrmV (fun t => F (valF 0 A t) (valF 0 B t)) (ptsS A B))) := by
  have HM := Lib.hid (fun w' hb k1 k2 => merge_any fo F hF eg ada adb ca cb A B w.heap.size w' L L' hb k1 k2 hA hB hl la lb)
  have H1 := Lib.hid (fun (w' : World) (hb : Below w.heap.size w w') => h1.below hb)
  have H2 := Lib.hid (fun (w' : World) (hb : Below w.heap.size w w') => h2.below hb)
  have hnl : (nrmV (fun t => F (valF 0 A t) (valF 0 B t)) (ptsS A B)).length ≤ 200000 := by
    have := nrmV_len (fun t => F (valF 0 A t) (valF 0 B t)) (ptsS A B)
    have h3 := insAll_len (insAll [] A) B
    have h4 := insAll_len [] A
    unfold ptsS at this ⊢
    simp at h4
    omega
  generalize nrmV (fun t => F (valF 0 A t) (valF 0 B t)) (ptsS A B) = R at *
  clear h1 h2 hA hB hl
  go_enter Try.func33, Try.ntmps33
  go_wp2_with fail
  refine (HM.out _ (boxes4 w fo) (H1.out _ ?_) (H2.out _ ?_)).mono ?_
  case refine_3 =>
    rintro e w2 hR
    unfold RetMg at hR
    obtain ⟨rfl, x, y, v2, HB, hb2⟩ := hR
    have HBh := Lib.hid HB
    have k1 := HB.res.cell 0
    have k2 := HB.res.free 0
    obtain ⟨A2, n2, c2, rfl⟩ := own_slice HB.row
    clear HB
    have hb3 : Below w.heap.size w w2 := Below.trans (by (repeat' (first | (with_reducible exact Below.refl _ _) | (with_reducible assumption) | (with_reducible refine Below.alloc ?_ ?_ _) | (with_reducible refine Below.drew ?_) | (with_reducible refine Below.setCell ?_ ?_ _) | (with_reducible refine Below.trans ?_ (Below.mono (by assumption) ?_)) | go_size))) hb2
    go_wp2
    go_ret
    exact ⟨_, rfl, (RdP.of_ownS HBh.out.row (by omega)).more (Nat.le_refl _) (by omega), hb3⟩
  all_goals (repeat' (first | (with_reducible exact Below.refl _ _) | (with_reducible assumption) | (with_reducible refine Below.alloc ?_ ?_ _) | (with_reducible refine Below.drew ?_) | (with_reducible refine Below.setCell ?_ ?_ _) | (with_reducible refine Below.trans ?_ (Below.mono (by assumption) ?_)) | go_size))
theorem nrm_congr {f g : Int → Int} : ∀ (P : List Int) (n : Int), (∀ t ∈ P, f t = g t) → nrm f n P = nrm g n P
  | [], _, _ => rfl
  | p :: P, n, h => by
    rw [nrm, nrm, h p (by simp), nrm_congr P n (fun t ht => h t (List.mem_cons_of_mem _ ht)), nrm_congr P (g p) (fun t ht => h t (List.mem_cons_of_mem _ ht))]
theorem nrmV_congr {f g : Int → Int} {P : List Int} (h : ∀ t ∈ P, f t = g t) : nrmV f P = nrmV g P := by
  cases P with
  | nil => rfl
  | cons p P => rw [nrmV, nrmV, h p (by simp), nrm_congr P _ (fun t ht => h t (List.mem_cons_of_mem _ ht))]
theorem stT_range : ∀ (l : List (Int × Int)) (x n : Int), stT x n l = true → ∀ p ∈ l, x < p.1 ∧ p.1 < 1099511627776
  | [], _, _, _, p, h => by cases h
  | (y, m) :: l, x, n, h, p, hp => by
    obtain ⟨h1, h2, _, h4⟩ := stT_cons.1 h
    rcases List.mem_cons.1 hp with rfl | hp
    · exact ⟨h1, h2⟩
    · have := stT_range l y m h4 p hp; omega
theorem stV_range {l : List (Int × Int)} (h : stV l = true) : ∀ p ∈ l, 0 ≤ p.1 ∧ p.1 < 1099511627776 := by
  cases l with
  | nil => intro p hp; cases hp
  | cons q l =>
    obtain ⟨x, n⟩ := q
    have h2 : (decide (x = 0) && stT x n l) = true := h
    rw [Bool.and_eq_true] at h2
    have hx := of_decide_eq_true h2.1
    intro p hp
    rcases List.mem_cons.1 hp with rfl | hp
    · exact ⟨by show 0 ≤ x; omega, by show x < _; omega⟩
    · have := stT_range l x n h2.2 p hp; omega
theorem ptsS_mem {a b : List (Int × Int)} {x : Int} : x ∈ ptsS a b ↔ (∃ p ∈ a, p.1 = x) ∨ ∃ p ∈ b, p.1 = x := by
  obtain ⟨a1, a2⟩ := insAll_facts a [] .nil
  obtain ⟨b1, b2⟩ := insAll_facts b (insAll [] a) a1
  unfold ptsS
  rw [b2 x, a2 x]
  simp
theorem ptsS_range {a b : List (Int × Int)} (ha : stV a = true) (hb : stV b = true) : ∀ t ∈ ptsS a b, 0 ≤ t ∧ t < 1099511627776 := by
  intro t ht
  rcases ptsS_mem.1 ht with ⟨p, hp, rfl⟩ | ⟨p, hp, rfl⟩
  · exact stV_range ha p hp
  · exact stV_range hb p hp
theorem comb_eq {a b : List (Int × Int)} (F : Int → Int → Int) (ha : stV a = true) (hb : stV b = true) : nrmV (fun t => F (valF 0 a t) (valF 0 b t)) (ptsS a b) = nrmV (fun t => F (atV a t) (atV b t)) (ptsS a b) :=
  nrmV_congr fun t ht => by
    have := ptsS_range ha hb t ht
    show F _ _ = F _ _
    unfold atV
    rw [if_pos this, if_pos this]
theorem stV_ne {l : List (Int × Int)} (h : stV l = true) : ∃ p, l[0]? = some p := by
  cases l with
  | nil => cases h
  | cons p l => exact ⟨p, rfl⟩
theorem stV_lim {a b : List (Int × Int)} (ha : stV a = true) (hb : stV b = true) : ∀ p ∈ a ++ b, p.1 < 9223372036854775807 := by
  intro p hp
  rcases List.mem_append.1 hp with hp | hp
  · have := stV_range ha p hp; omega
  · have := stV_range hb p hp; omega
theorem sub_asks : AsksI 34 (opV 2) := by
  intro x y W
  show Calls Try.prog 34 #[.int .i64 x, .int .i64 y] W _
  go_enter Try.func34, Try.ntmps34
  go_wp2
  go_ret
  refine ⟨?_, Below.refl _ _⟩
  show Ending.returned (.int .i64 (wrap64 (x - y))) = _
  rw [wrap64_eq]
  rfl
theorem max_asks : AsksI 57 (opV 4) := by
  intro x y W
  show Calls Try.prog 57 #[.int .i64 x, .int .i64 y] W _
  by_cases h : y ≤ x
  · rw [show opV 4 x y = x by unfold opV; simp; omega]
    go_enter Try.func57, Try.ntmps57
    go_wp2
    go_ret
    exact ⟨rfl, Below.refl _ _⟩
  · rw [show opV 4 x y = y by unfold opV; simp; omega]
    go_enter Try.func57, Try.ntmps57
    go_wp2
    go_ret
    exact ⟨rfl, Below.refl _ _⟩
/-- The combination of two step functions, as a list. -/
def cmbL (kd : Int) (a b : List (Int × Int)) : List (Int × Int) := nrmV (fun t => opV kd (atV a t) (atV b t)) (ptsS a b)
theorem combV_any (fo : Nat) (kd : Int) (hF : AsksI fo (opV kd)) (eg : ∀ args w, (callFunc fo args).run Try.prog w = .ok (.enter fo args) w) (u v : Value) (a b : List (Int × Int)) (w : World) (L L' : Nat) (hu : RdP w L w.heap.size u a) (hv : RdP w L' w.heap.size v b) (ha : stV a = true) (hb : stV b = true) (la : a.length ≤ 100000) (lb : b.length ≤ 100000) :
    Calls Try.prog 33 #[u, v, .func (.func fo) #[] #[]] w (RetPers w (cmbL kd a b)) := by
  have hu0 := hu
  have hv0 := hv
  obtain ⟨A, c, rfl, _⟩ := hu
  obtain ⟨A2, c2, rfl, _⟩ := hv
  obtain ⟨p, hp⟩ := stV_ne ha
  obtain ⟨q, hq⟩ := stV_ne hb
  obtain ⟨ad, rfl, _⟩ := hu0.at hp
  obtain ⟨ad2, rfl, _⟩ := hv0.at hq
  have := combine_any fo (opV kd) hF eg ad ad2 c c2 a b w L L' hu0 hv0 (stV_srt ha) (stV_srt hb) (stV_lim ha hb) la lb
  rw [comb_eq (opV kd) ha hb] at this
  exact this
set_option maxHeartbeats 800000 in
theorem pSub_any (u v : Value) (a b : List (Int × Int)) (w : World) (L L' : Nat) (hu : RdP w L w.heap.size u a) (hv : RdP w L' w.heap.size v b) (ha : stV a = true) (hb : stV b = true) (la : a.length ≤ 100000) (lb : b.length ≤ 100000) :
    Calls Try.prog 18 #[u, v] w (RetPers w (cmbL 2 a b)) := by
  have eg : ∀ args w, (callFunc 34 args).run Try.prog w = .ok (.enter 34 args) w := enters_of Try.func34 (by kernel_rfl) rfl
  have hx := combV_any 34 2 sub_asks eg u v a b w L L' hu hv ha hb la lb
  obtain ⟨A, c, rfl, _, _⟩ := hu
  obtain ⟨A2, c2, rfl, _, _⟩ := hv
  generalize cmbL 2 a b = R at *
  go_enter Try.func18, Try.ntmps18
  go_wp2_with fail
  refine hx.mono ?_
  rintro e w1 ⟨v1, rfl, hr1, hb1⟩
  go_wp2
  go_ret
  exact ⟨_, rfl, hr1, hb1⟩
set_option maxHeartbeats 800000 in
theorem pMax_any (u v : Value) (a b : List (Int × Int)) (w : World) (L L' : Nat) (hu : RdP w L w.heap.size u a) (hv : RdP w L' w.heap.size v b) (ha : stV a = true) (hb : stV b = true) (la : a.length ≤ 100000) (lb : b.length ≤ 100000) :
    Calls Try.prog 35 #[u, v] w (RetPers w (cmbL 4 a b)) := by
  have eg : ∀ args w, (callFunc 57 args).run Try.prog w = .ok (.enter 57 args) w := enters_of Try.func57 (by kernel_rfl) rfl
  have hx := combV_any 57 4 max_asks eg u v a b w L L' hu hv ha hb la lb
  obtain ⟨A, c, rfl, _, _⟩ := hu
  obtain ⟨A2, c2, rfl, _, _⟩ := hv
  generalize cmbL 4 a b = R at *
  go_enter Try.func35, Try.ntmps35
  go_wp2_with fail
  refine hx.mono ?_
  rintro e w1 ⟨v1, rfl, hr1, hb1⟩
  go_wp2
  go_ret
  exact ⟨_, rfl, hr1, hb1⟩
/-- A list of one step, just laid. -/
theorem RdP.one (w : World) (x n : Int) (t : TypeId) : RdP (w.alloc (.cells #[.int .i64 x, .int .i64 n] t)) w.heap.size (w.heap.size + 1) (.slice (some ⟨w.heap.size, 0, none⟩) 1 1) [(x, n)] := by
  refine ⟨_, 1, rfl, by simp, by simp, fun k p hk => ?_⟩
  match k, hk with
  | 0, hk =>
    have hk : (x, n) = p := by simpa using hk
    subst hk
    exact ⟨_, rfl, Nat.le_refl _, Nat.lt_succ_self _, cell_two_new w (.int .i64 x) (.int .i64 n) t 0 _ rfl, cell_two_new w (.int .i64 x) (.int .i64 n) t 1 _ rfl⟩
  | k + 1, hk => simp at hk
set_option maxHeartbeats 800000 in
theorem constant_any (n : Int) (w : World) : Calls Try.prog 36 #[.int .i64 n] w (RetPers w [(0, n)]) := by
  have hr := RdP.one w 0 n 37
  go_enter Try.func36, Try.ntmps36
  go_wp2
  go_ret
  exact ⟨_, rfl, by rw [World.size_alloc]; exact hr, by (repeat' (first | (with_reducible exact Below.refl _ _) | (with_reducible assumption) | (with_reducible refine Below.alloc ?_ ?_ _) | (with_reducible refine Below.drew ?_) | (with_reducible refine Below.setCell ?_ ?_ _) | (with_reducible refine Below.trans ?_ (Below.mono (by assumption) ?_)) | go_size))⟩
set_option maxHeartbeats 800000 in
theorem pClip_any (u : Value) (a : List (Int × Int)) (w : World) (L : Nat) (hu : RdP w L w.heap.size u a) (ha : stV a = true) (la : a.length ≤ 100000) :
    Calls Try.prog 20 #[u] w (RetPers w (cmbL 4 a [(0, 0)])) := by
  have HX := Lib.hid (fun (v1 : Value) (w' : World) (hb : Below w.heap.size w w') (hv : RdP w' w.heap.size w'.heap.size v1 [(0, 0)]) => pMax_any u v1 a [(0, 0)] w' _ _ (hu.step hb (Nat.le_refl _)) hv ha (by decide) la (by decide))
  have HC := Lib.hid (constant_any 0 w)
  obtain ⟨A, c, rfl, _, _⟩ := hu
  generalize cmbL 4 a [(0, 0)] = R at *
  go_enter Try.func20, Try.ntmps20
  go_wp2_with fail
  refine HC.out.mono ?_
  rintro e w1 ⟨v1, rfl, hr1, hb1⟩
  have HR1 := Lib.hid hr1
  obtain ⟨A1, c1, rfl, _, _⟩ := hr1
  go_wp2_with fail
  refine (HX.out _ w1 hb1 HR1.out).mono ?_
  rintro e w2 ⟨v2, rfl, hr2, hb2⟩
  go_wp2
  go_ret
  exact ⟨_, rfl, hr2.more (Nat.le_refl _) hb1.size, hb1.trans (hb2.mono hb1.size)⟩
end Go.Proofs.Ytbpjgipldddcfaa
