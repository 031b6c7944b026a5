import Derived.Test.YteihjneeiojgaaaSEoO
import Derived.Test.YteihjneeiojgaaaPA
import Derived.WalkKit
import Derived.WalkSpells
import Derived.WalkLawsBesides
import Derived.Deep.QuietTactic
import Derived.BigQuiet
import Derived.Handy
import Derived.Lib.Hide
/-
  The examples of chapter 14, call by call. Conditions: the search's variable holds some number.
-/
namespace Go.Proofs.Yteihjneeiojgaaa
set_option maxRecDepth 100000
set_option linter.unusedVariables false
set_option linter.unusedSimpArgs false
open Go.RowKit

theorem rdK_lit {w : World} {g c : Nat} {cs : List Cl} (o : Own w g 36 (cs.flatMap fC).toArray) (hl : cs.length ≤ 9223372036854775807) : RdK w 0 w.heap.size (.slice (some ⟨g, 0, none⟩) cs.length c) cs := by
  refine ⟨_, c, rfl, hl, fun k q hk => ⟨_, rfl, Nat.zero_le _, o.lt, ?_⟩⟩
  have G := fun j hj => (o.cell (k * 3 + j)).trans ((List.getElem?_toArray ..).trans (fm_get fC_len cs k q hk j hj))
  rw [addX]
  exact ⟨G 0 (by decide), G 1 (by decide), G 2 (by decide)⟩
theorem rdI_lit {w : World} {g c : Nat} {zs : List Int} (o : Own w g 3 (zs.flatMap fI).toArray) (hl : zs.length ≤ 9223372036854775807) : RdI w 0 w.heap.size (.slice (some ⟨g, 0, none⟩) zs.length c) zs := by
  refine ⟨_, c, rfl, hl, fun k q hk => ⟨_, rfl, Nat.zero_le _, o.lt, ?_⟩⟩
  have G := fun j hj => (o.cell (k * 1 + j)).trans ((List.getElem?_toArray ..).trans (fm_get fI_len zs k q hk j hj))
  have G0 := G 0 (by decide)
  rw [Nat.mul_one, Nat.add_zero] at G0
  rw [addX]
  exact G0
def exC : List Cl := [(⟨#[97]⟩, 1, false), (⟨#[98]⟩, 2, true)]
def exU : List Cl := [(⟨#[98]⟩, 2, false), (⟨#[97]⟩, 1, false), (⟨#[99]⟩, 1, false)]
def exT : ByteArray := ⟨#[116]⟩
theorem rdT_lit {w : World} {g h c c2 : Nat} {cs : List Cl} {zs : List Int} (o : Own w g 36 (cs.flatMap fC).toArray) (o2 : Own w h 3 (zs.flatMap fI).toArray) (hl : cs.length ≤ 100) (hl2 : zs.length ≤ 100) :
    RdT w 0 w.heap.size (.slice (some ⟨g, 0, none⟩) cs.length c) (.slice (some ⟨h, 0, none⟩) zs.length c2) (.slice none 0 0) (.slice none 0 0) cs zs [] 0 [] :=
  ⟨rdK_lit o (by omega), rdI_lit o2 (by omega), ⟨none, 0, rfl, by simp, fun k f hk => by simp at hk⟩, ⟨none, 0, rfl, by simp, fun k e hk => by simp at hk⟩⟩
theorem gd_lit {cs : List Cl} {zs : List Int} (hn : ∀ c ∈ cs, (nmC c).all okcB = true) (hl : cs.length ≤ 100) (hl2 : zs.length ≤ 100) (hz : ∀ z ∈ zs, 0 ≤ z ∧ z ≤ 100) : GdT ⟨cs, zs, [], 0, []⟩ := by
  refine ⟨⟨hn, ?_, ?_, by simp, by simp, by simp, by simp, ?_⟩, ?_, fun z h => ?_, by simp⟩
  · show cs.length ≤ _; omega
  · show zs.length ≤ _; omega
  · intro z h
    have h2 : z ∈ zs := by simpa [usdL] using h
    have := hz z h2
    exact wf_int (by omega) (by omega)
  · show cs.length ≤ _; omega
  · have := hz z h; omega
def chDrop (s : ByteArray) : Chg := ⟨2, s, ⟨#[]⟩, zC, zP⟩
def chAdd : Chg := ⟨1, ⟨#[]⟩, ⟨#[]⟩, (⟨#[99]⟩, 1, true), (1, 7, ⟨#[]⟩)⟩
theorem ev_x1 : evoE [116] exC [0] [] 0 [] chAdd = 0 := by decide +kernel
theorem ev_x2 : evoE [116] exU [1] [] 0 [] (chDrop ⟨#[98]⟩) = 0 := by decide +kernel
theorem ev_x3 : evoE [116] exC [0] [] 0 [] (chDrop ⟨#[97]⟩) = 25 := by decide +kernel
theorem ev_x4 : evoE [116] exC [0] [] 0 [] (chDrop ⟨#[99]⟩) = 11 := by decide +kernel
theorem nm_x1 : ∀ c ∈ exC, (nmC c).all okcB = true := by decide +kernel
theorem nm_x2 : ∀ c ∈ exU, (nmC c).all okcB = true := by decide +kernel
/-- What Apply gives at an example: lists of these lengths, and the key's first number. -/
def RetX14 (w : World) (n k : Nat) (z : Int) (e : Ending) (w' : World) : Prop :=
  ∃ (A1 A3 A4 : Option Addr) (g c1 c2 c3 c4 n3 n4 : Nat), e = .returned (.tuple #[.agg #[.string exT, .slice A1 n c1, .slice (some ⟨g, 0, none⟩) k c2, .slice A3 n3 c3, .slice A4 n4 c4], .int .i64 0]) ∧ w'.cell? ⟨g, 0, none⟩ = some (.int .i64 z) ∧ Below w.heap.size w w'
theorem app_x {cs : List Cl} {zs : List Int} {g h' c c2 : Nat} {h : Chg} {n k : Nat} {z : Int} (m : Int) (w : World) (hm : w.cell? ⟨0, 0, none⟩ = some (.int .i64 m)) (o : Own w g 36 (cs.flatMap fC).toArray) (o2 : Own w h' 3 (zs.flatMap fI).toArray) (hl : cs.length ≤ 100) (hl2 : zs.length ≤ 100)
    (hn : ∀ c ∈ cs, (nmC c).all okcB = true) (hz : ∀ z ∈ zs, 0 ≤ z ∧ z ≤ 100) (he : evoE [116] cs zs [] 0 [] h = 0) (e1 : (stepT ⟨cs, zs, [], 1, []⟩ h).cs.length = n) (e2 : (stepT ⟨cs, zs, [], 1, []⟩ h).zs.length = k) (e3 : (stepT ⟨cs, zs, [], 1, []⟩ h).zs[0]? = some z) :
    Calls Try.prog 8 #[.agg #[.string exT, .slice (some ⟨g, 0, none⟩) cs.length c, .slice (some ⟨h', 0, none⟩) zs.length c2, .slice none 0 0, .slice none 0 0], chV h] w (RetX14 w n k z) := by
  refine (pApply_any exT _ _ _ _ cs zs [] 0 [] h m w hm (rdT_lit o o2 hl hl2) (by omega) (fun e he => by simp at he) (fun _ => gd_lit hn hl hl2 hz)).mono ?_
  rintro e w' ⟨hr, hb⟩
  rcases hr with ⟨x, hx, hne, _⟩ | ⟨_, v1, v2, v3, v4, qs, ps, rfl, ho, hq, hp⟩
  · exact absurd (hx.symm.trans he) hne
  · obtain ⟨A1, c1, rfl⟩ := own_len ho.c
    obtain ⟨A3, c3, rfl⟩ := own_len ho.f
    obtain ⟨A4, c4, rfl⟩ := own_len ho.x
    dsimp only at ho
    rcases own_row ho.k with ⟨_, h6⟩ | ⟨g2, c2, rfl, _, _, hcl⟩
    · have : (stepT ⟨cs, zs, [], 1, []⟩ h).zs.length = 0 := h6
      rw [List.length_eq_zero_iff.1 this] at e3
      simp at e3
    · have h0 := hcl 0 (.int .i64 z) (by
        have := fm_get fI_len _ 0 z e3 0 (by decide)
        simpa [fI] using this)
      rw [addX] at h0
      exact ⟨A1, A3, A4, g2, c1, c2, c3, c4, qs.length, ps.length, by rw [← e1, ← e2], h0, hb⟩
set_option maxRecDepth 100000 in
set_option maxHeartbeats 3200000 in
theorem sample14_any (w : World) : Calls Try.prog 10 #[] w fun e w' => ∃ h g, e = .returned (.agg #[.string ⟨#[116]⟩, .slice (some ⟨h, 0, none⟩) 2 2, .slice (some ⟨g, 0, none⟩) 1 1, .slice none 0 0, .slice none 0 0]) ∧ Own w' h 36 (exC.flatMap fC).toArray ∧ Own w' g 3 ([(0 : Int)].flatMap fI).toArray ∧ Below w.heap.size w w' := by
  go_enter Try.func10, Try.ntmps10
  go_wp2_with fail
  (try simp only [Exit.inBlock, Exit.then])
  refine bodyPost_ret_by (results_cell_row1 (by rfl) _ _ w.heap.size _ (by rfl) (load_tabF (((Own.new w _ _).alloc _).alloc _))) ?_ ?_
  · rfl
  obtain ⟨h1, h2, h3, hb⟩ := bx3 w 27 #[.string ⟨#[116]⟩, .slice (some ⟨w.heap.size + 1, 0, none⟩) 2 2, .slice (some ⟨w.heap.size + 1 + 1, 0, none⟩) 1 1, .slice none 0 0, .slice none 0 0] 36 #[.string ⟨#[97]⟩, .int .i64 1, .bool false, .string ⟨#[98]⟩, .int .i64 2, .bool true] 3 #[.int .i64 0]
  exact ⟨w.heap.size + 1, w.heap.size + 1 + 1, rfl, h2.out, h3.out, hb.out⟩
end Go.Proofs.Yteihjneeiojgaaa
