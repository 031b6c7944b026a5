/-
  The reference's with and PutInt: what each answers. Conditions: numbers of 64 bits; lengths.
-/
import Derived.Test.YtclpemmpckjemaaDoorCo3
import Derived.Outline
import Derived.WalkKit
import Derived.WalkSpells
import Derived.WalkLawsBesides
import Derived.Deep.QuietTactic
import Derived.BigQuiet
import Derived.Handy
import Derived.Lib.Hide
namespace Go.Proofs.YtclpemmpckjemaaDoor
open Go.RowKit

theorem rdB_notnone {w : World} {L B : Nat} {v : Value} {l : List UInt8} (h : RdB w L B v l) (hl : 0 < l.length) : ∀ n c, v = .slice none n c → c = 0 := by
  intro n c e
  obtain ⟨A, c', rfl, _, _, hx2⟩ := h
  injection e with e1 e2 e3
  subst e1
  obtain ⟨ad, h1, _⟩ := hx2 0 _ (List.getElem?_eq_getElem hl)
  cases h1
end Go.Proofs.YtclpemmpckjemaaDoor
