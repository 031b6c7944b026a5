/-
  Values: the reference's quoting, numbers in texts, and what it takes out of quotes: what each function answers, in every world. Conditions: lengths.
-/
import Derived.Test.YthjnkekkjjcnfaaGreatDoorVaM
import Derived.WalkKit
import Derived.WalkSpells
import Derived.WalkLawsBesides
import Derived.Deep.QuietTactic
import Derived.BigQuiet
import Derived.Handy
import Derived.Lib.Hide
namespace Go.Proofs.YthjnkekkjjcnfaaGreatDoor
open Go.RowKit

theorem ext_one (s : ByteArray) (k : Nat) (h : k < s.size) : s.extract k (k + 1) = ByteArray.mk [s[k]].toArray := by
  have h1 : (s.extract k (k + 1)).toList = [s[k]] := by
    rw [Lib.extract_toList, List.drop_eq_getElem_cons (by rw [← Lib.size_eq]; exact h), show k + 1 - k = 1 by omega]
    rfl
  rw [Lib.toList_data] at h1
  exact data_of h1
where
  data_of {a : ByteArray} {l : List UInt8} (h : a.data.toList = l) : a = ByteArray.mk l.toArray := by
    obtain ⟨⟨m⟩⟩ := a; simp at h; subst h; rfl
theorem dbl_step {s : ByteArray} {k : Nat} (h : k < s.size) : dbl (s.data.toList.take (k + 1)) = dbl (s.data.toList.take k) ++ (if s[k] = 39 then [39, 39] else [s[k]]) := by
  rw [take_snoc s k h, dbl_app]
  simp only [dbl]
theorem byte39 {c : UInt8} : (c.toNat : Int) = 39 ↔ c = 39 := by
  constructor
  · intro h; apply UInt8.toNat_inj.1; have : (39 : UInt8).toNat = 39 := rfl; omega
  · intro h; subst h; rfl
theorem len_take_le (s : ByteArray) (k : Nat) : (dbl (s.data.toList.take k)).length ≤ 2 * s.size := by
  have h1 := (dbl_len (s.data.toList.take k)).1
  have h2 : (s.data.toList.take k).length ≤ s.size := by rw [List.length_take, ← Lib.size_eq]; omega
  omega
set_option maxHeartbeats 800000 in
theorem rQuote_any (s : ByteArray) (w : World) (hs : s.size ≤ 4194304) :
    Calls Tryz.prog 60 #[.string s] w fun e w' => e = .returned (.string ⟨(quo s.data.toList).toArray⟩) ∧ w' = w := by
  go_enter Tryz.func60, Tryz.ntmps60
  go_wp2
  go_loop [3, 4] (fun o i => ∃ (k : Nat) (l : List UInt8), k ≤ s.size ∧ i = .int .i64 k ∧ o = .string ⟨l.toArray⟩ ∧ Hid (l = 39 :: dbl (s.data.toList.take k)) ∧ l.length ≤ 8388609) (fun _ i => s.size - (intOf i).toNat)
  case atStart => exact ⟨0, [39], Nat.zero_le _, rfl, rfl, Lib.hid rfl, by decide⟩
  case round =>
    obtain ⟨k, l, hk, rfl, rfl, hl, hb⟩ := hrel
    by_cases hlt : k < s.size
    · have he := ext_one s k hlt
      have hd := dbl_step hlt
      have hn : (39 :: dbl (s.data.toList.take (k + 1))).length ≤ 8388609 := by
        have := len_take_le s (k + 1)
        simp only [List.length_cons]; omega
      by_cases hc : (s[k].toNat : Int) = 39
      · rw [if_pos (byte39.1 hc)] at hd
        have hx : (ByteArray.mk l.toArray ++ ByteArray.mk #[39] ++ ByteArray.mk [s[k]].toArray) = ByteArray.mk (39 :: dbl (s.data.toList.take (k + 1))).toArray := by
          rw [show (#[39] : Array UInt8) = [39].toArray from rfl]
          simp only [ByteArray.mk_append_mk]
          rw [hl.out, hd, byte39.1 hc]
          simp
        have HX := Lib.hid hx
        have HN := Lib.hid hn
        clear hd hn hx
        go_wp2
        go_round
        case rel => exact ⟨k + 1, _, by omega, by go_num, congrArg Value.string HX.out, Lib.hid rfl, HN.out⟩
        case measure => simp [intOf]; omega
      · rw [if_neg (fun h => hc (byte39.2 h))] at hd
        have hx : (ByteArray.mk l.toArray ++ ByteArray.mk [s[k]].toArray) = ByteArray.mk (39 :: dbl (s.data.toList.take (k + 1))).toArray := by
          simp only [ByteArray.mk_append_mk]
          rw [hl.out, hd]
          simp
        have HX := Lib.hid hx
        have HN := Lib.hid hn
        have hc2 : ((s[k].toNat : Int) == 39) = false := by simpa using hc
        clear hd hn hx hc
        go_wp2
        go_round
        case rel => exact ⟨k + 1, _, by omega, by go_num, congrArg Value.string HX.out, Lib.hid rfl, HN.out⟩
        case measure => simp [intOf]; omega
    · have hx : (ByteArray.mk l.toArray ++ ByteArray.mk #[39]) = ByteArray.mk (quo s.data.toList).toArray := by
        rw [show (#[39] : Array UInt8) = [39].toArray from rfl]
        simp only [ByteArray.mk_append_mk]
        rw [hl.out, take_all (by omega)]
        rfl
      have HX := Lib.hid hx
      clear hx
      go_wp2
      go_ret
      exact ⟨ret_str HX.out, rfl⟩
/-! ### numbers -/
def nRes (l : List UInt8) : Value := if numOk l then .tuple #[.int .i64 (satV l : Nat), .bool true] else .tuple #[.int .i64 0, .bool false]
theorem nRes_no {l : List UInt8} (h : numOk l = false) : nRes l = .tuple #[.int .i64 0, .bool false] := by simp [nRes, h]
theorem nRes_yes {l : List UInt8} (h : numOk l = true) : nRes l = .tuple #[.int .i64 (satV l : Nat), .bool true] := by simp [nRes, h]
theorem satV_bd (l : List UInt8) : satV l ≤ 1125899906842625 := by unfold satV; omega
theorem sat_step {s : ByteArray} {k : Nat} (h : k < s.size) : satV (s.data.toList.take (k + 1)) = min (satV (s.data.toList.take k) * 10 + (s[k].toNat - 48)) 1125899906842625 := by
  rw [take_snoc s k h, satV_snoc]
set_option maxHeartbeats 800000 in
theorem rNumb_loop (s : ByteArray) (w : World) (hs : s.size ≤ 281474976710656) (h0 : 0 < s.size) (hz : numBad s.data.toList = false) (hb : (s[0].toNat : Int) = 48 → s.size = 1) :
    Calls Tryz.prog 56 #[.string s] w fun e w' => e = .returned (nRes s.data.toList) ∧ w' = w := by
  have he : ¬ s.toList = [] := by rw [Lib.toList_data]; intro e; have := size_of_empty e; omega
  have he2 : s.toList.isEmpty = false := by rw [Bool.eq_false_iff]; intro e; exact he (List.isEmpty_iff.1 e)
  have HB := Lib.hid hz
  have hq : (s[0].toNat : Int) = 48 → ¬ (s.size : Int) > 1 := fun h => by have := hb h; omega
  clear hz hb
  by_cases h48 : (s[0].toNat : Int) = 48
  all_goals
    (try have hs1 := hq h48)
    clear hq
    go_enter Tryz.func56, Tryz.ntmps56
    go_wp2
    go_loop [4, 5] (fun n i => ∃ k : Nat, k ≤ s.size ∧ i = .int .i64 k ∧ n = .int .i64 (satV (s.data.toList.take k) : Nat) ∧ Hid ((s.data.toList.take k).all isDig = true)) (fun _ i => s.size - (intOf i).toNat)
    case atStart => exact ⟨0, Nat.zero_le _, rfl, rfl, Lib.hid rfl⟩
    case round =>
      obtain ⟨k, hk, rfl, rfl, hd⟩ := hrel
      by_cases hlt : k < s.size
      · by_cases hc1 : (s[k].toNat : Int) < 48
        · go_wp2
          go_ret2
          exact ⟨congrArg Ending.returned (nRes_no (numOk_not hlt (dig_lo hc1))).symm, rfl⟩
        · by_cases hc2 : 57 < (s[k].toNat : Int)
          · go_wp2
            go_ret2
            exact ⟨congrArg Ending.returned (nRes_no (numOk_not hlt (dig_hi hc2))).symm, rfl⟩
          · have hst := sat_step hlt
            have hbd := satV_bd (s.data.toList.take k)
            have HA := Lib.hid (all_step hlt hd.out (dig_in hc1 hc2))
            generalize hx : satV (s.data.toList.take k) = x at *
            generalize hy : satV (s.data.toList.take (k + 1)) = y at *
            have HY := Lib.hid hy
            by_cases hg : (x : Int) * 10 + ((s[k].toNat : Int) - 48) > 1125899906842624
            · have e : y = 1125899906842625 := by omega
              clear hst hx hy
              subst e
              go_wp2
              go_round
              case rel => exact ⟨k + 1, by omega, by go_num, by rw [HY.out]; rfl, HA⟩
              case measure => simp [intOf]; omega
            · have e : (x : Int) * 10 + ((s[k].toNat : Int) - 48) = (y : Int) := by omega
              have HE := Lib.hid e
              clear hst hx hy e
              go_wp2
              go_round
              case rel => exact ⟨k + 1, by omega, by go_num, by rw [HY.out, HE.out], HA⟩
              case measure => simp [intOf]; omega
      · go_wp2
        go_ret2
        have ht := take_all (s := s) (k := k) (by omega)
        have hd' := hd.out
        rw [ht] at hd'
        exact ⟨by rw [nRes_yes (numOk_good HB.out hd')]; exact congrArg (fun l => Ending.returned (Value.tuple #[.int .i64 (satV l : Nat), .bool true])) ht, rfl⟩
theorem rNumb_any (s : ByteArray) (w : World) (hs : s.size ≤ 281474976710656) :
    Calls Tryz.prog 56 #[.string s] w fun e w' => e = .returned (nRes s.data.toList) ∧ w' = w := by
  by_cases h0 : 0 < s.size
  · by_cases h48 : (s[0].toNat : Int) = 48
    · by_cases h1 : s.size = 1
      · have hz : (s.toList == [48]) = true := by
          rw [Lib.toList_data, beq_iff_eq]
          have e := head_at s h0
          rw [byte48 h48] at e
          have hl : s.data.toList.length = 1 := by rw [← Lib.size_eq]; exact h1
          match hm : s.data.toList, hl with
          | [c], _ => rw [hm] at e; simp at e; rw [e]
        exact rNumb_loop s w hs h0 (bad_zero hz) (fun _ => h1)
      · have hz : (s.toList == [48]) = false := by
          rw [Lib.toList_data, beq_eq_false_iff_ne]
          intro e
          have : s.data.toList.length = 1 := by rw [e]; rfl
          rw [← Lib.size_eq] at this; omega
        have HB := Lib.hid (nRes_no (numOk_bad (bad_48 h0 h48 hz)))
        have he : ¬ s.toList = [] := by rw [Lib.toList_data]; intro e; have := size_of_empty e; omega
        have he2 : s.toList.isEmpty = false := by rw [Bool.eq_false_iff]; intro e; exact he (List.isEmpty_iff.1 e)
        have hg : (s.size : Int) > 1 := by omega
        clear hz
        go_enter Tryz.func56, Tryz.ntmps56
        go_wp2
        go_ret2
        exact ⟨congrArg Ending.returned HB.out.symm, rfl⟩
    · exact rNumb_loop s w hs h0 (bad_not48 h0 h48) (fun h => absurd h h48)
  · have hE := empty_of_size h0
    have he : s.toList = [] := by rw [Lib.toList_data]; exact hE
    have HE := Lib.hid (show nRes s.data.toList = .tuple #[.int .i64 0, .bool false] by rw [hE]; rfl)
    clear hE
    go_enter Tryz.func56, Tryz.ntmps56
    go_wp2
    go_ret2
    exact ⟨congrArg Ending.returned HE.out.symm, rfl⟩
/-! ### what is inside quotes -/
def unq : List UInt8 → Option (List UInt8)
  | [] => some []
  | [b] => if b = 39 then none else some [b]
  | b :: c :: r => if b = 39 then (if c = 39 then (unq r).map (39 :: ·) else none) else (unq (c :: r)).map (b :: ·)
theorem unq_cons {b : UInt8} (t : List UInt8) (h : b ≠ 39) : unq (b :: t) = (unq t).map (b :: ·) := by
  cases t with
  | nil => simp [unq, h]
  | cons c r => simp [unq, h]
theorem unq_quote (r : List UInt8) : unq (39 :: 39 :: r) = (unq r).map (39 :: ·) := by simp [unq]
theorem unq_bad {c : UInt8} (r : List UInt8) (h : c ≠ 39) : unq (39 :: c :: r) = none := by simp [unq, h]
theorem unq_one : unq [39] = none := by simp [unq]
theorem unq_dbl : ∀ t : List UInt8, unq (dbl t) = some t
  | [] => rfl
  | b :: t => by
    by_cases h : b = 39
    · subst h; rw [dbl, if_pos rfl, unq_quote, unq_dbl t]; rfl
    · rw [dbl, if_neg h, unq_cons _ h, unq_dbl t]; rfl
theorem dbl_unq : ∀ (n : Nat) (l t : List UInt8), l.length ≤ n → unq l = some t → l = dbl t
  | _, [], t, _, h => by simp [unq] at h; subst h; rfl
  | 0, _ :: _, _, hn, _ => by simp at hn
  | n + 1, b :: l, t, hn, h => by
    by_cases hb : b = 39
    · subst hb
      cases l with
      | nil => simp [unq] at h
      | cons c r =>
        by_cases hc : c = 39
        · subst hc
          rw [unq_quote, Option.map_eq_some_iff] at h
          obtain ⟨u, h1, rfl⟩ := h
          rw [dbl_unq n r u (by simp at hn; omega) h1, dbl, if_pos rfl]
        · rw [unq_bad r hc] at h; cases h
    · rw [unq_cons l hb, Option.map_eq_some_iff] at h
      obtain ⟨u, h1, rfl⟩ := h
      rw [dbl_unq n l u (by simp at hn; omega) h1, dbl, if_neg hb]
def uRes (r : Option (List UInt8)) : Value := match r with
  | some t => .tuple #[.string ⟨t.toArray⟩, .bool (prnL t)]
  | none => .tuple #[.string ⟨#[]⟩, .bool false]
theorem drop_at (I : ByteArray) (k : Nat) (h : k < I.size) : I.data.toList.drop k = I[k] :: I.data.toList.drop (k + 1) := by
  rw [List.drop_eq_getElem_cons (by rw [← Lib.size_eq]; exact h)]; rfl
/-- The loop, and what stands behind it. -/
def qOk (s : ByteArray) : Prop := 2 ≤ s.size ∧ (∃ h : 0 < s.size, (s[0].toNat : Int) = 39) ∧ (∃ h : s.size - 1 < s.size, (s[s.size - 1].toNat : Int) = 39)
set_option maxRecDepth 100000 in
set_option maxHeartbeats 1600000 in
theorem unquote_yes (s : ByteArray) (w : World) (hs : s.size ≤ 2097152) (h2 : 2 ≤ s.size) (h3 : (s[0].toNat : Int) = 39) (h4 : (s[s.size - 1].toNat : Int) = 39) (I : ByteArray) (hI : s.extract 1 (s.size - 1) = I) (hm : I.size ≤ 2097152) :
    Calls Tryz.prog 55 #[.string s] w fun e w' => e = .returned (uRes (unq I.data.toList)) ∧ w' = w := by
  have hP := fun l (hl : (ByteArray.mk l.toArray).size < 9223372036854775807) W => rPrn_any ⟨(l : List UInt8).toArray⟩ W hl
  generalize hR : uRes (unq I.data.toList) = R
  have HR := Lib.hid hR
  clear hR
  have h5 : ¬ (s.size : Int) < 2 := by omega
  have h6 : ((s.size : Int) - 1) = ((s.size - 1 : Nat) : Int) := by omega
  go_enter Tryz.func55, Tryz.ntmps55
  go_wp2
  generalize hI2 : s.extract 1 (s.size - 1) = I2 at *
  obtain rfl : I2 = I := hI
  clear hI2 h2 h3 h4 h5 h6
  go_loop [4, 6] (fun o i => ∃ (k : Nat) (l : List UInt8), k ≤ I2.size ∧ i = .int .i64 k ∧ o = .string ⟨l.toArray⟩ ∧ l.length ≤ k ∧ Hid (R = uRes ((unq (I2.data.toList.drop k)).map (l ++ ·)))) (fun _ i => I2.size - (intOf i).toNat)
  case atStart => exact ⟨0, [], Nat.zero_le _, rfl, rfl, Nat.le_refl _, Lib.hid (by rw [← HR.out]; simp)⟩
  case round =>
    obtain ⟨k, l, hk, rfl, rfl, hl, hd⟩ := hrel
    by_cases hlt : k < I2.size
    · have hdr := drop_at I2 k hlt
      have hex := ext_one I2 k hlt
      by_cases hc : (I2[k].toNat : Int) = 39
      · by_cases hk1 : k + 1 < I2.size
        · have hdr1 := drop_at I2 (k + 1) hk1
          have hex1 := ext_one I2 (k + 1) hk1
          rw [byte39.1 hc, hdr1] at hdr
          have hki : (((k : Int) + 1) == (I2.size : Int)) = false := by rw [beq_eq_false_iff_ne]; omega
          by_cases hc1 : (I2[k + 1].toNat : Int) = 39
          · have HX : Hid (R = uRes ((unq (I2.data.toList.drop (k + 1 + 1))).map ((l ++ [39]) ++ ·))) := Lib.hid (by
              rw [hd.out, hdr, byte39.1 hc1, unq_quote, Option.map_map]
              congr 2
              funext x
              simp)
            have HS : Hid ((ByteArray.mk l.toArray ++ ByteArray.mk [I2[k + 1]].toArray) = ByteArray.mk (l ++ [39]).toArray) := Lib.hid (by rw [ByteArray.mk_append_mk, byte39.1 hc1])
            clear hdr hdr1 hd
            go_wp2
            go_round
            case rel => exact ⟨k + 1 + 1, l ++ [39], by omega, by go_num, congrArg Value.string HS.out, by simp; omega, HX⟩
            case measure => simp [intOf]; omega
          · have HX : Hid (R = .tuple #[.string ⟨#[]⟩, .bool false]) := Lib.hid (by
              rw [hd.out, hdr, unq_bad _ (fun h => hc1 (byte39.2 h))]; rfl)
            have hc2 : ((I2[k + 1].toNat : Int) == 39) = false := by simpa using hc1
            clear hdr hdr1 hd
            go_wp2
            go_ret2
            exact ⟨congrArg Ending.returned HX.out.symm, rfl⟩
        · have hki : (k : Int) + 1 = I2.size := by omega
          have HX : Hid (R = .tuple #[.string ⟨#[]⟩, .bool false]) := Lib.hid (by
            rw [hd.out, hdr, byte39.1 hc, List.drop_eq_nil_of_le (by rw [← Lib.size_eq]; omega), unq_one]; rfl)
          clear hdr hd
          go_wp2
          go_ret2
          exact ⟨congrArg Ending.returned HX.out.symm, rfl⟩
      · have HX : Hid (R = uRes ((unq (I2.data.toList.drop (k + 1))).map ((l ++ [I2[k]]) ++ ·))) := Lib.hid (by
          rw [hd.out, hdr, unq_cons _ (fun h => hc (byte39.2 h)), Option.map_map]
          congr 2
          funext x
          simp)
        have HS : Hid ((ByteArray.mk l.toArray ++ ByteArray.mk [I2[k]].toArray) = ByteArray.mk (l ++ [I2[k]]).toArray) := Lib.hid (by rw [ByteArray.mk_append_mk])
        have hc2 : ((I2[k].toNat : Int) == 39) = false := by simpa using hc
        clear hdr hd
        go_wp2
        go_round
        case rel => exact ⟨k + 1, l ++ [I2[k]], by omega, by go_num, congrArg Value.string HS.out, by simp; omega, HX⟩
        case measure => simp [intOf]; omega
    · have HX : Hid (R = .tuple #[.string ⟨l.toArray⟩, .bool (prnL l)]) := Lib.hid (by
        rw [hd.out, List.drop_eq_nil_of_le (by rw [← Lib.size_eq]; omega)]
        simp [unq, uRes])
      have hq := hP l (by rw [size_toArray]; omega)
      clear hd
      go_wp2_with fail
      refine (hq _).mono ?_
      rintro e w1 ⟨rfl, rfl⟩
      go_wp2
      go_ret2
      exact ⟨congrArg Ending.returned HX.out.symm, rfl⟩
theorem unquote_no (s : ByteArray) (w : World) (hs : s.size ≤ 2097152) (h : (s.size < 2) ∨ (∃ h : 0 < s.size, 2 ≤ s.size ∧ ¬ (s[0].toNat : Int) = 39) ∨ (∃ h : s.size - 1 < s.size, 2 ≤ s.size ∧ (∃ h0 : 0 < s.size, (s[0].toNat : Int) = 39) ∧ ¬ (s[s.size - 1].toNat : Int) = 39)) :
    Calls Tryz.prog 55 #[.string s] w fun e w' => e = .returned (.tuple #[.string ⟨#[]⟩, .bool false]) ∧ w' = w := by
  rcases h with h | ⟨h0, h1, h2⟩ | ⟨h0, h1, ⟨h2, h3⟩, h4⟩
  · have hh : (s.size : Int) < 2 := by omega
    go_enter Tryz.func55, Tryz.ntmps55
    go_wp2
    go_ret2
    exact ⟨rfl, rfl⟩
  · have hh : ¬ (s.size : Int) < 2 := by omega
    have hc : ((s[0].toNat : Int) == 39) = false := by simpa using h2
    go_enter Tryz.func55, Tryz.ntmps55
    go_wp2
    go_ret2
    exact ⟨rfl, rfl⟩
  · have hh : ¬ (s.size : Int) < 2 := by omega
    have h6 : ((s.size : Int) - 1) = ((s.size - 1 : Nat) : Int) := by omega
    have hc : ((s[s.size - 1].toNat : Int) == 39) = false := by simpa using h4
    go_enter Tryz.func55, Tryz.ntmps55
    go_wp2
    go_ret2
    exact ⟨rfl, rfl⟩
end Go.Proofs.YthjnkekkjjcnfaaGreatDoor
