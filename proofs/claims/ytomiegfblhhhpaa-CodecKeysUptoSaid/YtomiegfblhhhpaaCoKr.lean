/-
  The reference's Key at any valid values: what it answers. Conditions: lengths.
-/
import Derived.Test.YtomiegfblhhhpaaCoKp
import Derived.Lib.ConvBytes
import Derived.Lib.SmallJoins
import Derived.WalkKit
import Derived.WalkSpells
import Derived.WalkLawsBesides
import Derived.Deep.QuietTactic
import Derived.BigQuiet
import Derived.Handy
import Derived.Lib.Hide
namespace Go.Proofs.Ytomiegfblhhhpaa
open Go.RowKit

theorem append_xg {ops : Array Oper} {rest : List Oper} {o : Oper} {a : Act} {Q : Exit → Act → World → Prop} (W : World) (hgd : o.guard = none) (s x : Operand)
    (ho : o.op = .call { callee := .builtin .append, args := #[s, x], argTypes := #[22, 22] }) (base : Nat) (v : Value) (l : List UInt8) (hs : a.eval s = v)
    (hown : W.ownsRow base 5 1 v l.length (bytV l)) (ad : Addr) (m : List UInt8) (L B c : Nat) (hx : a.eval x = .slice (some ad) m.length c) (hr : RdB W L B (.slice (some ad) m.length c) m) (hl : l.length + m.length ≤ 140737488355328) (hbase : base ≤ W.heap.size)
    (h : ∀ v' w', w'.ownsRow base 5 1 v' (l ++ m).length (bytV (l ++ m)) → Below base W w' → W.grownBy w' v.ownBlock → wpList Try.prog ops Q rest (a.put o.dst v') w') :
    wpList Try.prog ops Q (o :: rest) a W := by
  obtain ⟨i0, hi, hz0, hz1, hz2⟩ := info_partsB infoB
  refine wpList_append_own _ hgd s x 22 ho base 5 i0 (.int .u8 0) 1 1 Try.underlying22 hi hz0 hz1 hz2 rfl (by decide) v l.length (bytV l) hs hown ad m.length c (bytV m) hx (by rw [bytV_len]; omega)
    ?_ ?_ (by unfold maxLen; omega) (by omega) hbase ?_
  · intro j u hu
    unfold bytV at hu
    rw [List.getElem?_map, Option.map_eq_some_iff] at hu
    obtain ⟨b, hb, rfl⟩ := hu
    obtain ⟨ad2, h1, _, _, h4⟩ := hr.at hb
    injection h1 with h1; subst h1; exact h4
  · intro u hu
    unfold bytV at hu
    rw [List.mem_map] at hu
    obtain ⟨b, _, rfl⟩ := hu
    rfl
  · intro v' w' h1 h2 _
    exact h v' w' (by rw [bytV_app, List.length_append]; exact h1) ((Below.refl _ _).grown h2 hbase fun k hk => (hown.lt k hk).1) h2
theorem rdB_bytes2 (w : World) (g : Nat) (hg : g = w.heap.size) (C : Array Value) (l : List UInt8) (hC : C = (bytV l).toArray) (n : Nat) (hn : n = l.length) (hl : l.length ≤ 9223372036854775807) : RdB (w.alloc (.cells C 5)) 0 (w.alloc (.cells C 5)).heap.size (.slice (some ⟨g, 0, none⟩) n n) l := by
  subst hg
  exact rdB_bytes w C l hC n hn hl
theorem rdB_conv2 (w : World) (s : ByteArray) (hs : s.size ≤ 9223372036854775807) : RdB (Lib.bytesWorld w 5 s) 0 (Lib.bytesWorld w 5 s).heap.size (.slice (some ⟨w.heap.size, 0, none⟩) s.size (grownCap w s.size 0 5)) s.data.toList := by
  refine ⟨_, _, by rw [size_list], by rw [size_list]; exact hs, by rw [size_list]; exact grownCap_ge w s.size 0 _, fun k b hk => ⟨_, rfl, Nat.zero_le _, by rw [Lib.bytesWorld_size]; exact Nat.lt_succ_self _, ?_⟩⟩
  have hkl := (List.getElem?_eq_some_iff.1 hk).1
  rw [size_list] at hkl
  rw [cell_add0, Lib.bytesWorld_cell w _ s k hkl, List.getD_eq_getElem?_getD, hk]
  rfl
set_option maxRecDepth 100000 in
set_option maxHeartbeats 12800000 in
theorem rKey_any (v : Value) (ps : List Vl) (hok : okL ps = true) (w : World) (L : Nat) (hv : RdV w L w.heap.size v ps) (hl : szL ps ≤ 140737488355000) :
    Calls Try.prog 38 #[v] w (RetB w.heap.size w (keyL ps)) := by
  obtain ⟨A, c, rfl, hl63, hc⟩ := hv
  have HC := Lib.hid hc
  have HOK := Lib.hid hok
  have HLN := Lib.hid hl
  clear hc hok hl
  go_enter Try.func38, Try.ntmps38
  go_wp2
  go_loopw [3, 10] (fun key i wr => ∃ k : Nat, k ≤ ps.length ∧ i = .int .i64 k ∧ Hid (wr.ownsRow w.heap.size 5 1 key (keyL (ps.take k)).length (bytV (keyL (ps.take k)))) ∧ Below w.heap.size w wr) (fun _ i _ => ps.length - (intOf i).toNat)
  case atStart => exact ⟨0, Nat.zero_le _, rfl, Lib.hid (World.ownsRow_nil w _ _ 1), Below.refl _ _⟩
  case round =>
    obtain ⟨k, hk, rfl, HO, hbr⟩ := hrel
    have hbz := hbr.size
    by_cases hlt : k < ps.length
    · have hki : (k : Int) < ps.length := by omega
      have hkx := List.getElem?_eq_getElem hlt
      obtain ⟨ad, rfl, _, hab, c0, c1, c2⟩ := HC.out k _ hkx
      have d0 := (hbr.cell (p := ad.add (k * 3)) (by rw [add_block]; exact hab)).trans c0
      have d1 := (hbr.cell (p := ⟨(ad.add (k * 3)).block, (ad.add (k * 3)).off + 1, none⟩) (by show (ad.add (k * 3)).block < _; rw [add_block]; exact hab)).trans c1
      have d2 := (hbr.cell (p := ⟨(ad.add (k * 3)).block, (ad.add (k * 3)).off + 2, none⟩) (by show (ad.add (k * 3)).block < _; rw [add_block]; exact hab)).trans c2
      have hop := okL_at HOK.out hkx
      have hks := keyL_succ ps k hlt
      have hkl := keyL_len _ (okL_take HOK.out k)
      have hst := szL_take ps k _ hkx
      generalize ps[k] = p at *
      have HKS := Lib.hid hks
      have hbd : (keyL (ps.take k)).length + 11 + p.2.2.size ≤ 140737488355000 := by have := HLN.out; omega
      generalize hKK : keyL (ps.take k) = K at *
      clear c0 c1 c2 hkx hks hkl hst hKK
      rcases okP_cases hop with rfl | ⟨n, rfl, h1, h2⟩ | ⟨s, rfl, h1, h2⟩ | rfl | rfl
      · dsimp only at d0 d1 d2 hbd
        have b1 := bel_mark wr (.cells #[.int .i64 0, .int .i64 0, .string ⟨#[]⟩] 35)
        have b2 := bel_mark (wr.alloc (.cells #[.int .i64 0, .int .i64 0, .string ⟨#[]⟩] 35)) (.cells #[.int .u8 1] 5)
        have z1 := Nat.le_trans hbz b1.size
        have HAL := Lib.hid (own_below (own_below HO.out b1) b2)
        have HRB := Lib.hid (rdB_bytes2 (wr.alloc (.cells #[.int .i64 0, .int .i64 0, .string ⟨#[]⟩] 35)) (wr.heap.size + 1) (by simp) #[.int .u8 1] [1] rfl 1 rfl (by simp))
        have hzb := Nat.le_trans z1 b2.size
        have HBB := Lib.hid ((hbr.trans (b1.mono hbz)).trans (b2.mono z1))
        have HKS2 := Lib.hid (show keyL (ps.take (k + 1)) = K ++ [1] from HKS.out)
        have HL := Lib.hid (show K.length + ([1] : List UInt8).length ≤ 140737488355328 by simp; omega)
        clear b1 b2 hop hbr hbd HKS
        go_wp2_with (at_builtin; refine append_x _ rfl _ _ rfl w.heap.size _ K rfl HAL.out _ [1] _ _ rfl HRB.out (by rintro n' c' h'; cases h') HL.out hzb ?_; intro v2 w2 ho2 hb2)
        go_round
        case rel => exact ⟨k + 1, by omega, by go_num, Lib.hid (by rw [HKS2.out]; exact ho2), HBB.out.trans hb2⟩
        case measure => simp [intOf]; omega
      · dsimp only at d0 d1 d2 hbd
        have hN : shf n < 18446744073709551616 := by unfold shf; omega
        have hsh : IntKind.u64.wrap (IntKind.u64.wrap n + 9223372036854775808) = ((shf n : Nat) : Int) := by unfold shf; rw [IntKind.wrap_u64, IntKind.wrap_u64]; omega
        have HKS2 := Lib.hid (show keyL (ps.take (k + 1)) = (K ++ [2]) ++ ordB (shf n) by rw [HKS.out]; show K ++ ([2] ++ ordB (shf n)) = _; rw [List.append_assoc])
        have HL8 := Lib.hid (show (ordB (shf n)).length = 8 from rfl)
        generalize hNN : shf n = N at *
        clear hNN
        have b1 := bel_mark wr (.cells #[.int .i64 1, .int .i64 n, .string ⟨#[]⟩] 35)
        have b2 := bel_mark (wr.alloc (.cells #[.int .i64 1, .int .i64 n, .string ⟨#[]⟩] 35)) (.cells #[.int .u8 2] 5)
        have z1 := Nat.le_trans hbz b1.size
        have HAL := Lib.hid (own_below (own_below HO.out b1) b2)
        have HRB := Lib.hid (rdB_at (wr.alloc (.cells #[.int .i64 1, .int .i64 n, .string ⟨#[]⟩] 35)) (wr.heap.size + 1) (by simp) 2 (2 : UInt8) rfl)
        have hzb := Nat.le_trans z1 b2.size
        have HBB := Lib.hid ((hbr.trans (b1.mono hbz)).trans (b2.mono z1))
        have HL := Lib.hid (show K.length + ([2] : List UInt8).length ≤ 140737488355328 by simp; omega)
        have hbx := ((Own.new wr 35 #[.int .i64 1, .int .i64 n, .string ⟨#[]⟩]).alloc (.cells #[.int .u8 2] 5)).cell 1
        have hbx2 : ((wr.alloc (.cells #[.int .i64 1, .int .i64 n, .string ⟨#[]⟩] 35)).alloc (.cells #[.int .u8 2] 5)).cell? ⟨wr.heap.size, 1, none⟩ = some (.int .i64 n) := hbx
        have HBX := Lib.hid hbx2
        have HFAR := Lib.hid (fun g hg => (HO.out.lt g hg).2)
        clear b1 b2 hop hbr hbx hbx2
        go_wp2_with (at_builtin; refine append_xg _ rfl _ _ rfl w.heap.size _ K rfl HAL.out ⟨wr.heap.size + 1, 0, none⟩ [2] _ _ 1 rfl HRB.out HL.out hzb ?_; intro v2 w2 ho2 hb2 hg2; have hcx : w2.cell? ⟨wr.heap.size, 1, none⟩ = some (.int .i64 n) := (hg2.cell_far ⟨wr.heap.size, 1, none⟩ (by simp; omega) (fun e => absurd (HFAR.out _ e.symm) (by simp))).trans HBX.out; have HO2 := Lib.hid ho2; have B2 := HBB.out.trans hb2; have z2 := Nat.le_trans hzb hb2.size; clear ho2)
        go_loopw [3, 7] (fun out u wi => ∃ j : Nat, j ≤ 8 ∧ u = .int .u64 (([72057594037927936, 281474976710656, 1099511627776, 4294967296, 16777216, 65536, 256, 1, 0] : List Int).getD j 0) ∧ Hid (wi.ownsRow w.heap.size 5 1 out ((K ++ [2]) ++ (ordB N).take j).length (bytV ((K ++ [2]) ++ (ordB N).take j))) ∧ Below w.heap.size w wi ∧ w.heap.size ≤ wi.heap.size) (fun _ u _ => (intOf u).toNat)
        case atStart => exact ⟨0, by omega, rfl, Lib.hid (by rw [List.take_zero, List.append_nil]; exact HO2.out), B2, z2⟩
        case round =>
          obtain ⟨j, hj, rfl, HJ, hbi, hiz⟩ := hrel
          have hj8 : j = 0 ∨ j = 1 ∨ j = 2 ∨ j = 3 ∨ j = 4 ∨ j = 5 ∨ j = 6 ∨ j = 7 ∨ j = 8 := by omega
          clear hj hcx HO2 B2
          rcases hj8 with rfl | rfl | rfl | rfl | rfl | rfl | rfl | rfl | rfl
          all_goals (try simp only [List.getD_cons_zero, List.getD_cons_succ])
          · have hby : ((N : Int) / 72057594037927936 % 256) = ((UInt8.ofNat (N / 72057594037927936)).toNat : Int) := by rw [UInt8.toNat_ofNat']; omega
            have HE := Lib.hid (show (K ++ [2]) ++ (ordB N).take 0 ++ [UInt8.ofNat (N / 72057594037927936)] = (K ++ [2]) ++ (ordB N).take 1 by rw [List.append_assoc]; rfl)
            have bm := bel_mark wr (.cells #[.int .u8 ((N : Int) / 72057594037927936 % 256)] 5)
            have HAL := Lib.hid (own_below HJ.out bm)
            have HRB := Lib.hid (rdB_byte wr ((N : Int) / 72057594037927936 % 256) (UInt8.ofNat (N / 72057594037927936)) hby)
            have hzj := Nat.le_trans hiz bm.size
            have HB1 := Lib.hid (hbi.trans (bm.mono hiz))
            have hlk : ((K ++ [2]) ++ (ordB N).take 0).length + ([UInt8.ofNat (N / 72057594037927936)] : List UInt8).length ≤ 140737488355328 := by simp [ordB]; omega
            have HLK := Lib.hid hlk
            clear hby bm hlk
            go_wp2_with (at_builtin; refine append_x _ rfl _ _ rfl w.heap.size _ ((K ++ [2]) ++ (ordB N).take 0) rfl HAL.out _ [UInt8.ofNat (N / 72057594037927936)] _ _ rfl HRB.out (by rintro n' c' h'; cases h') HLK.out hzj ?_; intro v3 w3 ho3 hb3)
            go_round
            case rel => exact ⟨1, by omega, by first | rfl | go_num, Lib.hid (by rw [← HE.out]; exact ho3), HB1.out.trans hb3, Nat.le_trans hzj hb3.size⟩
            case measure => simp [intOf]
          · have hby : ((N : Int) / 281474976710656 % 256) = ((UInt8.ofNat (N / 281474976710656)).toNat : Int) := by rw [UInt8.toNat_ofNat']; omega
            have HE := Lib.hid (show (K ++ [2]) ++ (ordB N).take 1 ++ [UInt8.ofNat (N / 281474976710656)] = (K ++ [2]) ++ (ordB N).take 2 by rw [List.append_assoc]; rfl)
            have bm := bel_mark wr (.cells #[.int .u8 ((N : Int) / 281474976710656 % 256)] 5)
            have HAL := Lib.hid (own_below HJ.out bm)
            have HRB := Lib.hid (rdB_byte wr ((N : Int) / 281474976710656 % 256) (UInt8.ofNat (N / 281474976710656)) hby)
            have hzj := Nat.le_trans hiz bm.size
            have HB1 := Lib.hid (hbi.trans (bm.mono hiz))
            have hlk : ((K ++ [2]) ++ (ordB N).take 1).length + ([UInt8.ofNat (N / 281474976710656)] : List UInt8).length ≤ 140737488355328 := by simp [ordB]; omega
            have HLK := Lib.hid hlk
            clear hby bm hlk
            go_wp2_with (at_builtin; refine append_x _ rfl _ _ rfl w.heap.size _ ((K ++ [2]) ++ (ordB N).take 1) rfl HAL.out _ [UInt8.ofNat (N / 281474976710656)] _ _ rfl HRB.out (by rintro n' c' h'; cases h') HLK.out hzj ?_; intro v3 w3 ho3 hb3)
            go_round
            case rel => exact ⟨2, by omega, by first | rfl | go_num, Lib.hid (by rw [← HE.out]; exact ho3), HB1.out.trans hb3, Nat.le_trans hzj hb3.size⟩
            case measure => simp [intOf]
          · have hby : ((N : Int) / 1099511627776 % 256) = ((UInt8.ofNat (N / 1099511627776)).toNat : Int) := by rw [UInt8.toNat_ofNat']; omega
            have HE := Lib.hid (show (K ++ [2]) ++ (ordB N).take 2 ++ [UInt8.ofNat (N / 1099511627776)] = (K ++ [2]) ++ (ordB N).take 3 by rw [List.append_assoc]; rfl)
            have bm := bel_mark wr (.cells #[.int .u8 ((N : Int) / 1099511627776 % 256)] 5)
            have HAL := Lib.hid (own_below HJ.out bm)
            have HRB := Lib.hid (rdB_byte wr ((N : Int) / 1099511627776 % 256) (UInt8.ofNat (N / 1099511627776)) hby)
            have hzj := Nat.le_trans hiz bm.size
            have HB1 := Lib.hid (hbi.trans (bm.mono hiz))
            have hlk : ((K ++ [2]) ++ (ordB N).take 2).length + ([UInt8.ofNat (N / 1099511627776)] : List UInt8).length ≤ 140737488355328 := by simp [ordB]; omega
            have HLK := Lib.hid hlk
            clear hby bm hlk
            go_wp2_with (at_builtin; refine append_x _ rfl _ _ rfl w.heap.size _ ((K ++ [2]) ++ (ordB N).take 2) rfl HAL.out _ [UInt8.ofNat (N / 1099511627776)] _ _ rfl HRB.out (by rintro n' c' h'; cases h') HLK.out hzj ?_; intro v3 w3 ho3 hb3)
            go_round
            case rel => exact ⟨3, by omega, by first | rfl | go_num, Lib.hid (by rw [← HE.out]; exact ho3), HB1.out.trans hb3, Nat.le_trans hzj hb3.size⟩
            case measure => simp [intOf]
          · have hby : ((N : Int) / 4294967296 % 256) = ((UInt8.ofNat (N / 4294967296)).toNat : Int) := by rw [UInt8.toNat_ofNat']; omega
            have HE := Lib.hid (show (K ++ [2]) ++ (ordB N).take 3 ++ [UInt8.ofNat (N / 4294967296)] = (K ++ [2]) ++ (ordB N).take 4 by rw [List.append_assoc]; rfl)
            have bm := bel_mark wr (.cells #[.int .u8 ((N : Int) / 4294967296 % 256)] 5)
            have HAL := Lib.hid (own_below HJ.out bm)
            have HRB := Lib.hid (rdB_byte wr ((N : Int) / 4294967296 % 256) (UInt8.ofNat (N / 4294967296)) hby)
            have hzj := Nat.le_trans hiz bm.size
            have HB1 := Lib.hid (hbi.trans (bm.mono hiz))
            have hlk : ((K ++ [2]) ++ (ordB N).take 3).length + ([UInt8.ofNat (N / 4294967296)] : List UInt8).length ≤ 140737488355328 := by simp [ordB]; omega
            have HLK := Lib.hid hlk
            clear hby bm hlk
            go_wp2_with (at_builtin; refine append_x _ rfl _ _ rfl w.heap.size _ ((K ++ [2]) ++ (ordB N).take 3) rfl HAL.out _ [UInt8.ofNat (N / 4294967296)] _ _ rfl HRB.out (by rintro n' c' h'; cases h') HLK.out hzj ?_; intro v3 w3 ho3 hb3)
            go_round
            case rel => exact ⟨4, by omega, by first | rfl | go_num, Lib.hid (by rw [← HE.out]; exact ho3), HB1.out.trans hb3, Nat.le_trans hzj hb3.size⟩
            case measure => simp [intOf]
          · have hby : ((N : Int) / 16777216 % 256) = ((UInt8.ofNat (N / 16777216)).toNat : Int) := by rw [UInt8.toNat_ofNat']; omega
            have HE := Lib.hid (show (K ++ [2]) ++ (ordB N).take 4 ++ [UInt8.ofNat (N / 16777216)] = (K ++ [2]) ++ (ordB N).take 5 by rw [List.append_assoc]; rfl)
            have bm := bel_mark wr (.cells #[.int .u8 ((N : Int) / 16777216 % 256)] 5)
            have HAL := Lib.hid (own_below HJ.out bm)
            have HRB := Lib.hid (rdB_byte wr ((N : Int) / 16777216 % 256) (UInt8.ofNat (N / 16777216)) hby)
            have hzj := Nat.le_trans hiz bm.size
            have HB1 := Lib.hid (hbi.trans (bm.mono hiz))
            have hlk : ((K ++ [2]) ++ (ordB N).take 4).length + ([UInt8.ofNat (N / 16777216)] : List UInt8).length ≤ 140737488355328 := by simp [ordB]; omega
            have HLK := Lib.hid hlk
            clear hby bm hlk
            go_wp2_with (at_builtin; refine append_x _ rfl _ _ rfl w.heap.size _ ((K ++ [2]) ++ (ordB N).take 4) rfl HAL.out _ [UInt8.ofNat (N / 16777216)] _ _ rfl HRB.out (by rintro n' c' h'; cases h') HLK.out hzj ?_; intro v3 w3 ho3 hb3)
            go_round
            case rel => exact ⟨5, by omega, by first | rfl | go_num, Lib.hid (by rw [← HE.out]; exact ho3), HB1.out.trans hb3, Nat.le_trans hzj hb3.size⟩
            case measure => simp [intOf]
          · have hby : ((N : Int) / 65536 % 256) = ((UInt8.ofNat (N / 65536)).toNat : Int) := by rw [UInt8.toNat_ofNat']; omega
            have HE := Lib.hid (show (K ++ [2]) ++ (ordB N).take 5 ++ [UInt8.ofNat (N / 65536)] = (K ++ [2]) ++ (ordB N).take 6 by rw [List.append_assoc]; rfl)
            have bm := bel_mark wr (.cells #[.int .u8 ((N : Int) / 65536 % 256)] 5)
            have HAL := Lib.hid (own_below HJ.out bm)
            have HRB := Lib.hid (rdB_byte wr ((N : Int) / 65536 % 256) (UInt8.ofNat (N / 65536)) hby)
            have hzj := Nat.le_trans hiz bm.size
            have HB1 := Lib.hid (hbi.trans (bm.mono hiz))
            have hlk : ((K ++ [2]) ++ (ordB N).take 5).length + ([UInt8.ofNat (N / 65536)] : List UInt8).length ≤ 140737488355328 := by simp [ordB]; omega
            have HLK := Lib.hid hlk
            clear hby bm hlk
            go_wp2_with (at_builtin; refine append_x _ rfl _ _ rfl w.heap.size _ ((K ++ [2]) ++ (ordB N).take 5) rfl HAL.out _ [UInt8.ofNat (N / 65536)] _ _ rfl HRB.out (by rintro n' c' h'; cases h') HLK.out hzj ?_; intro v3 w3 ho3 hb3)
            go_round
            case rel => exact ⟨6, by omega, by first | rfl | go_num, Lib.hid (by rw [← HE.out]; exact ho3), HB1.out.trans hb3, Nat.le_trans hzj hb3.size⟩
            case measure => simp [intOf]
          · have hby : ((N : Int) / 256 % 256) = ((UInt8.ofNat (N / 256)).toNat : Int) := by rw [UInt8.toNat_ofNat']; omega
            have HE := Lib.hid (show (K ++ [2]) ++ (ordB N).take 6 ++ [UInt8.ofNat (N / 256)] = (K ++ [2]) ++ (ordB N).take 7 by rw [List.append_assoc]; rfl)
            have bm := bel_mark wr (.cells #[.int .u8 ((N : Int) / 256 % 256)] 5)
            have HAL := Lib.hid (own_below HJ.out bm)
            have HRB := Lib.hid (rdB_byte wr ((N : Int) / 256 % 256) (UInt8.ofNat (N / 256)) hby)
            have hzj := Nat.le_trans hiz bm.size
            have HB1 := Lib.hid (hbi.trans (bm.mono hiz))
            have hlk : ((K ++ [2]) ++ (ordB N).take 6).length + ([UInt8.ofNat (N / 256)] : List UInt8).length ≤ 140737488355328 := by simp [ordB]; omega
            have HLK := Lib.hid hlk
            clear hby bm hlk
            go_wp2_with (at_builtin; refine append_x _ rfl _ _ rfl w.heap.size _ ((K ++ [2]) ++ (ordB N).take 6) rfl HAL.out _ [UInt8.ofNat (N / 256)] _ _ rfl HRB.out (by rintro n' c' h'; cases h') HLK.out hzj ?_; intro v3 w3 ho3 hb3)
            go_round
            case rel => exact ⟨7, by omega, by first | rfl | go_num, Lib.hid (by rw [← HE.out]; exact ho3), HB1.out.trans hb3, Nat.le_trans hzj hb3.size⟩
            case measure => simp [intOf]
          · have hby : ((N : Int) % 256) = ((UInt8.ofNat N).toNat : Int) := by rw [UInt8.toNat_ofNat']; omega
            have HE := Lib.hid (show (K ++ [2]) ++ (ordB N).take 7 ++ [UInt8.ofNat N] = (K ++ [2]) ++ (ordB N).take 8 by rw [List.append_assoc]; rfl)
            have bm := bel_mark wr (.cells #[.int .u8 ((N : Int) % 256)] 5)
            have HAL := Lib.hid (own_below HJ.out bm)
            have HRB := Lib.hid (rdB_byte wr ((N : Int) % 256) (UInt8.ofNat N) hby)
            have hzj := Nat.le_trans hiz bm.size
            have HB1 := Lib.hid (hbi.trans (bm.mono hiz))
            have hlk : ((K ++ [2]) ++ (ordB N).take 7).length + ([UInt8.ofNat N] : List UInt8).length ≤ 140737488355328 := by simp [ordB]; omega
            have HLK := Lib.hid hlk
            clear hby bm hlk
            go_wp2_with (at_builtin; refine append_x _ rfl _ _ rfl w.heap.size _ ((K ++ [2]) ++ (ordB N).take 7) rfl HAL.out _ [UInt8.ofNat N] _ _ rfl HRB.out (by rintro n' c' h'; cases h') HLK.out hzj ?_; intro v3 w3 ho3 hb3)
            go_round
            case rel => exact ⟨8, by omega, by first | rfl | go_num, Lib.hid (by rw [← HE.out]; exact ho3), HB1.out.trans hb3, Nat.le_trans hzj hb3.size⟩
            case measure => simp [intOf]
          · rw [List.take_of_length_le (by rw [HL8.out]; exact Nat.le_refl 8)] at HJ
            go_wp2
            go_round
            case rel => exact ⟨k + 1, by omega, by go_num, Lib.hid (by rw [HKS2.out]; exact HJ.out), hbi⟩
            case measure => simp [intOf]; omega
      · dsimp only at d0 d1 d2 hbd
        have b1 := bel_mark wr (.cells #[.int .i64 2, .int .i64 0, .string s] 35)
        have b2 := bel_mark (wr.alloc (.cells #[.int .i64 2, .int .i64 0, .string s] 35)) (.cells #[.int .u8 3] 5)
        have z1 := Nat.le_trans hbz b1.size
        have HAL := Lib.hid (own_below (own_below HO.out b1) b2)
        have HRB := Lib.hid (rdB_at (wr.alloc (.cells #[.int .i64 2, .int .i64 0, .string s] 35)) (wr.heap.size + 1) (by simp) 3 (3 : UInt8) rfl)
        have hzb := Nat.le_trans z1 b2.size
        have HBB := Lib.hid ((hbr.trans (b1.mono hbz)).trans (b2.mono z1))
        have HL := Lib.hid (show K.length + ([3] : List UInt8).length ≤ 140737488355328 by simp; omega)
        have hbx := ((Own.new wr 35 #[.int .i64 2, .int .i64 0, .string s]).alloc (.cells #[.int .u8 3] 5)).cell 2
        have hbx2 : ((wr.alloc (.cells #[.int .i64 2, .int .i64 0, .string s] 35)).alloc (.cells #[.int .u8 3] 5)).cell? ⟨wr.heap.size, 2, none⟩ = some (.string s) := hbx
        have HBX := Lib.hid hbx2
        have HFAR := Lib.hid (fun g hg => (HO.out.lt g hg).2)
        clear b1 b2 hop hbr hbx hbx2
        have hcv := fun W => Lib.run_convert_string_bytes (P := Try.prog) W 9 22 5 s Try.underlying9 Try.underlying22 Try.underlying5
        have HL3 := Lib.hid (show (K ++ [3]).length + s.data.toList.length ≤ 140737488355328 by rw [size_list]; simp; omega)
        have HL5 := Lib.hid (show ((K ++ [3]) ++ s.data.toList).length + ([0] : List UInt8).length ≤ 140737488355328 by rw [List.length_append, size_list]; simp; omega)
        have HKS2 := Lib.hid (show keyL (ps.take (k + 1)) = ((K ++ [3]) ++ s.data.toList) ++ [0] by rw [HKS.out]; show K ++ ([3] ++ s.data.toList ++ [0]) = _; simp [List.append_assoc])
        go_wp2_with (first
          | (at_builtin; refine append_xg _ rfl _ _ rfl w.heap.size _ K rfl HAL.out ⟨wr.heap.size + 1, 0, none⟩ [3] _ _ 1 rfl HRB.out HL.out hzb ?_; intro v2 w2 ho2 hb2 hg2; have hcx : w2.cell? ⟨wr.heap.size, 2, none⟩ = some (.string s) := (hg2.cell_far ⟨wr.heap.size, 2, none⟩ (by simp; omega) (fun e => absurd (HFAR.out _ e.symm) (by simp))).trans HBX.out; have HO2 := Lib.hid ho2; have B2 := HBB.out.trans hb2; have z2 := Nat.le_trans hzb hb2.size; clear ho2; have bc := Go.Joins.below_bytesWorld w2.heap.size w2 5 s (Nat.le_refl _); have HRC := Lib.hid (rdB_conv2 w2 s (by omega)); have HAL3 := Lib.hid (own_below HO2.out bc); have z3 := Nat.le_trans z2 bc.size; have HB3 := Lib.hid (B2.trans (bc.mono z2)); clear bc B2)
          | (at_builtin; refine append_x _ rfl _ _ rfl w.heap.size _ (K ++ [3]) rfl HAL3.out _ s.data.toList _ _ rfl HRC.out (by rintro n' c' h'; cases h') HL3.out z3 ?_; intro v4 w4 ho4 hb4; have HB4 := Lib.hid (HB3.out.trans hb4); have z4 := Nat.le_trans z3 hb4.size; have HAL5 := Lib.hid (own_below ho4 (bel_mark w4 (.cells #[.int .u8 0] 5))); have HRB5 := Lib.hid (rdB_byte w4 0 (0 : UInt8) rfl); have z5 := Nat.le_trans z4 (bel_mark w4 (.cells #[.int .u8 0] 5)).size; have HB5 := Lib.hid (HB4.out.trans ((bel_mark w4 (.cells #[.int .u8 0] 5)).mono z4)); clear ho4)
          | (at_builtin; refine append_x _ rfl _ _ rfl w.heap.size _ ((K ++ [3]) ++ s.data.toList) rfl HAL5.out _ [0] _ _ rfl HRB5.out (by rintro n' c' h'; cases h') HL5.out z5 ?_; intro v6 w6 ho6 hb6))
        go_round
        case rel => exact ⟨k + 1, by omega, by go_num, Lib.hid (by rw [HKS2.out]; exact ho6), HB5.out.trans hb6⟩
        case measure => simp [intOf]; omega
      · dsimp only at d0 d1 d2 hbd
        have b1 := bel_mark wr (.cells #[.int .i64 3, .int .i64 0, .string ⟨#[]⟩] 35)
        have b2 := bel_mark (wr.alloc (.cells #[.int .i64 3, .int .i64 0, .string ⟨#[]⟩] 35)) (.cells #[.int .u8 4, .int .u8 0] 5)
        have z1 := Nat.le_trans hbz b1.size
        have HAL := Lib.hid (own_below (own_below HO.out b1) b2)
        have HRB := Lib.hid (rdB_bytes2 (wr.alloc (.cells #[.int .i64 3, .int .i64 0, .string ⟨#[]⟩] 35)) (wr.heap.size + 1) (by simp) #[.int .u8 4, .int .u8 0] [4, 0] rfl 2 rfl (by simp))
        have hzb := Nat.le_trans z1 b2.size
        have HBB := Lib.hid ((hbr.trans (b1.mono hbz)).trans (b2.mono z1))
        have HKS2 := Lib.hid (show keyL (ps.take (k + 1)) = K ++ [4, 0] from HKS.out)
        have HL := Lib.hid (show K.length + ([4, 0] : List UInt8).length ≤ 140737488355328 by simp; omega)
        clear b1 b2 hop hbr hbd HKS
        go_wp2_with (at_builtin; refine append_x _ rfl _ _ rfl w.heap.size _ K rfl HAL.out _ [4, 0] _ _ rfl HRB.out (by rintro n' c' h'; cases h') HL.out hzb ?_; intro v2 w2 ho2 hb2)
        go_round
        case rel => exact ⟨k + 1, by omega, by go_num, Lib.hid (by rw [HKS2.out]; exact ho2), HBB.out.trans hb2⟩
        case measure => simp [intOf]; omega
      · dsimp only at d0 d1 d2 hbd
        have b1 := bel_mark wr (.cells #[.int .i64 3, .int .i64 1, .string ⟨#[]⟩] 35)
        have b2 := bel_mark (wr.alloc (.cells #[.int .i64 3, .int .i64 1, .string ⟨#[]⟩] 35)) (.cells #[.int .u8 4, .int .u8 1] 5)
        have z1 := Nat.le_trans hbz b1.size
        have HAL := Lib.hid (own_below (own_below HO.out b1) b2)
        have HRB := Lib.hid (rdB_bytes2 (wr.alloc (.cells #[.int .i64 3, .int .i64 1, .string ⟨#[]⟩] 35)) (wr.heap.size + 1) (by simp) #[.int .u8 4, .int .u8 1] [4, 1] rfl 2 rfl (by simp))
        have hzb := Nat.le_trans z1 b2.size
        have HBB := Lib.hid ((hbr.trans (b1.mono hbz)).trans (b2.mono z1))
        have HKS2 := Lib.hid (show keyL (ps.take (k + 1)) = K ++ [4, 1] from HKS.out)
        have HL := Lib.hid (show K.length + ([4, 1] : List UInt8).length ≤ 140737488355328 by simp; omega)
        clear b1 b2 hop hbr hbd HKS
        go_wp2_with (at_builtin; refine append_x _ rfl _ _ rfl w.heap.size _ K rfl HAL.out _ [4, 1] _ _ rfl HRB.out (by rintro n' c' h'; cases h') HL.out hzb ?_; intro v2 w2 ho2 hb2)
        go_round
        case rel => exact ⟨k + 1, by omega, by go_num, Lib.hid (by rw [HKS2.out]; exact ho2), HBB.out.trans hb2⟩
        case measure => simp [intOf]; omega
    · have hki : ¬ (k : Int) < ps.length := by omega
      rw [List.take_of_length_le (by omega)] at HO
      go_wp2
      go_ret
      exact ⟨_, rfl, HO.out, hbr⟩
end Go.Proofs.Ytomiegfblhhhpaa
