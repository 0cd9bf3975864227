/-
  The document's answer for package crc, more: the row of bits; More; Sum.
-/
import Derived.Test.YtpdkfafnffihjaaDoorCRef
namespace Go.Proofs.YtpdkfafnffihjaaDoor
open Go.RowKit

set_option maxHeartbeats 1000000 in
/-- bits: a row's bits, each byte's least one first. -/
theorem bitrow_any {l1 h1 : Nat} (l : List Int) (w : World) (v : Value) (hl : RdI .u8 l1 h1 w v l) (hb : ∀ y ∈ l, 0 ≤ y ∧ y < 256) (hn : l.length ≤ 1000000) :
    Calls Tryd.prog 34 #[v] w fun e w' => ∃ v', e = .returned v' ∧ w'.ownsRow w.heap.size 4 1 v' (Crc.bitsL (nats l)).length ((Crc.bitsL (nats l)).map .bool) ∧ Kp 0 0 w w' := by
  obtain ⟨ao, c, rfl, _, _, hc⟩ := hl.open
  obtain ⟨i0, hi, hz0, hz1, hz2⟩ := info_parts info_bool
  have HC := Lib.hid hc
  have HB := Lib.hid hb
  have HF : Hid (∀ (v' : Value) (w' : World), w'.ownsRow w.heap.size 4 1 v' (8 * l.length) ((Crc.bitsL ((nats l).take l.length)).map .bool) → w'.ownsRow w.heap.size 4 1 v' (Crc.bitsL (nats l)).length ((Crc.bitsL (nats l)).map .bool)) := fun v' w' h => by
    rw [← nats_len l, List.take_length] at h
    rw [Crc.bitsL_len]
    exact h
  clear hl hb hc
  go_enter Tryd.func34, Tryd.ntmps34
  go_wp2_with fail
  go_loopw [3, 4] (fun v' i wr => ∃ k : Nat, k ≤ l.length ∧ i = .int .i64 k ∧ wr.ownsRow w.heap.size 4 1 v' (8 * k) ((Crc.bitsL ((nats l).take k)).map .bool) ∧ Kp 0 0 w wr) (fun _ i _ => l.length - (intOf i).toNat)
  case atStart => exact ⟨0, Nat.zero_le _, rfl, World.ownsRow_nil _ _ _ _, Kp.refl _ _ _⟩
  case round =>
    obtain ⟨k, hk, rfl, hown, hkp⟩ := hrel
    by_cases hlt : k < l.length
    · obtain ⟨b1, o1, rfl, _, _, hc1⟩ := HC.out (by omega)
      have c1 := hc1 k hlt
      have hx := HB.out _ (mem_getD hlt)
      have hS : (nats l).take (k + 1) = (nats l).take k ++ [(l.getD k 0).toNat] := by
        rw [take_snoc_nat (by rw [nats_len]; exact hlt), nats_getD hlt]
      clear hc1
      generalize l.getD k 0 = x at c1 hx hS
      obtain ⟨X, rfl⟩ := Int.eq_ofNat_of_zero_le hx.1
      have hX : X < 256 := by omega
      clear hx
      rw [Int.toNat_natCast] at hS
      have HS := Lib.hid hS
      clear hS
      have HOWN := Lib.hid hown
      have HKP := Lib.hid hkp
      have C1 := Lib.hid c1
      clear hown hkp c1
      obtain ⟨wo, rfl⟩ : ∃ wo, wo = wr := ⟨_, rfl⟩
      generalize (nats l).take k = pre at HOWN HS
      go_wp2_with fail
      go_loopw [3, 5] (fun v' i wr => ∃ j : Nat, j ≤ 8 ∧ i = .int .i64 j ∧ wr.ownsRow w.heap.size 4 1 v' (8 * k + j) ((Crc.bitsL pre ++ (Crc.bit8 X).take j).map .bool) ∧ Kp 0 0 w wr) (fun _ i _ => 8 - (intOf i).toNat)
      case atStart => exact ⟨0, Nat.zero_le _, rfl, by simpa using HOWN.out, HKP.out⟩
      case round =>
        obtain ⟨j, hj, rfl, hown, hkp⟩ := hrel
        by_cases hlj : j < 8
        · have c1 := hkp.cell C1.out (.inr (Nat.zero_le _))
          have HJ := Lib.hid (Crc.bit8_snoc X hlj)
          have hq : ((X : Int) / 2 ^ j) = ((X / 2 ^ j : Nat) : Int) := by simp
          generalize X / 2 ^ j = D at hq HJ
          have e1 : ((D : Int) % 2 == 1) = (D % 2 == 1) := by
            rcases Nat.mod_two_eq_zero_or_one D with e | e
            · have : (D : Int) % 2 = 0 := by omega
              rw [e, this]
              rfl
            · have : (D : Int) % 2 = 1 := by omega
              rw [e, this]
              rfl
          generalize (D % 2 == 1) = b at e1 HJ
          have j1 : (0 : Int) ≤ (j : Int) := Int.natCast_nonneg _
          have hsz := hkp.size
          go_wp2_with (at_builtin; refine wpList_append_own _ rfl _ _ 58 rfl w.heap.size 4 i0 (.bool false) 1 1 Tryd.underlying58 hi hz0 hz1 hz2 rfl (by decide) _ _ _ rfl (hown.alloc _) ⟨wr.heap.size, 0, none⟩ 1 1 [.bool b] rfl rfl (cell_one _ _ _) (by simp [Value.oneCell']) ?c3 ?c4 ?c5 ?_)
          case c3 => unfold maxLen; omega
          case c4 => omega
          case c5 => simp; omega
          intro v' w1 hown' hg _
          have HK : Hid (Kp 0 0 w w1) := (hkp.alloc _).grown hg fun q hq => .inl ((hown.lt q hq).1)
          have HO := Lib.hid hown'
          clear hown' hg hown hkp
          go_wp2_with fail
          go_roundw
          case rel =>
            refine ⟨j + 1, by omega, by go_num, ?_, HK.out⟩
            have ho := HO.out
            rw [HJ.out, ← List.append_assoc, List.map_append]
            simpa [Nat.add_assoc] using ho
          case measure => simp [intOf]; omega
        · obtain rfl : j = 8 := by omega
          have HFO : Hid (wr.ownsRow w.heap.size 4 1 u3 (8 * (k + 1)) ((Crc.bitsL (pre ++ [X])).map .bool)) := by
            show World.ownsRow _ _ _ _ _ _ _
            rw [Crc.bitsL_snoc]
            rw [List.take_of_length_le (Nat.le_of_eq (Crc.bit8_len _))] at hown
            have : 8 * (k + 1) = 8 * k + 8 := by omega
            rw [this]
            exact hown
          have HK := Lib.hid hkp
          clear hown hkp
          go_wp2_with fail
          go_roundw
          case rel => exact ⟨k + 1, by omega, by go_num, by rw [HS.out]; exact HFO.out, HK.out⟩
          case measure => simp [intOf]; omega
    · obtain rfl : k = l.length := by omega
      go_wp2_with fail
      go_ret
      exact ⟨_, rfl, HF.out _ _ hown, hkp⟩

set_option maxHeartbeats 1000000 in
/-- The document's More. -/
theorem refMore_any {l1 h1 : Nat} (s : Nat) (l : List Int) (w : World) (v : Value) (hs : s < 4294967296) (hl : RdI .u8 l1 h1 w v l) (hb : ∀ y ∈ l, 0 ≤ y ∧ y < 256) (hn : l.length ≤ 1000000) :
    Calls Tryd.prog 32 #[.int .u32 s, v] w fun e w' => e = .returned (.int .u32 (Crc.more s (nats l) : Nat)) ∧ Kp 0 0 w w' := by
  have HBR := Lib.hid (bitrow_any l w v hl hb hn)
  obtain ⟨ao, c, rfl, _, _, _⟩ := hl.open
  have HO : Hid (bits .xor .u32 (s : Int) 4294967295 = ((4294967295 ^^^ s : Nat) : Int)) := by
    show _ = _
    rw [Nat.xor_comm]
    exact u32_xor_nat s 4294967295 hs (by decide)
  have hS := Crc.ones_lt hs
  have hln := Crc.bitsL_len (nats l)
  rw [nats_len] at hln
  have HM : Hid (Crc.more s (nats l) = 4294967295 ^^^ Crc.bfold (4294967295 ^^^ s) ((Crc.bitsL (nats l)).take (Crc.bitsL (nats l)).length)) := by
    show _ = _
    rw [List.take_length, Crc.bits_fold _ _ (nats_lt hb)]
    rfl
  generalize 4294967295 ^^^ s = S at HO hS HM
  generalize Crc.bitsL (nats l) = bs at HBR hln HM
  clear hl hb
  go_enter Tryd.func32, Tryd.ntmps32
  go_wp2_with fail
  rw [HO.out]
  refine HBR.out.mono ?_
  rintro e w1 ⟨v', rfl, hown, hk⟩
  obtain ⟨aob, cb, rfl, hb1, hb2, HCB⟩ := ownB_open hown
  have HK1 := Lib.hid hk
  clear hown hk
  go_wp2_with fail
  go_loopw [5, 7] (fun r i wr => ∃ k R : Nat, k ≤ bs.length ∧ i = .int .i64 k ∧ r = .int .u32 R ∧ R < 4294967296 ∧ Hid (Crc.bfold S (bs.take k) = R) ∧ Kp 0 0 w1 wr) (fun _ i _ => bs.length - (intOf i).toNat)
  case atStart => exact ⟨0, S, Nat.zero_le _, rfl, rfl, hS, rfl, Kp.refl _ _ _⟩
  case round =>
    obtain ⟨k, R, hk, rfl, rfl, hR, HR, hkp⟩ := hrel
    by_cases hlt : k < bs.length
    · obtain ⟨g, rfl, hcc⟩ := HCB.out (by omega)
      have c1 := hkp.cell (hcc k hlt) (.inr (Nat.zero_le _))
      have HS : Hid (Crc.bfold S (bs.take (k + 1)) = Crc.hb R (bs.getD k false)) := by
        show _ = _
        rw [List.take_succ_eq_append_getElem hlt]
        unfold Crc.bfold at HR ⊢
        rw [List.foldl_append, HR.out]
        simp [List.getD, hlt]
      clear hcc
      generalize bs.getD k false = b at c1 HS
      have HKP := Lib.hid hkp
      clear hkp
      go_wp2_with fail
      refine (halves_any R b _ hR).mono ?_
      rintro e w2 ⟨rfl, rfl⟩
      have hR2 := Crc.hb_lt hR b
      generalize Crc.hb R b = R2 at HS hR2 ⊢
      go_wp2_with fail
      go_roundw
      case rel => exact ⟨k + 1, R2, by omega, by go_num, rfl, hR2, HS, HKP.out⟩
      case measure => simp [intOf]; omega
    · obtain rfl : k = bs.length := by omega
      have HX : Hid (bits .xor .u32 (R : Int) 4294967295 = ((4294967295 ^^^ R : Nat) : Int)) := by
        show _ = _
        rw [Nat.xor_comm]
        exact u32_xor_nat R 4294967295 hR (by decide)
      go_wp2_with fail
      rw [HX.out]
      go_ret
      rw [HM.out, HR.out]
      exact ⟨rfl, HK1.out.trans hkp⟩

/-- The document's Sum. -/
theorem refSum_any {l1 h1 : Nat} (l : List Int) (w : World) (v : Value) (hl : RdI .u8 l1 h1 w v l) (hb : ∀ y ∈ l, 0 ≤ y ∧ y < 256) (hn : l.length ≤ 1000000) :
    Calls Tryd.prog 26 #[v] w fun e w' => e = .returned (.int .u32 (Crc.more 0 (nats l) : Nat)) ∧ Kp 0 0 w w' := by
  have HB := Lib.hid (refMore_any 0 l w v (by decide) hl hb hn)
  obtain ⟨ao, c, rfl, _, _, _⟩ := hl.open
  clear hl hb
  go_enter Tryd.func26, Tryd.ntmps26
  go_wp2_with fail
  refine HB.out.mono ?_
  rintro e w1 ⟨rfl, hk⟩
  go_wp2_with fail
  go_ret
  exact ⟨rfl, hk⟩

end Go.Proofs.YtpdkfafnffihjaaDoor
