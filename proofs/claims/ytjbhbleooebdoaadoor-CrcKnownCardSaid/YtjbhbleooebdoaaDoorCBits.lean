/-
  CrcBits as a contract.
-/
import Derived.Test.YtjbhbleooebdoaaDoorSaid
import Derived.Test.YtjbhbleooebdoaaDoorPick
import Derived.Test.YtjbhbleooebdoaaDoorRow8
namespace Go.Proofs.YtjbhbleooebdoaaDoor
open Go.RowKit

set_option maxRecDepth 100000 in
set_option maxHeartbeats 2000000 in
theorem bits_any {h0 : Nat} (lb : List Int) (at0 : Int) (W : Nat) (w : World) (vb : Value) (a1 : -9223372036854775808 ≤ at0) (a2 : at0 ≤ 9223372036854775807) (hW : W < 4294967296) (hb : RdI .u8 0 h0 w vb lb) (rb : ∀ y ∈ lb, 0 ≤ y ∧ y < 256) (hT : Tabs w) :
    Calls Tryd.prog 7 #[vb, .int .i64 at0, .int .u32 W] w fun e w' => e = .returned (.bool true) ∧ Kp 0 0 w w' := by
  obtain ⟨ao, ca, rfl, hb1, hb2, _⟩ := hb.open
  have HB := Lib.hid hb
  have RB := Lib.hid rb
  have HT := Lib.hid hT
  clear hb rb hT
  by_cases h12 : 4096 < lb.length
  · go_enter Tryd.func7, Tryd.ntmps7
    go_wp2_with fail
    refine (said_any w HT.out).mono ?_
    rintro e w1 ⟨rfl, hk⟩
    go_wp2_with fail
    go_ret
    exact ⟨rfl, hk⟩
  by_cases h00 : lb.length = 0
  · have h01 : ((lb.length : Int) == 0) = true := by simp [h00]
    go_enter Tryd.func7, Tryd.ntmps7
    go_wp2_with fail
    refine (said_any w HT.out).mono ?_
    rintro e w1 ⟨rfl, hk⟩
    go_wp2_with fail
    go_ret
    exact ⟨rfl, hk⟩
  have h01 : ((lb.length : Int) == 0) = false := beq_eq_false_iff_ne.2 (by omega)
  go_enter Tryd.func7, Tryd.ntmps7
  go_wp2_with fail
  refine (pick_any at0 _ _ a1 a2 (by omega)).mono ?_
  rintro e w1 ⟨rfl, rfl⟩
  have hp := pick_range (k := at0) (n := 8 * (lb.length : Int)) (by omega)
  generalize pick at0 (8 * (lb.length : Int)) = q at hp ⊢
  obtain ⟨f, rfl⟩ := Int.eq_ofNat_of_zero_le hp.1
  have hf : f < 8 * lb.length := by omega
  clear hp
  go_wp2_with fail
  refine (copy_any _ _ lb HB.out (by omega)).mono ?_
  rintro e w1 ⟨vx, rfl, hown, hk⟩
  have HL : Hid (ints (nats lb) = lb) := ints_nats RB.out
  rw [← HL.out] at hown
  obtain ⟨g, cap, rfl, hg1, hg2, hn, hc, hrow⟩ := hown.row8 (by rw [nats_len]; omega)
  rw [nats_len] at *
  have HK1 := Lib.hid hk
  have HR1 := Lib.hid hrow
  clear hown hk hrow
  go_wp2_with fail
  have d1 : decide ((4096 : Int) < (lb.length : Int)) = false := decide_eq_false (by omega)
  rw [d1]
  clear d1
  go_loopw [8, 9] (fun nv i wr => ∃ (k t : Nat) (lx : List Nat), k ≤ 32 ∧ f + k ≤ 8 * lb.length ∧ i = .int .i64 k ∧ nv = .int .i64 t ∧ t ≤ k ∧ lx.length = lb.length ∧ Hid (∀ x ∈ lx, x < 256) ∧ Hid (Crc.num lx = Crc.num (nats lb) ^^^ 2 ^ f * (W % 2 ^ k)) ∧ Hid (0 < t ↔ W % 2 ^ k ≠ 0) ∧ Row8 wr g lx ∧ Kp g (g + 1) w1 wr) (fun _ i _ => 32 - (intOf i).toNat)
  case atStart =>
    exact ⟨0, 0, nats lb, Nat.zero_le _, by omega, rfl, rfl, Nat.le_refl _, nats_len _, nats_lt RB.out, by show _ = _; rw [Nat.pow_zero, Nat.mod_one, Nat.mul_zero, Nat.xor_zero], by show _ ↔ _; rw [Nat.pow_zero, Nat.mod_one]; simp, HR1.out, Kp.refl _ _ _⟩
  case round =>
    obtain ⟨k, t, lx, hk, hfk, rfl, rfl, htk, hlx, HLX, HNU, HTT, hrow, hkp⟩ := hrel
    have HROW := Lib.hid hrow
    have HKP := Lib.hid hkp
    clear hkp
    by_cases hgo : k < 32 ∧ f + k < 8 * lb.length
    · obtain ⟨hk32, hfl⟩ := hgo
      have j1 : (0 : Int) ≤ (k : Int) := Int.natCast_nonneg _
      have hq : ((W : Int) / 2 ^ k).tmod 2 = ((W / 2 ^ k % 2 : Nat) : Int) := by
        have : ((W : Int) / 2 ^ k) = ((W / 2 ^ k : Nat) : Int) := by simp
        rw [this, Int.tmod_eq_emod_of_nonneg (Int.natCast_nonneg _)]
        omega
      by_cases hbit : W / 2 ^ k % 2 = 1
      · have hbt : (((W : Int) / 2 ^ k).tmod 2 == 1) = true := by
          rw [hq, hbit]
          rfl
        clear hq
        obtain ⟨c1, c2⟩ := hrow.cell (k := (f + k) / 8) (by omega)
        clear hrow
        have hX := getD_byte HLX.out ((f + k) / 8)
        have HNX : Hid (Crc.num (lx.set ((f + k) / 8) (lx.getD ((f + k) / 8) 0 ^^^ 2 ^ ((f + k) % 8))) = Crc.num (nats lb) ^^^ 2 ^ f * (W % 2 ^ (k + 1))) := Crc.turn_yes (by omega) HNU.out hbit
        generalize lx.getD ((f + k) / 8) 0 = X at c1 hX HNX
        have hP := pow_byte ((f + k) % 8) (Nat.mod_lt _ (by decide))
        have E1 : Hid (bits .xor .u8 (X : Int) (2 ^ ((f + k) % 8) % 256) = ((X ^^^ 2 ^ ((f + k) % 8) : Nat) : Int)) := by
          show _ = _
          have e : ((2 : Int) ^ ((f + k) % 8) % 256) = ((2 ^ ((f + k) % 8) : Nat) : Int) := by
            have : ((2 : Int) ^ ((f + k) % 8)) = ((2 ^ ((f + k) % 8) : Nat) : Int) := by simp
            rw [this]
            exact Int.emod_eq_of_lt (Int.natCast_nonneg _) (by exact_mod_cast hP)
          rw [e]
          exact u8_xor_nat X _ hX hP
        have HXB := Lib.hid (byte_xor hX hP)
        clear hP
        go_wp2_with fail
        rw [E1.out]
        go_roundw
        case rel =>
          refine ⟨k + 1, t + 1, lx.set ((f + k) / 8) (X ^^^ 2 ^ ((f + k) % 8)), by omega, by omega, by go_num, by go_num, by omega, by rw [List.length_set]; exact hlx, ?_, HNX, ?_, HROW.out.set _ _, HKP.out.row8 (.inr ⟨Nat.le_refl _, Nat.lt_succ_self _⟩) _ _⟩
          · intro x hx
            rcases List.mem_or_eq_of_mem_set hx with h | h
            · exact HLX.out x h
            · rw [h]; exact HXB.out
          · show _ ↔ _
            exact ⟨fun _ => Crc.turn_pos hbit, fun _ => Nat.succ_pos _⟩
        case measure => simp [intOf]; omega
      · have hbt : (((W : Int) / 2 ^ k).tmod 2 == 1) = false := by
          rw [hq]
          refine beq_eq_false_iff_ne.2 ?_
          omega
        clear hq
        go_wp2_with fail
        go_roundw
        case rel => exact ⟨k + 1, t, lx, by omega, by omega, by go_num, rfl, by omega, hlx, HLX, by show _ = _; rw [Crc.turn_no hbit]; exact HNU.out, by show _ ↔ _; rw [Crc.turn_no hbit]; exact HTT.out, hrow, HKP.out⟩
        case measure => simp [intOf]; omega
    · have HKW : Hid (Kp 0 0 w wr) := HK1.out.step HKP.out fun j h1 h2 => .inl (by omega)
      have hxr := hrow.rd (cap := cap) (by omega) hc
      rw [hlx] at hxr
      have HXR := Lib.hid hxr
      have hV : W % 2 ^ k < 4294967296 := Nat.lt_of_le_of_lt (Nat.mod_le _ _) hW
      have HTELL : Hid (Crc.more 0 lx = Crc.more 0 (nats lb) ↔ W % 2 ^ k = 0) := Crc.bits_tell HNU.out (by rw [nats_len]; exact hlx) (by rw [nats_len]; omega) hV
      have hfin : (((Crc.more 0 lx : Nat) : Int) != ((Crc.more 0 (nats lb) : Nat) : Int)) = decide ((0 : Int) < (t : Int)) := by
        by_cases hw0 : W % 2 ^ k = 0
        · have ht0 : ¬ (0 < t) := fun h => HTT.out.1 h hw0
          rw [HTELL.out.2 hw0, decide_eq_false (by omega)]
          simp
        · have ht0 : 0 < t := HTT.out.2 hw0
          have hne : Crc.more 0 lx ≠ Crc.more 0 (nats lb) := fun h => hw0 (HTELL.out.1 h)
          rw [decide_eq_true (by omega)]
          exact bne_iff_ne.2 fun h => hne (by exact_mod_cast h)
      generalize hV0 : Crc.more 0 lx = V0 at hfin
      have HV0 := Lib.hid hV0
      clear hxr hrow hV0
      by_cases hk32 : k < 32
      · have hfe : ¬ (f + k < 8 * lb.length) := fun h => hgo ⟨hk32, h⟩
        go_wp2_with fail
        have hsum := sum_ints lx _ _ HXR.out HLX.out (HT.out.keep HKW.out)
        rw [HV0.out] at hsum
        refine hsum.mono ?_
        clear hsum
        rintro e w3 ⟨rfl, hk3⟩
        have HK3 := Lib.hid (HKW.out.trans hk3)
        clear hk3
        go_wp2_with fail
        refine (sum_any lb _ _ (HB.out.keep0 HK3.out) RB.out (HT.out.keep HK3.out)).mono ?_
        rintro e w4 ⟨rfl, hk4⟩
        have HK4 := Lib.hid (HK3.out.trans hk4)
        clear hk4
        go_wp2_with fail
        refine (said_any _ (HT.out.keep HK4.out)).mono ?_
        rintro e w5 ⟨rfl, hk5⟩
        go_wp2_with fail
        go_ret
        exact ⟨rfl, HK4.out.trans hk5⟩
      · go_wp2_with fail
        have hsum := sum_ints lx _ _ HXR.out HLX.out (HT.out.keep HKW.out)
        rw [HV0.out] at hsum
        refine hsum.mono ?_
        clear hsum
        rintro e w3 ⟨rfl, hk3⟩
        have HK3 := Lib.hid (HKW.out.trans hk3)
        clear hk3
        go_wp2_with fail
        refine (sum_any lb _ _ (HB.out.keep0 HK3.out) RB.out (HT.out.keep HK3.out)).mono ?_
        rintro e w4 ⟨rfl, hk4⟩
        have HK4 := Lib.hid (HK3.out.trans hk4)
        clear hk4
        go_wp2_with fail
        refine (said_any _ (HT.out.keep HK4.out)).mono ?_
        rintro e w5 ⟨rfl, hk5⟩
        go_wp2_with fail
        go_ret
        exact ⟨rfl, HK4.out.trans hk5⟩

end Go.Proofs.YtjbhbleooebdoaaDoor
