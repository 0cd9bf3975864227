/-
  Package crc's More and Sum only read.
-/
import Derived.Test.YtpdkfafnffihjaaDoorMore
namespace Go.Proofs.YtpdkfafnffihjaaDoor
open Go.RowKit

/-- crc.More: the sum that goes on from s; it only reads. -/
theorem more_quiet {l1 h1 : Nat} (s : Nat) (l : List Int) (w : World) (v : Value) (hs : s < 4294967296) (hl : RdI .u8 l1 h1 w v l) (hb : ∀ y ∈ l, 0 ≤ y ∧ y < 256) (ht : Tabs w) :
    Calls Tryd.prog 30 #[.int .u32 s, v] w fun e w' => e = .returned (.int .u32 (Crc.more s (nats l) : Nat)) ∧ ∃ m, w' = w.drewN m := by
  obtain ⟨ao, c, rfl, h2, h3, h4⟩ := hl.open
  have HB := Lib.hid hb
  have HT := Lib.hid ht
  have HC := Lib.hid h4
  have HO : Hid (bits .xor .u32 IntKind.u32.max (s : Int) = ((4294967295 ^^^ s : Nat) : Int)) := ones_u32 s hs
  have hS := Crc.ones_lt hs
  have HM : Hid (Crc.more s (nats l) = 4294967295 ^^^ Crc.fold (4294967295 ^^^ s) ((nats l).take l.length)) := by
    show _ = _
    rw [← nats_len l, List.take_length]
    rfl
  generalize 4294967295 ^^^ s = S at HO hS HM
  have hmax : l.length ≤ 9223372036854775807 := by omega
  clear hb ht hl h2 h4
  go_enter Tryd.func30, Tryd.ntmps30
  go_wp2
  rw [HO.out]
  go_loopw [5, 7, 12] (fun r x i wr => ∃ k R : Nat, k ≤ l.length ∧ i = .int .i64 k ∧ r = .int .u32 R ∧ R < 4294967296 ∧ Hid (Crc.fold S ((nats l).take k) = R) ∧ ∃ m, wr = w.drewN m) (fun _ _ i _ => l.length - (intOf i).toNat)
  case atStart => exact ⟨0, S, Nat.zero_le _, rfl, rfl, hS, rfl, 0, rfl⟩
  case round =>
    obtain ⟨k, R, hk, rfl, rfl, hR, HF, hmq⟩ := hrel
    have hkp : Kp 0 0 w wr := by
      obtain ⟨m, rfl⟩ := hmq
      exact (Kp.refl _ _ _).drewN _
    have HMQ : Hid (∀ n, ∃ m, wr.drewN n = w.drewN m) := fun n => by
      obtain ⟨m, rfl⟩ := hmq
      exact ⟨m + n, World.drewN_drewN _ _ _⟩
    clear hmq
    by_cases hlt : k < l.length
    · obtain ⟨b1, o1, rfl, _, _, hc1⟩ := HC.out (by omega)
      have c1 := hkp.cell (hc1 k hlt) (.inr (Nat.zero_le _))
      have hx := HB.out _ (mem_getD hlt)
      have HX := Lib.hid (nats_getD hlt)
      clear hc1
      generalize l.getD k 0 = x at c1 hx HX
      obtain ⟨X, rfl⟩ := Int.eq_ofNat_of_zero_le hx.1
      have hX : X < 256 := by omega
      clear hx
      have HST : Hid (Crc.fold S ((nats l).take (k + 1)) = Crc.st R X) := by
        show _ = _
        rw [take_snoc_nat (by rw [nats_len]; exact hlt), Crc.fold_append, HF.out, HX.out]
        rfl
      have HTS := Lib.hid (Crc.tab_step R X hX)
      rw [← HTS.out] at HST
      clear HX HTS HF
      have e1 : bits .xor .u8 (X : Int) ((R : Int) % 256) = ((X ^^^ R % 256 : Nat) : Int) := by
        have := u8_xor_nat X (R % 256) hX (by omega)
        simpa using this
      have hY : X ^^^ R % 256 < 256 := by
        have : X ^^^ R % 256 < 2 ^ 8 := Nat.xor_lt_two_pow (by omega) (by omega)
        omega
      generalize X ^^^ R % 256 = Y at e1 hY HST
      go_wp2
      clear e1
      have e2 : bits .and .u8 (Y : Int) 15 = ((Y % 16 : Nat) : Int) := by
        rw [← and15 Y hY]
        exact u8_and_nat Y 15 hY (by decide)
      have e3 : (Y : Int) / 16 = ((Y / 16 : Nat) : Int) := by omega
      have hA : Y % 16 < 16 := by omega
      have hB : Y / 16 < 16 := by omega
      generalize Y % 16 = A at e2 hA HST
      generalize Y / 16 = B at e3 hB HST
      have ca := (HT.out.keep hkp).low A hA
      have cb := (HT.out.keep hkp).up B hB
      have hP1 := Crc.lower_lt A hA
      have hP2 := Crc.upper_lt B hB
      generalize Crc.lowerL.getD A 0 = P1 at ca hP1 HST
      generalize Crc.upperL.getD B 0 = P2 at cb hP2 HST
      have e4 : (R : Int) / 256 = ((R / 256 : Nat) : Int) := by omega
      have hD : R / 256 < 4294967296 := by omega
      generalize R / 256 = D at e4 hD HST
      have e5 := u32_xor_nat D P1 hD hP1
      have hE : D ^^^ P1 < 4294967296 := by
        have : D ^^^ P1 < 2 ^ 32 := Nat.xor_lt_two_pow (by omega) (by omega)
        omega
      generalize D ^^^ P1 = E at e5 hE HST
      have e6 := u32_xor_nat E P2 hE hP2
      have hF : E ^^^ P2 < 4294967296 := by
        have : E ^^^ P2 < 2 ^ 32 := Nat.xor_lt_two_pow (by omega) (by omega)
        omega
      generalize E ^^^ P2 = F at e6 hF HST
      go_quiet (fail)
      go_wp2
      go_roundw
      case rel => exact ⟨k + 1, F, by omega, by go_num, rfl, hF, HST, HMQ.out _⟩
      case measure => simp [intOf]; omega
    · obtain rfl : k = l.length := by omega
      have HR : Hid (bits .xor .u32 IntKind.u32.max (R : Int) = ((4294967295 ^^^ R : Nat) : Int)) := ones_u32 R hR
      go_wp2
      rw [HR.out]
      go_ret
      rw [HM.out, HF.out]
      exact ⟨rfl, HMQ.out 0⟩

/-- crc.Sum only reads. -/
theorem sum_quiet {l1 h1 : Nat} (l : List Int) (w : World) (v : Value) (hl : RdI .u8 l1 h1 w v l) (hb : ∀ y ∈ l, 0 ≤ y ∧ y < 256) (ht : Tabs w) :
    Calls Tryd.prog 24 #[v] w fun e w' => e = .returned (.int .u32 (Crc.more 0 (nats l) : Nat)) ∧ ∃ m, w' = w.drewN m := by
  have HB := Lib.hid (more_quiet 0 l w v (by decide) hl hb ht)
  obtain ⟨ao, c, rfl, _, _, _⟩ := hl.open
  clear hl hb ht
  go_enter Tryd.func24, Tryd.ntmps24
  go_wp2_with fail
  refine HB.out.mono ?_
  rintro e w1 ⟨rfl, m, rfl⟩
  go_wp2_with fail
  go_ret
  exact ⟨rfl, m, rfl⟩

end Go.Proofs.YtpdkfafnffihjaaDoor
