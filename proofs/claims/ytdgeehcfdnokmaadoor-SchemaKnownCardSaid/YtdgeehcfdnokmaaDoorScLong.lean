/-
  Long: whether declarations have more than the laws go through.
-/
import Derived.Test.YtdgeehcfdnokmaaDoorScRef2
namespace Go.Proofs.YtdgeehcfdnokmaaDoor
open Go.RowKit

theorem long_parts (d : Dc) : Sc.long d = true ↔ 20 < d.ts.length ∨ 40 < d.ps.length ∨ d.ts.any Sc.longT = true := by
  unfold Sc.long
  simp [or_assoc]

set_option maxHeartbeats 2000000 in
theorem long_any {S : Nat → Prop} (d : Dc) (w : World) (tv pv : Value) (hd : RdD w S tv pv d) :
    Calls Tryd.prog 7 #[.agg #[tv, pv]] w fun r w' => r = .returned (.bool (Sc.long d)) ∧ Kp 0 0 w w' := by
  obtain ⟨to, tc, rfl, ht1, ht2, htc⟩ := hd.t.open
  obtain ⟨po, pc, rfl, hp1, hp2, _⟩ := hd.p.open
  have HTC := Lib.hid htc
  clear hd htc
  have HMP := Lib.hid (long_parts d)
  by_cases h1 : 20 < d.ts.length
  · have HV : Hid (Sc.long d = true) := HMP.out.2 (.inl h1)
    have e1 : decide ((20 : Int) < (d.ts.length : Int)) = true := decide_eq_true (by omega)
    clear h1
    go_enter Tryd.func7, Tryd.ntmps7
    go_wp2_with fail
    go_returns
    rw [HV.out]
    exact ⟨rfl, (Kp.refl _ _ _).alloc _⟩
  have e1 : decide ((20 : Int) < (d.ts.length : Int)) = false := decide_eq_false (by omega)
  by_cases h2 : 40 < d.ps.length
  · have HV : Hid (Sc.long d = true) := HMP.out.2 (.inr (.inl h2))
    have e2 : decide ((40 : Int) < (d.ps.length : Int)) = true := decide_eq_true (by omega)
    clear h1 h2
    go_enter Tryd.func7, Tryd.ntmps7
    go_wp2_with fail
    go_returns
    rw [HV.out]
    exact ⟨rfl, (Kp.refl _ _ _).alloc _⟩
  have e2 : decide ((40 : Int) < (d.ps.length : Int)) = false := decide_eq_false (by omega)
  clear h1 h2
  go_enter Tryd.func7, Tryd.ntmps7
  go_wp2_with fail
  have HW1 : Hid (Kp 0 0 w (w.alloc (.cells #[Value.slice to d.ts.length tc, .slice po d.ps.length pc] 25))) := (Kp.refl _ _ _).alloc _
  have HQ := Lib.hid (blk_one w (.cells #[Value.slice to d.ts.length tc, .slice po d.ps.length pc] 25))
  generalize w.alloc (.cells #[Value.slice to d.ts.length tc, .slice po d.ps.length pc] 25) = w1 at HW1 HQ ⊢
  generalize w.heap.size = q at HQ ⊢
  have HT1 := Lib.hid (HTC.out.keep0 tyE_good HW1.out)
  go_loopw [3, 4] (fun i _ wr => ∃ k : Nat, k ≤ d.ts.length ∧ i = .int .i64 k ∧ Hid (Sc.None Sc.longT d.ts k) ∧ Kp 0 0 w1 wr) (fun i _ _ => d.ts.length - (intOf i).toNat)
  case atStart => exact ⟨0, Nat.zero_le _, rfl, Sc.None.zero _ _, Kp.refl _ _ _⟩
  case round =>
    obtain ⟨i, hi, rfl, HN, hkp⟩ := hrel
    have HK := Lib.hid hkp
    have q0 := blk_cell (hkp.heap HQ.out (.inr (Nat.zero_le _))) (k := 0) (u := .slice to d.ts.length tc) rfl
    by_cases hlt : i < d.ts.length
    · obtain ⟨T, hT⟩ : ∃ T, d.ts[i]? = some T := ⟨_, List.getElem?_eq_getElem hlt⟩
      obtain ⟨b, o, fo, fc, rfl, hb, c1, hf1, hf2, hf⟩ := ty_at HT1.out hT
      have c1 := hkp.cell c1 (.inr (Nat.zero_le _))
      have HF := Lib.hid hf
      have HTI := Lib.hid hT
      clear hf hT hkp
      have i0 : (0 : Int) ≤ (i : Int) := Int.natCast_nonneg _
      have i1 : (i : Int) < (d.ts.length : Int) := by omega
      have HMT : Hid (Sc.longT T = (decide (20 < T.length) || T.any Sc.longF)) := rfl
      by_cases t1 : 20 < T.length
      · have y1 : decide ((20 : Int) < (T.length : Int)) = true := decide_eq_true (by omega)
        have HV : Hid (Sc.long d = true) := HMP.out.2 (.inr (.inr (Sc.any_stop HTI.out (by rw [HMT.out, decide_eq_true t1]; simp))))
        clear t1
        go_wp2_with fail
        go_returns
        rw [HV.out]
        exact ⟨rfl, HW1.out.trans HK.out⟩
      have y1 : decide ((20 : Int) < (T.length : Int)) = false := decide_eq_false (by omega)
      have HM2 : Hid (Sc.longT T = T.any Sc.longF) := by
        show _ = _
        rw [HMT.out, decide_eq_false t1]
        rfl
      clear t1 HMT
      go_wp2_with fail
      go_loopw [4] (fun i wr2 => ∃ k : Nat, k ≤ T.length ∧ i = .int .i64 k ∧ Hid (Sc.None Sc.longF T k) ∧ Eqw wr2 wr) (fun i _ => T.length - (intOf i).toNat)
      case atStart => exact ⟨0, Nat.zero_le _, rfl, Sc.None.zero _ _, Eqw.refl _⟩
      case round =>
        obtain ⟨k, hk, rfl, HN2, HWR⟩ := hrel
        obtain rfl := HWR.out
        by_cases hkt : k < T.length
        · obtain ⟨F, hF⟩ : ∃ F, T[k]? = some F := ⟨_, List.getElem?_eq_getElem hkt⟩
          obtain ⟨b2, o2, mo, mc, rfl, hb2, _, _, _, g3, hm1, hm2, _⟩ := fl_at HF.out.cl hF
          have g3 := HK.out.cell g3 (.inr (Nat.zero_le _))
          have HFI := Lib.hid hF
          have k0 : (0 : Int) ≤ (k : Int) := Int.natCast_nonneg _
          have k1 : (k : Int) < (T.length : Int) := by omega
          have HMF : Hid (Sc.longF F = decide (40 < F.ms.length)) := rfl
          clear hF
          by_cases h40 : 40 < F.ms.length
          · have e5 : decide ((40 : Int) < (F.ms.length : Int)) = true := decide_eq_true (by omega)
            have HV : Hid (Sc.long d = true) := HMP.out.2 (.inr (.inr (Sc.any_stop HTI.out (by rw [HM2.out]; exact Sc.any_stop HFI.out (by rw [HMF.out, decide_eq_true h40])))))
            clear h40
            go_wp2_with fail
            go_returns
            rw [HV.out]
            exact ⟨rfl, HW1.out.trans HK.out⟩
          · have e5 : decide ((40 : Int) < (F.ms.length : Int)) = false := decide_eq_false (by omega)
            have HS := Lib.hid (HN2.step HFI.out (by rw [HMF.out, decide_eq_false h40]))
            clear h40
            go_wp2_with fail
            go_roundw
            case rel => exact ⟨k + 1, by omega, by go_num, HS, Eqw.refl _⟩
            case measure => simp [intOf]; omega
        · obtain rfl : k = T.length := by omega
          have HS := Lib.hid (HN.out.step HTI.out (by rw [HM2.out]; exact HN2.out.done))
          go_wp2_with fail
          go_roundw
          case rel => exact ⟨i + 1, by omega, by go_num, HS, HK.out⟩
          case measure => simp [intOf]; omega
    · obtain rfl : i = d.ts.length := by omega
      have HV : Hid (Sc.long d = false) := by
        show _ = _
        rw [Bool.eq_false_iff]
        intro h
        rcases HMP.out.1 h with h | h | h
        · have := of_decide_eq_false e1; omega
        · have := of_decide_eq_false e2; omega
        · rw [HN.out.done] at h; cases h
      go_wp2_with fail
      go_returns
      rw [HV.out]
      exact ⟨rfl, HW1.out.trans HK.out⟩

end Go.Proofs.YtdgeehcfdnokmaaDoor
