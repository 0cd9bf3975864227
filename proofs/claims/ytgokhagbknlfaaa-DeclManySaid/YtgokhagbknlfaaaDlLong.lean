/-
  quaysidelaw07.Long: have declarations more than the statements go through?
-/
import Derived.Test.YtgokhagbknlfaaaScOwn
import Derived.Test.YtgokhagbknlfaaaDl
import Derived.PlainAid
import Derived.Deep.QuietTactic
namespace Go.Proofs.Ytgokhagbknlfaaa
open Go.RowKit

namespace Dl
def long (d : Dc) : Bool := decide (20 < d.ts.length) || decide (20 < d.ps.length) || d.ts.any Sc.longT
theorem short_of {d : Dc} (h : long d = false) : Sc.Short d := by
  unfold long at h
  simp only [Bool.or_eq_false_iff, decide_eq_false_iff_not, List.any_eq_false, Nat.not_lt] at h
  obtain ⟨⟨h1, h2⟩, h3⟩ := h
  refine ⟨h1, by omega, fun t ht => ?_⟩
  have h4 := h3 t ht
  unfold Sc.longT at h4
  simp only [Bool.not_eq_true, Bool.or_eq_false_iff, decide_eq_false_iff_not, List.any_eq_false, Nat.not_lt] at h4
  refine ⟨h4.1, fun f hf => ?_⟩
  have h5 := h4.2 f hf
  unfold Sc.longF at h5
  simpa using h5
end Dl

theorem dlong_parts (d : Dc) : Dl.long d = true ↔ 20 < d.ts.length ∨ 20 < d.ps.length ∨ d.ts.any Sc.longT = true := by
  unfold Dl.long
  simp [or_assoc]

set_option maxRecDepth 100000 in
set_option maxHeartbeats 4000000 in
theorem dlong_any {S : Nat → Prop} (d : Dc) (w : World) (tv pv : Value) (hd : RdD w S tv pv d) :
    Calls Try.prog 7 #[.agg #[tv, pv]] w fun r w' => r = .returned (.bool (Dl.long d)) ∧ Kp 0 0 w w' := by
  obtain ⟨to, tc, rfl, ht1, ht2, htc⟩ := hd.t.open
  obtain ⟨po, pc, rfl, hp1, hp2, _⟩ := hd.p.open
  have HTC := Lib.hid htc
  have htl : d.ts.length ≤ 9223372036854775807 := by omega
  have hpl : d.ps.length ≤ 9223372036854775807 := by omega
  clear hd htc ht1 ht2 hp1 hp2
  have HMP := Lib.hid (dlong_parts d)
  by_cases h1 : 20 < d.ts.length
  · have HV : Hid (Dl.long d = true) := HMP.out.2 (.inl h1)
    have e1 : (20 : Int) < (d.ts.length : Int) := by omega
    clear h1
    go_enter Try.func7, Try.ntmps7
    go_wp2_with fail
    go_returns
    rw [HV.out]
    exact ⟨rfl, (Kp.refl _ _ _).alloc _⟩
  have e1 : ¬ (20 : Int) < (d.ts.length : Int) := by omega
  by_cases h2 : 20 < d.ps.length
  · have HV : Hid (Dl.long d = true) := HMP.out.2 (.inr (.inl h2))
    have e2 : (20 : Int) < (d.ps.length : Int) := by omega
    clear h1 h2
    go_enter Try.func7, Try.ntmps7
    go_wp2_with fail
    go_returns
    rw [HV.out]
    exact ⟨rfl, (Kp.refl _ _ _).alloc _⟩
  have e2 : ¬ (20 : Int) < (d.ps.length : Int) := by omega
  have HN1 := Lib.hid h1
  have HN2 := Lib.hid h2
  clear h1 h2
  go_enter Try.func7, Try.ntmps7
  go_wp2_with fail
  have HW1 : Hid (Kp 0 0 w (w.alloc (.cells #[Value.slice to d.ts.length tc, .slice po d.ps.length pc] 25))) := (Kp.refl _ _ _).alloc _
  have HQ := Lib.hid (blk_one w (.cells #[Value.slice to d.ts.length tc, .slice po d.ps.length pc] 25))
  generalize w.alloc (.cells #[Value.slice to d.ts.length tc, .slice po d.ps.length pc] 25) = w1 at HW1 HQ ⊢
  generalize w.heap.size = q at HQ ⊢
  have HT1 := Lib.hid (HTC.out.keep0 tyE_good HW1.out)
  clear e1 e2
  go_loopw [3, 4] (fun i _ wr => ∃ k : Nat, k ≤ d.ts.length ∧ i = .int .i64 k ∧ Hid (Sc.None Sc.longT d.ts k) ∧ Kp 0 0 w1 wr) (fun i _ _ => d.ts.length - (intOf i).toNat)
  case atStart => exact ⟨0, Nat.zero_le _, rfl, Sc.None.zero _ _, Kp.refl _ _ _⟩
  case round =>
    obtain ⟨i, hi, rfl, HN, hkp⟩ := hrel
    have HK := Lib.hid hkp
    have q0 := blk_cell (hkp.heap HQ.out (.inr (Nat.zero_le _))) (k := 0) (u := .slice to d.ts.length tc) rfl
    by_cases hlt : i < d.ts.length
    · obtain ⟨T, hT⟩ : ∃ T, d.ts[i]? = some T := ⟨_, List.getElem?_eq_getElem hlt⟩
      obtain ⟨b, o, fo, fc, rfl, hb, c1, hf1, hf2, hf⟩ := ty_at HT1.out hT
      have c1 := hkp.cell c1 (.inr (Nat.zero_le _))
      have HF := Lib.hid hf
      have HTI := Lib.hid hT
      have hTl : T.length ≤ 9223372036854775807 := by omega
      clear hf hT hkp hf1 hf2
      have i0 : (0 : Int) ≤ (i : Int) := Int.natCast_nonneg _
      have i1 : (i : Int) < (d.ts.length : Int) := by omega
      have HMT : Hid (Sc.longT T = (decide (20 < T.length) || T.any Sc.longF)) := rfl
      by_cases t1 : 20 < T.length
      · have y1 : (20 : Int) < (T.length : Int) := by omega
        have HV : Hid (Dl.long d = true) := HMP.out.2 (.inr (.inr (Sc.any_stop HTI.out (by rw [HMT.out, decide_eq_true t1]; simp))))
        clear t1
        go_wp2_with fail
        go_returns
        rw [HV.out]
        exact ⟨rfl, HW1.out.trans HK.out⟩
      have y1 : ¬ (20 : Int) < (T.length : Int) := by omega
      have HM2 : Hid (Sc.longT T = T.any Sc.longF) := by
        show _ = _
        rw [HMT.out, decide_eq_false t1]
        rfl
      clear t1 HMT
      go_wp2_with fail
      go_loopw [4] (fun i wr2 => ∃ k : Nat, k ≤ T.length ∧ i = .int .i64 k ∧ Hid (Sc.None Sc.longF T k) ∧ Eqw wr2 wr) (fun i _ => T.length - (intOf i).toNat)
      case atStart => exact ⟨0, Nat.zero_le _, rfl, Sc.None.zero _ _, Eqw.refl _⟩
      case round =>
        obtain ⟨k, hk, rfl, HN2, HWR⟩ := hrel
        obtain rfl := HWR.out
        by_cases hkt : k < T.length
        · obtain ⟨F, hF⟩ : ∃ F, T[k]? = some F := ⟨_, List.getElem?_eq_getElem hkt⟩
          obtain ⟨b2, o2, mo, mc, rfl, hb2, g0, _, _, g3, hm1, hm2, _⟩ := fl_at HF.out.cl hF
          have g3 := HK.out.cell g3 (.inr (Nat.zero_le _))
          have HFI := Lib.hid hF
          have k0 : (0 : Int) ≤ (k : Int) := Int.natCast_nonneg _
          have k1 : (k : Int) < (T.length : Int) := by omega
          have HMF : Hid (Sc.longF F = decide (40 < F.ms.length)) := rfl
          have hml : F.ms.length ≤ 9223372036854775807 := by omega
          clear hF hm1 hm2 g0
          by_cases hm : 40 < F.ms.length
          · have hm' : (40 : Int) < (F.ms.length : Int) := by omega
            have HV : Hid (Dl.long d = true) := HMP.out.2 (.inr (.inr (Sc.any_stop HTI.out (by rw [HM2.out]; exact Sc.any_stop HFI.out (by rw [HMF.out]; exact decide_eq_true hm)))))
            clear hm
            go_wp2_with fail
            go_returns
            rw [HV.out]
            exact ⟨rfl, HW1.out.trans HK.out⟩
          · have hm' : ¬ (40 : Int) < (F.ms.length : Int) := by omega
            have HNX := Lib.hid (HN2.out.step HFI.out (by rw [HMF.out]; exact decide_eq_false hm))
            clear hm
            go_wp2_with fail
            go_roundw
            case rel => exact ⟨k + 1, by omega, by go_num, HNX.out, Eqw.refl _⟩
            case measure => simp [intOf]; omega
        · obtain rfl : k = T.length := by omega
          have HS := Lib.hid (HN.out.step HTI.out (by rw [HM2.out]; exact HN2.out.done))
          go_wp2_with fail
          go_roundw
          case rel => exact ⟨i + 1, by omega, by go_num, HS, HK.out⟩
          case measure => simp [intOf]; omega
    · obtain rfl : i = d.ts.length := by omega
      have HV : Hid (Dl.long d = false) := by
        show _ = _
        rw [Bool.eq_false_iff]
        intro h
        rcases HMP.out.1 h with h | h | h
        · exact HN1.out h
        · exact HN2.out h
        · rw [HN.out.done] at h; cases h
      go_wp2_with fail
      go_returns
      rw [HV.out]
      exact ⟨rfl, HW1.out.trans HK.out⟩

end Go.Proofs.Ytgokhagbknlfaaa
