/-
  The document's answer for package decl: many, numbers, Put.
-/
import Derived.Test.YtgokhagbknlfaaaDl
import Derived.Test.YtgokhagbknlfaaaScOwn
import Derived.Test.YtgokhagbknlfaaaRef4I
import Derived.PlainAid
import Derived.Deep.QuietTactic
import Derived.Deep.RegionLaw
namespace Go.Proofs.Ytgokhagbknlfaaa
open Go.RowKit
set_option maxRecDepth 100000

theorem dmany_parts (d : Dc) : Dl.many d = true ↔ 8 < d.ts.length ∨ 8 < d.ps.length ∨ d.ts.any Dl.manyT = true := by
  unfold Dl.many
  simp [or_assoc]

set_option maxRecDepth 100000 in
set_option maxHeartbeats 4000000 in
theorem refDMany_any {S : Nat → Prop} (d : Dc) (w : World) (tv pv : Value) (hd : RdD w S tv pv d) :
    Calls Try.prog 23 #[.agg #[tv, pv]] w fun r w' => r = .returned (.bool (Dl.many d)) ∧ Kp 0 0 w w' := by
  obtain ⟨to, tc, rfl, ht1, ht2, htc⟩ := hd.t.open
  obtain ⟨po, pc, rfl, hp1, hp2, _⟩ := hd.p.open
  have HTC := Lib.hid htc
  have htl : d.ts.length ≤ 9223372036854775807 := by omega
  have hpl : d.ps.length ≤ 9223372036854775807 := by omega
  clear hd htc ht1 ht2 hp1 hp2
  have HMP := Lib.hid (dmany_parts d)
  by_cases h1 : 8 < d.ts.length
  · have HV : Hid (Dl.many d = true) := HMP.out.2 (.inl h1)
    have e1 : (8 : Int) < (d.ts.length : Int) := by omega
    clear h1
    go_enter Try.func23, Try.ntmps23
    go_wp2_with fail
    go_returns
    rw [HV.out]
    exact ⟨rfl, (Kp.refl _ _ _).alloc _⟩
  have e1 : ¬ (8 : Int) < (d.ts.length : Int) := by omega
  by_cases h2 : 8 < d.ps.length
  · have HV : Hid (Dl.many d = true) := HMP.out.2 (.inr (.inl h2))
    have e2 : (8 : Int) < (d.ps.length : Int) := by omega
    clear h1 h2
    go_enter Try.func23, Try.ntmps23
    go_wp2_with fail
    go_returns
    rw [HV.out]
    exact ⟨rfl, (Kp.refl _ _ _).alloc _⟩
  have e2 : ¬ (8 : Int) < (d.ps.length : Int) := by omega
  have HN1 := Lib.hid h1
  have HN2 := Lib.hid h2
  clear h1 h2
  go_enter Try.func23, Try.ntmps23
  go_wp2_with fail
  have HW1 : Hid (Kp 0 0 w (w.alloc (.cells #[Value.slice to d.ts.length tc, .slice po d.ps.length pc] 25))) := (Kp.refl _ _ _).alloc _
  have HQ := Lib.hid (blk_one w (.cells #[Value.slice to d.ts.length tc, .slice po d.ps.length pc] 25))
  generalize w.alloc (.cells #[Value.slice to d.ts.length tc, .slice po d.ps.length pc] 25) = w1 at HW1 HQ ⊢
  generalize w.heap.size = q at HQ ⊢
  have HT1 := Lib.hid (HTC.out.keep0 tyE_good HW1.out)
  clear e1 e2
  go_loopw [3, 4] (fun i _ wr => ∃ k : Nat, k ≤ d.ts.length ∧ i = .int .i64 k ∧ Hid (Sc.None Dl.manyT d.ts k) ∧ Kp 0 0 w1 wr) (fun i _ _ => d.ts.length - (intOf i).toNat)
  case atStart => exact ⟨0, Nat.zero_le _, rfl, Sc.None.zero _ _, Kp.refl _ _ _⟩
  case round =>
    obtain ⟨i, hi, rfl, HN, hkp⟩ := hrel
    have HK := Lib.hid hkp
    have q0 := blk_cell (hkp.heap HQ.out (.inr (Nat.zero_le _))) (k := 0) (u := .slice to d.ts.length tc) rfl
    by_cases hlt : i < d.ts.length
    · obtain ⟨T, hT⟩ : ∃ T, d.ts[i]? = some T := ⟨_, List.getElem?_eq_getElem hlt⟩
      obtain ⟨b, o, fo, fc, rfl, hb, c1, hf1, hf2, hf⟩ := ty_at HT1.out hT
      have c1 := hkp.cell c1 (.inr (Nat.zero_le _))
      have HF := Lib.hid hf
      have HTI := Lib.hid hT
      have hTl : T.length ≤ 9223372036854775807 := by omega
      clear hf hT hkp hf1 hf2
      have i0 : (0 : Int) ≤ (i : Int) := Int.natCast_nonneg _
      have i1 : (i : Int) < (d.ts.length : Int) := by omega
      have HMT : Hid (Dl.manyT T = (decide (8 < T.length) || T.any Dl.manyF)) := rfl
      by_cases t1 : 8 < T.length
      · have y1 : (8 : Int) < (T.length : Int) := by omega
        have HV : Hid (Dl.many d = true) := HMP.out.2 (.inr (.inr (Sc.any_stop HTI.out (by rw [HMT.out, decide_eq_true t1]; simp))))
        clear t1
        go_wp2_with fail
        go_returns
        rw [HV.out]
        exact ⟨rfl, HW1.out.trans HK.out⟩
      have y1 : ¬ (8 : Int) < (T.length : Int) := by omega
      have HM2 : Hid (Dl.manyT T = T.any Dl.manyF) := by
        show _ = _
        rw [HMT.out, decide_eq_false t1]
        rfl
      clear t1 HMT
      go_wp2_with fail
      go_loopw [4] (fun i wr2 => ∃ k : Nat, k ≤ T.length ∧ i = .int .i64 k ∧ Hid (Sc.None Dl.manyF T k) ∧ Eqw wr2 wr) (fun i _ => T.length - (intOf i).toNat)
      case atStart => exact ⟨0, Nat.zero_le _, rfl, Sc.None.zero _ _, Eqw.refl _⟩
      case round =>
        obtain ⟨k, hk, rfl, HN2, HWR⟩ := hrel
        obtain rfl := HWR.out
        by_cases hkt : k < T.length
        · obtain ⟨F, hF⟩ : ∃ F, T[k]? = some F := ⟨_, List.getElem?_eq_getElem hkt⟩
          obtain ⟨b2, o2, mo, mc, rfl, hb2, g0, _, _, g3, hm1, hm2, _⟩ := fl_at HF.out.cl hF
          have g3 := HK.out.cell g3 (.inr (Nat.zero_le _))
          have HFI := Lib.hid hF
          have k0 : (0 : Int) ≤ (k : Int) := Int.natCast_nonneg _
          have k1 : (k : Int) < (T.length : Int) := by omega
          have HMF : Hid (Dl.manyF F = decide (16 < F.ms.length)) := rfl
          have hml : F.ms.length ≤ 9223372036854775807 := by omega
          clear hF hm1 hm2 g0
          by_cases hm : 16 < F.ms.length
          · have hm' : (16 : Int) < (F.ms.length : Int) := by omega
            have HV : Hid (Dl.many d = true) := HMP.out.2 (.inr (.inr (Sc.any_stop HTI.out (by rw [HM2.out]; exact Sc.any_stop HFI.out (by rw [HMF.out]; exact decide_eq_true hm)))))
            clear hm
            go_wp2_with fail
            go_returns
            rw [HV.out]
            exact ⟨rfl, HW1.out.trans HK.out⟩
          · have hm' : ¬ (16 : Int) < (F.ms.length : Int) := by omega
            have HNX := Lib.hid (HN2.out.step HFI.out (by rw [HMF.out]; exact decide_eq_false hm))
            clear hm
            go_wp2_with fail
            go_roundw
            case rel => exact ⟨k + 1, by omega, by go_num, HNX.out, Eqw.refl _⟩
            case measure => simp [intOf]; omega
        · obtain rfl : k = T.length := by omega
          have HS := Lib.hid (HN.out.step HTI.out (by rw [HM2.out]; exact HN2.out.done))
          go_wp2_with fail
          go_roundw
          case rel => exact ⟨i + 1, by omega, by go_num, HS, HK.out⟩
          case measure => simp [intOf]; omega
    · obtain rfl : i = d.ts.length := by omega
      have HV : Hid (Dl.many d = false) := by
        show _ = _
        rw [Bool.eq_false_iff]
        intro h
        rcases HMP.out.1 h with h | h | h
        · exact HN1.out h
        · exact HN2.out h
        · rw [HN.out.done] at h; cases h
      go_wp2_with fail
      go_returns
      rw [HV.out]
      exact ⟨rfl, HW1.out.trans HK.out⟩

/-- one: a bool as a number. -/
theorem refOneB_any (b : Bool) (w : World) : Calls Try.prog 43 #[.bool b] w fun r w' => r = .returned (.int .i64 (if b then 1 else 0)) ∧ w' = w := by
  cases b
  · go_enter Try.func43, Try.ntmps43
    go_wp2_with fail
    go_returns
    exact ⟨rfl, rfl⟩
  · go_enter Try.func43, Try.ntmps43
    go_wp2_with fail
    go_returns
    exact ⟨rfl, rfl⟩

end Go.Proofs.Ytgokhagbknlfaaa
