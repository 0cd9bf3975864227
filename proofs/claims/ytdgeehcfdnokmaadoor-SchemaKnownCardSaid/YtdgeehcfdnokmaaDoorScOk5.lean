/-
  The landed schema: Check keeps the document.
-/
import Derived.Test.YtdgeehcfdnokmaaDoorScOk4
namespace Go.Proofs.YtdgeehcfdnokmaaDoor
open Go.RowKit

set_option maxRecDepth 100000 in
set_option maxHeartbeats 8000000 in
/-- Check keeps the document. -/
theorem scheckOk : SCheckOk STabs := by
  intro S d w tv pv hd _ _ hp
  have HD := Lib.hid hd
  obtain ⟨to, tc, rfl, ht1, ht2, htc⟩ := hd.t.open
  obtain ⟨po, pc, rfl, hp1, hp2, hpc⟩ := hd.p.open
  have HTB := Lib.hid hp
  have htl : d.ts.length ≤ 9223372036854775807 := by omega
  have hpl : d.ps.length ≤ 9223372036854775807 := by omega
  clear hd htc hpc ht1 ht2 hp1 hp2 hp
  have HC : Hid (Sc.check d = if Sc.many d = true then 3 else if Sc.fieldsE d ≠ 0 then Sc.fieldsE d else Sc.projsE d) := rfl
  have HFE : Hid (Sc.fieldsE d = Sc.first (d.ts.map Sc.firstT)) := rfl
  have HPE : Hid (Sc.projsE d = Sc.first (d.ps.map (Sc.proj d))) := rfl
  have HW1 : Hid (Kp 0 0 w (w.alloc (.cells #[.slice to d.ts.length tc, .slice po d.ps.length pc] 25))) := (Kp.refl _ _ _).alloc _
  have HQ := Lib.hid (blk_one w (.cells #[.slice to d.ts.length tc, .slice po d.ps.length pc] 25))
  have HMA := Lib.hid (counts_any d _ _ _ (HD.out.keep0 HW1.out) (HTB.out.keep HW1.out))
  go_enter Tryd.func10, Tryd.ntmps10
  go_wp2_with fail
  generalize w.alloc (.cells #[.slice to d.ts.length tc, .slice po d.ps.length pc] 25) = w1 at HW1 HQ HMA ⊢
  generalize w.heap.size = q at HQ ⊢
  refine HMA.out.mono ?_
  rintro r w2 ⟨rfl, hk⟩
  have HW2 := Lib.hid (HW1.out.trans hk)
  have HQ2 := Lib.hid (hk.heap HQ.out (.inr (Nat.zero_le _)))
  clear hk HMA
  cases hma : Sc.many d with
  | true =>
    rw [hma, if_pos rfl] at HC
    clear hma
    go_wp2_with fail
    go_returns
    rw [HC.out]
    exact ⟨rfl, HW2.out⟩
  | false =>
    rw [hma, if_neg (by decide)] at HC
    clear hma HQ HW1
    have HD2 := Lib.hid (HD.out.keep0 HW2.out)
    have HTB2 := Lib.hid (HTB.out.keep HW2.out)
    have q0 := blk_cell HQ2.out (k := 0) (u := .slice to d.ts.length tc) rfl
    clear HD HTB
    go_wp2_with fail
    clear q0
    go_loopw [4, 6, 7, 17] (fun _ _ _ i wr => ∃ k : Nat, k ≤ d.ts.length ∧ i = .int .i64 k ∧ Hid (Sc.Upto Sc.firstT d.ts k) ∧ Kp 0 0 w2 wr) (fun _ _ _ i _ => d.ts.length - (intOf i).toNat)
    case atStart => exact ⟨0, Nat.zero_le _, rfl, Sc.Upto.zero _ _, Kp.refl _ _ _⟩
    case round =>
      obtain ⟨i, hi, rfl, HN, hkp⟩ := hrel
      have HK := Lib.hid hkp
      by_cases hlt : i < d.ts.length
      · obtain ⟨T, hT⟩ : ∃ T, d.ts[i]? = some T := ⟨_, List.getElem?_eq_getElem hlt⟩
        obtain ⟨b, o, fo, fc, rfl, hb, c1, hf1, hf2, hf⟩ := ty_at HD2.out.t.cl hT
        have c1 := hkp.cell c1 (.inr (Nat.zero_le _))
        have HKA : Hid (Kp 0 0 w2 (wr.alloc (.cells #[.slice fo T.length fc] 45))) := hkp.alloc _
        have HPT := Lib.hid (blk_one wr (.cells #[.slice fo T.length fc] 45))
        have HF := Lib.hid (hf.keep0 flE_good HKA.out)
        have HTI := Lib.hid hT
        have HFT : Hid (Sc.firstT T = Sc.first (T.map (Sc.one T))) := rfl
        have hTl : T.length ≤ 9223372036854775807 := by omega
        clear hf hT hkp hf1 hf2
        have i0 : (0 : Int) ≤ (i : Int) := Int.natCast_nonneg _
        have i1 : (i : Int) < (d.ts.length : Int) := by omega
        go_wp2_with fail
        clear c1
        generalize wr.alloc (.cells #[.slice fo T.length fc] 45) = wb at HKA HPT HF ⊢
        generalize wr.heap.size = pt at HPT ⊢
        have HTB3 := Lib.hid (HTB2.out.keep HKA.out)
        go_loopw [6, 7, 24] (fun _ _ i wx => ∃ k : Nat, k ≤ T.length ∧ i = .int .i64 k ∧ Hid (Sc.Upto (Sc.one T) T k) ∧ Kp 0 0 wb wx) (fun _ _ i _ => T.length - (intOf i).toNat)
        case atStart => exact ⟨0, Nat.zero_le _, rfl, Sc.Upto.zero _ _, Kp.refl _ _ _⟩
        case round =>
          obtain ⟨k, hk, rfl, HN2, hkp⟩ := hrel
          by_cases hkt : k < T.length
          · obtain ⟨F, hF⟩ : ∃ F, T[k]? = some F := ⟨_, List.getElem?_eq_getElem hkt⟩
            obtain ⟨b2, o2, mo, mc, rfl, hb2, g0, g1, g2, g3, hm1, hm2, hms⟩ := fl_at HF.out.cl hF
            have g0 := hkp.cell g0 (.inr (Nat.zero_le _))
            have g1 := hkp.cell g1 (.inr (Nat.zero_le _))
            have g2 := hkp.cell g2 (.inr (Nat.zero_le _))
            have g3 := hkp.cell g3 (.inr (Nat.zero_le _))
            have hka : Kp 0 0 wr (wr.alloc (.cells #[.int .i64 F.k, .int .i64 F.p, .bool F.b, .slice mo F.ms.length mc] 33)) := (Kp.refl _ _ _).alloc _
            have HK3 := Lib.hid (hkp.trans hka)
            have c0 := blk_cell ((hkp.trans hka).heap HPT.out (.inr (Nat.zero_le _))) (k := 0) (u := .slice (some ⟨b2, o2, none⟩) T.length fc) rfl
            have HFI := Lib.hid hF
            have k0 : (0 : Int) ≤ (k : Int) := Int.natCast_nonneg _
            have k1 : (k : Int) < (T.length : Int) := by omega
            have HON := Lib.hid (checkF_any T F _ _ mo (HF.out.keep0 flE_good HK3.out) (hms.keep0 mvE_good HK3.out) (HTB3.out.keep HK3.out))
            have HSE : Hid (Sc.one T F = 0 → Sc.Upto (Sc.one T) T (k + 1)) := fun h => HN2.step HFI.out h
            have HSX : Hid (Sc.one T F ≠ 0 → Sc.check d = Sc.one T F) := fun h => by
              have e1 : Sc.firstT T = Sc.one T F := by rw [HFT.out]; exact HN2.stop HFI.out h
              have e2 : Sc.fieldsE d = Sc.one T F := by rw [HFE.out, HN.stop HTI.out (by rw [e1]; exact h), e1]
              rw [HC.out, e2, if_pos h]
            clear hF hms hkp hka hm1 hm2
            generalize Sc.one T F = er at HON HSE HSX
            go_wp2_with fail
            refine HON.out.mono ?_
            rintro r w7 ⟨rfl, hk7⟩
            have HK7 := Lib.hid (HK3.out.trans hk7)
            clear hk7 g0 g1 g2 g3 c0 HON
            by_cases he : er = 0
            · have e0 : (er != 0) = false := by rw [he]; rfl
              have HS := Lib.hid (HSE.out he)
              clear he
              go_wp2_with fail
              go_roundw
              case rel => exact ⟨k + 1, by omega, by go_num, HS, HK7.out⟩
              case measure => simp [intOf]; omega
            · have e0 : (er != 0) = true := by simpa using he
              have HS := Lib.hid (HSX.out he)
              clear he
              go_wp2_with fail
              go_returns
              rw [HS.out]
              exact ⟨rfl, HW2.out.trans (HKA.out.trans HK7.out)⟩
          · obtain rfl : k = T.length := by omega
            have HS := Lib.hid (HN.step HTI.out (by rw [HFT.out]; exact HN2.done))
            have HK7 := Lib.hid (HKA.out.trans hkp)
            go_wp2_with fail
            go_roundw
            case rel => exact ⟨i + 1, by omega, by go_num, HS, HK7.out⟩
            case measure => simp [intOf]; omega
      · obtain rfl : i = d.ts.length := by omega
        have hfe : Sc.fieldsE d = 0 := by rw [HFE.out]; exact HN.out.done
        rw [hfe, if_neg (by simp)] at HC
        have q1 := blk_cell (hkp.heap HQ2.out (.inr (Nat.zero_le _))) (k := 1) (u := .slice po d.ps.length pc) rfl
        clear hkp hfe
        go_wp2_with fail
        clear q1
        go_loopw [9, 10, 39] (fun _ _ i wx => ∃ k : Nat, k ≤ d.ps.length ∧ i = .int .i64 k ∧ Hid (Sc.Upto (Sc.proj d) d.ps k) ∧ Kp 0 0 w2 wx) (fun _ _ i _ => d.ps.length - (intOf i).toNat)
        case atStart => exact ⟨0, Nat.zero_le _, rfl, Sc.Upto.zero _ _, HK.out⟩
        case round =>
          obtain ⟨k, hk, rfl, HN2, hkp⟩ := hrel
          by_cases hkt : k < d.ps.length
          · obtain ⟨P, hP⟩ : ∃ P, d.ps[k]? = some P := ⟨_, List.getElem?_eq_getElem hkt⟩
            obtain ⟨b, o, rfl, hb, g0, g1, g2, g3, g4⟩ := pj_at HD2.out.p.cl hP
            have g0 := hkp.cell g0 (.inr (Nat.zero_le _))
            have g1 := hkp.cell g1 (.inr (Nat.zero_le _))
            have g2 := hkp.cell g2 (.inr (Nat.zero_le _))
            have g3 := hkp.cell g3 (.inr (Nat.zero_le _))
            have g4 := hkp.cell g4 (.inr (Nat.zero_le _))
            have hka : Kp 0 0 wr (wr.alloc (.cells #[.int .i64 P.t, .int .i64 P.f, .int .i64 P.g, .int .i64 P.b, .int .i64 P.m] 47)) := (Kp.refl _ _ _).alloc _
            have HK3 := Lib.hid (hkp.trans hka)
            have hq := (hkp.trans hka).heap HQ2.out (.inr (Nat.zero_le _))
            have h0 := blk_cell hq (k := 0) (u := .slice to d.ts.length tc) rfl
            have h1 := blk_cell hq (k := 1) (u := .slice (some ⟨b, o, none⟩) d.ps.length pc) rfl
            have HPI := Lib.hid hP
            have k0 : (0 : Int) ≤ (k : Int) := Int.natCast_nonneg _
            have k1 : (k : Int) < (d.ps.length : Int) := by omega
            have HON := Lib.hid (checkP_any d P _ _ _ (HD2.out.keep0 HK3.out))
            have HSE : Hid (Sc.proj d P = 0 → Sc.Upto (Sc.proj d) d.ps (k + 1)) := fun h => HN2.step HPI.out h
            have HSX : Hid (Sc.proj d P ≠ 0 → Sc.check d = Sc.proj d P) := fun h => by
              rw [HC.out, HPE.out, HN2.stop HPI.out h]
            clear hP hkp hka hq
            generalize Sc.proj d P = er at HON HSE HSX
            go_wp2_with fail
            refine HON.out.mono ?_
            rintro r w7 ⟨rfl, hk7⟩
            have HK7 := Lib.hid (HK3.out.trans hk7)
            clear hk7 g0 g1 g2 g3 g4 h0 h1 HON
            by_cases he : er = 0
            · have e0 : (er != 0) = false := by rw [he]; rfl
              have HS := Lib.hid (HSE.out he)
              clear he
              go_wp2_with fail
              go_roundw
              case rel => exact ⟨k + 1, by omega, by go_num, HS, HK7.out⟩
              case measure => simp [intOf]; omega
            · have e0 : (er != 0) = true := by simpa using he
              have HS := Lib.hid (HSX.out he)
              clear he
              go_wp2_with fail
              go_returns
              rw [HS.out]
              exact ⟨rfl, HW2.out.trans HK7.out⟩
          · obtain rfl : k = d.ps.length := by omega
            have hpe : Sc.projsE d = 0 := by rw [HPE.out]; exact HN2.out.done
            rw [hpe] at HC
            clear hpe
            go_wp2_with fail
            go_returns
            rw [HC.out]
            exact ⟨rfl, HW2.out.trans hkp⟩

end Go.Proofs.YtdgeehcfdnokmaaDoor
