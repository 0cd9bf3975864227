/-
  The document's answer for package schema: Check.
-/
import Derived.Test.YtdgeehcfdnokmaaDoorScRef3
import Derived.Deep.RegionLaw
namespace Go.Proofs.YtdgeehcfdnokmaaDoor
open Go.RowKit

/- The walk of a region that only reads: not to be laid open by a look at the goal. -/
attribute [local irreducible] wpQuiet

theorem sone_lt (t : List Fl) (f : Fl) : Sc.one t f = 0 ∨ Sc.one t f = 1 ∨ Sc.one t f = 2 ∨ Sc.one t f = 8 := by
  unfold Sc.one
  split
  · omega
  split
  · omega
  split
  · omega
  split
  · omega
  · omega

set_option maxRecDepth 100000 in
set_option maxHeartbeats 8000000 in
theorem refSCheck_any {S : Nat → Prop} (d : Dc) (w : World) (tv pv : Value) (hd : RdD w S tv pv d) (hsm : ∀ T ∈ d.ts, ∀ F ∈ T, F.ms.length ≤ 1000000) :
    Calls Tryd.prog 13 #[.agg #[tv, pv]] w fun r w' => r = .returned (.int .i64 (Sc.check d)) ∧ Kp 0 0 w w' := by
  have HD := Lib.hid hd
  obtain ⟨to, tc, rfl, ht1, ht2, htc⟩ := hd.t.open
  obtain ⟨po, pc, rfl, hp1, hp2, hpc⟩ := hd.p.open
  have HTC := Lib.hid htc
  have HPC := Lib.hid hpc
  have HSM := Lib.hid hsm
  clear hd htc hpc hsm
  have HC : Hid (Sc.check d = if Sc.many d = true then 3 else if Sc.fieldsE d ≠ 0 then Sc.fieldsE d else Sc.projsE d) := rfl
  have HFE : Hid (Sc.fieldsE d = Sc.first (d.ts.map Sc.firstT)) := rfl
  have HPE : Hid (Sc.projsE d = Sc.first (d.ps.map (Sc.proj d))) := rfl
  have HW1 : Hid (Kp 0 0 w (w.alloc (.cells #[.slice to d.ts.length tc, .slice po d.ps.length pc] 25))) := (Kp.refl _ _ _).alloc _
  have HQ := Lib.hid (blk_one w (.cells #[.slice to d.ts.length tc, .slice po d.ps.length pc] 25))
  have HMA := Lib.hid (refMany_any d _ _ _ (HD.out.keep0 HW1.out))
  go_enter Tryd.func13, Tryd.ntmps13
  go_wp2_with fail
  generalize w.alloc (.cells #[.slice to d.ts.length tc, .slice po d.ps.length pc] 25) = w1 at HW1 HQ HMA ⊢
  generalize w.heap.size = q at HQ ⊢
  refine HMA.out.mono ?_
  rintro r w2 ⟨rfl, hk⟩
  have HW2 := Lib.hid (HW1.out.trans hk)
  have HQ2 := Lib.hid (hk.heap HQ.out (.inr (Nat.zero_le _)))
  clear hk HMA
  by_cases hma : Sc.many d = true
  · rw [if_pos hma] at HC
    rw [hma]
    clear hma
    go_wp2_with fail
    go_returns
    rw [HC.out]
    exact ⟨rfl, HW2.out⟩
  rw [if_neg hma] at HC
  have hma : Sc.many d = false := by simpa using hma
  rw [hma]
  clear hma HQ HW1
  have HD2 := Lib.hid (HD.out.keep0 HW2.out)
  have HT2 := Lib.hid (HTC.out.keep0 tyE_good HW2.out)
  have HP2 := Lib.hid (HPC.out.keep0 pjE_good HW2.out)
  clear HD HTC HPC
  go_wp2_with fail
  go_loopw [3, 4, 5] (fun i _ _ wr => ∃ k : Nat, k ≤ d.ts.length ∧ i = .int .i64 k ∧ Hid (Sc.Upto Sc.firstT d.ts k) ∧ Kp 0 0 w2 wr) (fun i _ _ _ => d.ts.length - (intOf i).toNat)
  case atStart => exact ⟨0, Nat.zero_le _, rfl, Sc.Upto.zero _ _, Kp.refl _ _ _⟩
  case round =>
    obtain ⟨i, hi, rfl, HN, hkp⟩ := hrel
    have HK := Lib.hid hkp
    have q0 := blk_cell (hkp.heap HQ2.out (.inr (Nat.zero_le _))) (k := 0) (u := .slice to d.ts.length tc) rfl
    by_cases hlt : i < d.ts.length
    · obtain ⟨T, hT⟩ : ∃ T, d.ts[i]? = some T := ⟨_, List.getElem?_eq_getElem hlt⟩
      obtain ⟨b, o, fo, fc, rfl, hb, c1, hf1, hf2, hf⟩ := ty_at HT2.out hT
      have HC1 := Lib.hid (hkp.cell c1 (.inr (Nat.zero_le _)))
      have HF := Lib.hid (hf.keep0 flE_good HK.out)
      have HTI := Lib.hid hT
      have HFT : Hid (Sc.firstT T = Sc.first (T.map (Sc.one T))) := rfl
      have HS1 : Hid (∀ F ∈ T, F.ms.length ≤ 1000000) := HSM.out T (List.mem_of_getElem? hT)
      clear hf hT hkp c1
      have i0 : (0 : Int) ≤ (i : Int) := Int.natCast_nonneg _
      have i1 : (i : Int) < (d.ts.length : Int) := by omega
      generalize wr = wb at *
      go_wp2_with fail
      go_loopw [4, 5] (fun i _ wx => ∃ k : Nat, k ≤ T.length ∧ i = .int .i64 k ∧ Hid (Sc.Upto (Sc.one T) T k) ∧ Kp 0 0 wb wx) (fun i _ _ => T.length - (intOf i).toNat)
      case atStart => exact ⟨0, Nat.zero_le _, rfl, Sc.Upto.zero _ _, Kp.refl _ _ _⟩
      case round =>
        obtain ⟨k, hk, rfl, HN2, hkp⟩ := hrel
        have HK2 := Lib.hid hkp
        have q0 := hkp.cell q0 (.inr (Nat.zero_le _))
        have c1 := hkp.cell HC1.out (.inr (Nat.zero_le _))
        by_cases hkt : k < T.length
        · obtain ⟨F, hF⟩ : ∃ F, T[k]? = some F := ⟨_, List.getElem?_eq_getElem hkt⟩
          obtain ⟨b2, o2, mo, mc, rfl, hb2, g0, g1, g2, g3, hm1, hm2, hms⟩ := fl_at HF.out.cl hF
          have g0 := hkp.cell g0 (.inr (Nat.zero_le _))
          have g1 := hkp.cell g1 (.inr (Nat.zero_le _))
          have g2 := hkp.cell g2 (.inr (Nat.zero_le _))
          have g3 := hkp.cell g3 (.inr (Nat.zero_le _))
          have HFI := Lib.hid hF
          have k0 : (0 : Int) ≤ (k : Int) := Int.natCast_nonneg _
          have k1 : (k : Int) < (T.length : Int) := by omega
          have HKS : Hid (∀ W, Kp 0 0 wr W → W.cell? ⟨q, 0, none⟩ = some (.slice (some ⟨b, o, none⟩) d.ts.length tc) ∧ W.cell? ⟨b, o + i, none⟩ = some (.slice (some ⟨b2, o2, none⟩) T.length fc) ∧ W.cell? ⟨b2, o2 + k * 4, none⟩ = some (.int .i64 F.k) ∧ W.cell? ⟨b2, o2 + k * 4 + 1, none⟩ = some (.int .i64 F.p) ∧ W.cell? ⟨b2, o2 + k * 4 + 2, none⟩ = some (.bool F.b) ∧ W.cell? ⟨b2, o2 + k * 4 + 3, none⟩ = some (.slice mo F.ms.length mc) ∧ Kp 0 0 wr W) := fun W hW => ⟨hW.cell q0 (.inr (Nat.zero_le _)), hW.cell c1 (.inr (Nat.zero_le _)), hW.cell g0 (.inr (Nat.zero_le _)), hW.cell g1 (.inr (Nat.zero_le _)), hW.cell g2 (.inr (Nat.zero_le _)), hW.cell g3 (.inr (Nat.zero_le _)), hW⟩
          have HON : Hid (∀ W, Kp 0 0 wr W → Calls Tryd.prog 27 #[.agg #[.slice (some ⟨b2, o2, none⟩) T.length fc], .agg #[.int .i64 F.k, .int .i64 F.p, .bool F.b, .slice mo F.ms.length mc]] W fun r w' => r = .returned (.int .i64 (Sc.one T F)) ∧ Kp 0 0 wr w') := fun W hW => (refOne_any T F W _ _ (HF.out.keep0 flE_good (HK2.out.trans hW)) (hms.keep0 mvE_good (HK2.out.trans hW))).mono fun r w' h => ⟨h.1, hW.trans h.2⟩
          have HOL := Lib.hid (sone_lt T F)
          have HSE : Hid (Sc.one T F = 0 → Sc.Upto (Sc.one T) T (k + 1)) := fun h => HN2.step HFI.out h
          have HSX : Hid (Sc.one T F ≠ 0 → Sc.check d = Sc.one T F) := fun h => by
            have e1 : Sc.firstT T = Sc.one T F := by rw [HFT.out]; exact HN2.stop HFI.out h
            have e2 : Sc.fieldsE d = Sc.one T F := by rw [HFE.out, HN.stop HTI.out (by rw [e1]; exact h), e1]
            rw [HC.out, e2, if_pos h]
          clear hF hms hkp
          generalize Sc.one T F = er at *
          go_wp2_with fail
          go_region_held3 (fun W => W.cell? ⟨q, 0, none⟩ = some (.slice (some ⟨b, o, none⟩) d.ts.length tc) ∧ W.cell? ⟨b, o + i, none⟩ = some (.slice (some ⟨b2, o2, none⟩) T.length fc) ∧ W.cell? ⟨b2, o2 + k * 4, none⟩ = some (.int .i64 F.k) ∧ W.cell? ⟨b2, o2 + k * 4 + 1, none⟩ = some (.int .i64 F.p) ∧ W.cell? ⟨b2, o2 + k * 4 + 2, none⟩ = some (.bool F.b) ∧ W.cell? ⟨b2, o2 + k * 4 + 3, none⟩ = some (.slice mo F.ms.length mc) ∧ Kp 0 0 wr W)
            (first
              | exact HKS.out _ (Kp.refl 0 0 _).drew
              | exact HKS.out _ hk7)
            ((first
              | (go_at_call 27
                 refine (HON.out _ (Kp.refl 0 0 wr).drew).mono ?_
                 rintro e w7 ⟨rfl, hk7⟩)))
          have HK3 := Lib.hid (HK2.out.trans hk7)
          clear hk7
          by_cases he : er = 0
          · have e0 : (er != 0) = false := by rw [he]; rfl
            have HS := Lib.hid (HSE.out he)
            clear he
            go_wp2_with fail
            go_roundw
            case rel => exact ⟨k + 1, by omega, by go_num, HS, HK3.out⟩
            case measure => simp [intOf]; omega
          · have e0 : (er != 0) = true := by simpa using he
            have HS := Lib.hid (HSX.out he)
            clear he
            go_wp2_with fail
            go_returns
            rw [HS.out]
            exact ⟨rfl, HW2.out.trans (HK.out.trans HK3.out)⟩
        · obtain rfl : k = T.length := by omega
          have HS := Lib.hid (HN.step HTI.out (by rw [HFT.out]; exact HN2.done))
          go_wp2_with fail
          go_roundw
          case rel => exact ⟨i + 1, by omega, by go_num, HS, HK.out.trans HK2.out⟩
          case measure => simp [intOf]; omega
    · obtain rfl : i = d.ts.length := by omega
      have hfe : Sc.fieldsE d = 0 := by rw [HFE.out]; exact HN.out.done
      rw [hfe, if_neg (by simp)] at HC
      clear hkp hfe
      go_wp2_with fail
      go_loopw [6, 7, 8, 9] (fun i _ _ _ wx => ∃ k : Nat, k ≤ d.ps.length ∧ i = .int .i64 k ∧ Hid (Sc.Upto (Sc.proj d) d.ps k) ∧ Kp 0 0 w2 wx) (fun i _ _ _ _ => d.ps.length - (intOf i).toNat)
      case atStart => exact ⟨0, Nat.zero_le _, rfl, Sc.Upto.zero _ _, HK.out⟩
      case round =>
        obtain ⟨k, hk, rfl, HN2, hkp⟩ := hrel
        have HK2 := Lib.hid hkp
        have q0 := hkp.heap HQ2.out (.inr (Nat.zero_le _))
        have q1 := blk_cell q0 (k := 1) (u := .slice po d.ps.length pc) rfl
        by_cases hkt : k < d.ps.length
        · obtain ⟨P, hP⟩ : ∃ P, d.ps[k]? = some P := ⟨_, List.getElem?_eq_getElem hkt⟩
          obtain ⟨b, o, rfl, hb, g0, g1, g2, g3, g4⟩ := pj_at HP2.out hP
          have g0 := hkp.cell g0 (.inr (Nat.zero_le _))
          have g1 := hkp.cell g1 (.inr (Nat.zero_le _))
          have g2 := hkp.cell g2 (.inr (Nat.zero_le _))
          have g3 := hkp.cell g3 (.inr (Nat.zero_le _))
          have g4 := hkp.cell g4 (.inr (Nat.zero_le _))
          have HPI := Lib.hid hP
          have k0 : (0 : Int) ≤ (k : Int) := Int.natCast_nonneg _
          have k1 : (k : Int) < (d.ps.length : Int) := by omega
          have HSE : Hid (Sc.proj d P = 0 → Sc.Upto (Sc.proj d) d.ps (k + 1)) := fun h => HN2.step HPI.out h
          have HSX : Hid (Sc.proj d P ≠ 0 → Sc.check d = Sc.proj d P) := fun h => by
            rw [HC.out, HPE.out, HN2.stop HPI.out h]
          obtain ⟨pt, pf, pg, pb, pm⟩ := P
          dsimp only at g0 g1 g2 g3 g4
          have HPJ : Hid (Sc.proj d ⟨pt, pf, pg, pb, pm⟩ = if Sc.field d pt pf = none then 8 else if (pg = 3 ∧ Sc.kind (d.ts.getD pt.toNat []) pb ≠ 2) ∨ (pg ≠ 3 ∧ pb ≠ 0) then 8 else if pg < 1 ∨ 3 < pg ∨ pm < 1 ∨ 5 < pm then 2 else 0) := rfl
          clear hP HPI
          have hka : Kp 0 0 wr (wr.alloc (.cells #[.int .i64 pt, .int .i64 pf, .int .i64 pg, .int .i64 pb, .int .i64 pm] 47)) := (Kp.refl _ _ _).alloc _
          have h0 := blk_cell (hka.heap q0 (.inr (Nat.zero_le _))) (k := 0) (u := .slice to d.ts.length tc) rfl
          have h1 := blk_cell (hka.heap q0 (.inr (Nat.zero_le _))) (k := 1) (u := .slice (some ⟨b, o, none⟩) d.ps.length pc) rfl
          have HDA := Lib.hid (HD2.out.keep0 (hkp.trans hka))
          have HKA := Lib.hid (hkp.trans hka)
          have HPB := Lib.hid (blk_one wr (.cells #[.int .i64 pt, .int .i64 pf, .int .i64 pg, .int .i64 pb, .int .i64 pm] 47))
          clear hka
          go_wp2_with fail
          clear h0 h1
          generalize wr.alloc (.cells #[.int .i64 pt, .int .i64 pf, .int .i64 pg, .int .i64 pb, .int .i64 pm] 47) = wa at HDA HKA HPB ⊢
          generalize wr.heap.size = qp at HPB ⊢
          cases hfi : Sc.field d pt pf with
          | none =>
            rw [if_pos hfi] at HPJ
            refine (refSField_none d pt pf wa _ _ HDA.out hfi).mono ?_
            rintro r w3 ⟨rfl, hk3⟩
            unfold fieldV
            have HV := Lib.hid (HSX.out (by rw [HPJ.out]; decide))
            go_wp2_with fail
            go_returns
            rw [HV.out, HPJ.out]
            exact ⟨rfl, HW2.out.trans ((HKA.out.trans hk3).alloc _)⟩
          | some X =>
            rw [if_neg (by rw [hfi]; simp)] at HPJ
            obtain ⟨n, m, T, rfl, rfl, hT, hX⟩ := Sc.field_inv hfi
            rw [show d.ts.getD (n : Int).toNat [] = T by simp [List.getD, hT]] at HPJ
            refine (refSField_some d n m T X wa _ _ HDA.out hT hX (HSM.out T (List.mem_of_getElem? hT) X (List.mem_of_getElem? hX))).mono ?_
            rintro r w3 ⟨mv, rfl, hmv, hk3⟩
            unfold fieldV
            obtain ⟨mo, mc, rfl, _, _, _⟩ := (hmv.rd (T := fun _ => True) mvE_good (fun _ _ _ => trivial) (fun _ _ => trivial)).open
            clear hmv
            obtain ⟨bT, oT, fo, fc, rfl, hbT, cT, hf1, hf2, hfT⟩ := ty_at HT2.out hT
            have HK4 : Hid (Kp 0 0 wa (w3.alloc (.cells #[.int .i64 X.k, .int .i64 X.p, .bool X.b, .slice mo X.ms.length mc] 33))) := hk3.alloc _
            have n0 : (0 : Int) ≤ (n : Int) := Int.natCast_nonneg _
            have n1 : (n : Int) < (d.ts.length : Int) := by have := (List.getElem?_eq_some_iff.1 hT).1; omega
            clear hT hX hfi
            go_upto_region 19 with fail
            generalize w3.alloc (.cells #[.int .i64 X.k, .int .i64 X.p, .bool X.b, .slice mo X.ms.length mc] 33) = w4 at HK4 ⊢
            have HKB := Lib.hid (HKA.out.trans HK4.out)
            have hpb := HK4.out.heap HPB.out (.inr (Nat.zero_le _))
            have h0 := blk_cell hpb (k := 0) (u := .int .i64 (n : Int)) rfl
            have h2 := blk_cell hpb (k := 2) (u := .int .i64 pg) rfl
            have h3 := blk_cell hpb (k := 3) (u := .int .i64 pb) rfl
            have h4 := blk_cell hpb (k := 4) (u := .int .i64 pm) rfl
            have hq0 := blk_cell (HKB.out.heap HQ2.out (.inr (Nat.zero_le _))) (k := 0) (u := .slice (some ⟨bT, oT, none⟩) d.ts.length tc) rfl
            have cT := HKB.out.cell cT (.inr (Nat.zero_le _))
            have HKD : Hid (∀ W, Kp 0 0 w4 W → Calls Tryd.prog 28 #[.agg #[.slice fo T.length fc], .int .i64 pb] W fun r w' => r = .returned (.int .i64 (Sc.kind T pb)) ∧ Kp 0 0 w4 w') := fun W hW => (refKind_any T pb W _ (hfT.keep0 flE_good (HKB.out.trans hW))).mono fun r w' h => ⟨h.1, hW.trans h.2⟩
            have HKG : Hid (∀ n os, Calls Tryd.prog 28 #[.agg #[.slice fo T.length fc], .int .i64 pb] (Go.Sort.grow (w4.drewN n) os) fun r w' => r = .returned (.int .i64 (Sc.kind T pb)) ∧ ∃ q os', w' = Go.Sort.grow ((Go.Sort.grow (w4.drewN n) os).drewN q) os') := fun n os => refKind_grown T pb _ _ (hfT.keep0 flE_good (HKB.out.trans ((Kp.refl 0 0 w4).grow n os)))
            have y1 := fun n os => ((Kp.refl 0 0 w4).grow n os).cell h0 (.inr (Nat.zero_le _))
            have y2 := fun n os => ((Kp.refl 0 0 w4).grow n os).cell h2 (.inr (Nat.zero_le _))
            have y3 := fun n os => ((Kp.refl 0 0 w4).grow n os).cell h3 (.inr (Nat.zero_le _))
            have y4 := fun n os => ((Kp.refl 0 0 w4).grow n os).cell hq0 (.inr (Nat.zero_le _))
            have y5 := fun n os => ((Kp.refl 0 0 w4).grow n os).cell cT (.inr (Nat.zero_le _))
            have hmix : Tryd.prog.follows .mixedOrders = true := by kernel_rfl
            have HKS : Hid (∀ W, Kp 0 0 w4 W → W.cell? ⟨qp, 0, none⟩ = some (.int .i64 (n : Int)) ∧ W.cell? ⟨qp, 2, none⟩ = some (.int .i64 pg) ∧ W.cell? ⟨qp, 3, none⟩ = some (.int .i64 pb) ∧ W.cell? ⟨q, 0, none⟩ = some (.slice (some ⟨bT, oT, none⟩) d.ts.length tc) ∧ W.cell? ⟨bT, oT + n, none⟩ = some (.slice fo T.length fc) ∧ Kp 0 0 w4 W) := fun W hW => ⟨hW.cell h0 (.inr (Nat.zero_le _)), hW.cell h2 (.inr (Nat.zero_le _)), hW.cell h3 (.inr (Nat.zero_le _)), hW.cell hq0 (.inr (Nat.zero_le _)), hW.cell cT (.inr (Nat.zero_le _)), hW⟩
            clear hfT g0 g1 g2 g3 g4 q0 q1 hk3 hkp hpb
            generalize Sc.kind T pb = kd at *
            clear HPB HDA HD2 HP2 HT2 HQ2
            go_cut [95] from 71 (fun c w' => c = .bool (decide ((pg = 3 ∧ kd ≠ 2) ∨ (pg ≠ 3 ∧ pb ≠ 0))) ∧ Kp 0 0 w4 w')
            case first =>
              have hnb := no_bool
              by_cases hg : pg = 3
              · subst hg
                by_cases hk2 : kd = 2
                · have e3 : (kd != 2) = false := by rw [hk2]; rfl
                  go_quiet_grown ((first
                    | (go_at_call 28
                       refine Calls.grown_of (HKG.out _ _))))
                  have hk7 : Kp 0 0 w4 (Go.Sort.grow (w4.drewN nq) osq) := (Kp.refl 0 0 w4).grow nq osq
                  all_goals
                    go_wp2_with fail
                    go_meet
                    case rel => exact ⟨by rw [decide_eq_false (by rw [hk2]; simp)], hk7⟩
                · have e3 : (kd != 2) = true := by simpa using hk2
                  go_quiet_grown ((first
                    | (go_at_call 28
                       refine Calls.grown_of (HKG.out _ _))))
                  have hk7 : Kp 0 0 w4 (Go.Sort.grow (w4.drewN nq) osq) := (Kp.refl 0 0 w4).grow nq osq
                  all_goals
                    go_wp2_with fail
                    go_meet
                    case rel => exact ⟨by rw [decide_eq_true (Or.inl (by simp [hk2]))], hk7⟩
              · have e1 : (pg == 3) = false := by simpa using hg
                have e2 : (pg != 3) = true := by simpa using hg
                go_quiet (fail)
                go_wp2_with fail
                go_meet
                case rel =>
                  refine ⟨?_, (Kp.refl 0 0 w4).drewN _⟩
                  congr 1
                  rw [Bool.eq_iff_iff]
                  simp [hg]
            case rest =>
              obtain ⟨rfl, hk5⟩ := hcut
              have HK5 := Lib.hid (HKB.out.trans hk5)
              have h2 := hk5.cell h2 (.inr (Nat.zero_le _))
              have h4 := hk5.cell h4 (.inr (Nat.zero_le _))
              clear hk5 HKS HKD h0 h3 hq0 cT
              by_cases hbad : (pg = 3 ∧ kd ≠ 2) ∨ (pg ≠ 3 ∧ pb ≠ 0)
              · rw [if_pos hbad] at HPJ
                have HV := Lib.hid (HSX.out (by rw [HPJ.out]; decide))
                rw [decide_eq_true hbad]
                clear hbad
                go_wp2_with fail
                go_returns
                rw [HV.out, HPJ.out]
                exact ⟨rfl, HW2.out.trans HK5.out⟩
              rw [if_neg hbad] at HPJ
              rw [decide_eq_false hbad]
              clear hbad
              by_cases a1 : pg < 1
              · rw [if_pos (.inl a1)] at HPJ
                have HV := Lib.hid (HSX.out (by rw [HPJ.out]; decide))
                go_wp2_with fail
                go_returns
                rw [HV.out, HPJ.out]
                exact ⟨rfl, HW2.out.trans HK5.out⟩
              have b1 : decide (pg < 1) = false := decide_eq_false a1
              by_cases a2 : 3 < pg
              · rw [if_pos (.inr (.inl a2))] at HPJ
                have HV := Lib.hid (HSX.out (by rw [HPJ.out]; decide))
                clear a1
                go_wp2_with fail
                go_returns
                rw [HV.out, HPJ.out]
                exact ⟨rfl, HW2.out.trans HK5.out⟩
              have b2 : decide (3 < pg) = false := decide_eq_false a2
              by_cases a3 : pm < 1
              · rw [if_pos (.inr (.inr (.inl a3)))] at HPJ
                have HV := Lib.hid (HSX.out (by rw [HPJ.out]; decide))
                clear a1 a2
                go_wp2_with fail
                go_returns
                rw [HV.out, HPJ.out]
                exact ⟨rfl, HW2.out.trans HK5.out⟩
              have b3 : decide (pm < 1) = false := decide_eq_false a3
              by_cases a4 : 5 < pm
              · rw [if_pos (.inr (.inr (.inr a4)))] at HPJ
                have HV := Lib.hid (HSX.out (by rw [HPJ.out]; decide))
                clear a1 a2 a3
                go_wp2_with fail
                go_returns
                rw [HV.out, HPJ.out]
                exact ⟨rfl, HW2.out.trans HK5.out⟩
              have b4 : decide (5 < pm) = false := decide_eq_false a4
              rw [if_neg (by omega)] at HPJ
              have HS := Lib.hid (HSE.out HPJ.out)
              clear a1 a2 a3 a4 HPJ HSE HSX
              go_wp2_with fail
              go_roundw
              case rel => exact ⟨k + 1, by omega, by go_num, HS, HK5.out⟩
              case measure => simp [intOf]; omega
        · obtain rfl : k = d.ps.length := by omega
          have HV : Hid (Sc.check d = 0) := by
            show _ = _
            rw [HC.out, HPE.out]
            exact HN2.out.done
          go_wp2_with fail
          go_returns
          rw [HV.out]
          exact ⟨rfl, HW2.out.trans HK2.out⟩

end Go.Proofs.YtdgeehcfdnokmaaDoor
