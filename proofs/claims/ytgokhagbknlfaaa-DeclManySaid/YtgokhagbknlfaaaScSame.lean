/-
  SameDecl of the same declarations twice: true.
-/
import Derived.Test.YtgokhagbknlfaaaScKit
import Derived.Deep.RegionHeld3
namespace Go.Proofs.Ytgokhagbknlfaaa
open Go.RowKit

set_option maxRecDepth 100000 in
set_option maxHeartbeats 8000000 in
theorem sameD_yes {S1 S2 : Nat → Prop} (d : Dc) (w : World) (ta pa tb pb : Value) (ha : RdD w S1 ta pa d) (hb : RdD w S2 tb pb d) :
    Calls Try.prog 13 #[.agg #[ta, pa], .agg #[tb, pb]] w fun r w' => r = .returned (.bool true) ∧ Kp 0 0 w w' := by
  obtain ⟨ao, ac, rfl, _, _, hac⟩ := ha.t.open
  obtain ⟨qo, qc, rfl, _, _, hqc⟩ := ha.p.open
  obtain ⟨bo, bc, rfl, _, _, hbc⟩ := hb.t.open
  obtain ⟨ro, rc, rfl, _, _, hrc⟩ := hb.p.open
  have HA := Lib.hid hac
  have HAP := Lib.hid hqc
  have HB := Lib.hid hbc
  have HBP := Lib.hid hrc
  clear ha hb hac hqc hbc hrc
  have e1 : ((d.ts.length : Int) != (d.ts.length : Int)) = false := by simp
  have e2 : ((d.ps.length : Int) != (d.ps.length : Int)) = false := by simp
  have HW1 : Hid (Kp 0 0 w ((w.alloc (.cells #[.slice ao d.ts.length ac, .slice qo d.ps.length qc] 25)).alloc (.cells #[.slice bo d.ts.length bc, .slice ro d.ps.length rc] 25))) := ((Kp.refl _ _ _).alloc _).alloc _
  have HQ0 := Lib.hid (blk_old (blk_one w (.cells #[.slice ao d.ts.length ac, .slice qo d.ps.length qc] 25)) (.cells #[.slice bo d.ts.length bc, .slice ro d.ps.length rc] 25))
  have HQ1 := Lib.hid (blk_two w (.cells #[.slice ao d.ts.length ac, .slice qo d.ps.length qc] 25) (.cells #[.slice bo d.ts.length bc, .slice ro d.ps.length rc] 25))
  go_enter Try.func13, Try.ntmps13
  go_wp2_with fail
  generalize (w.alloc (.cells #[.slice ao d.ts.length ac, .slice qo d.ps.length qc] 25)).alloc (.cells #[.slice bo d.ts.length bc, .slice ro d.ps.length rc] 25) = w1 at HW1 HQ0 HQ1 ⊢
  generalize w.heap.size + 1 = q1 at HQ1 ⊢
  generalize w.heap.size = q0 at HQ0 ⊢
  go_loopw [5, 6] (fun i _ wr => ∃ k : Nat, k ≤ d.ts.length ∧ i = .int .i64 k ∧ Kp 0 0 w1 wr) (fun i _ _ => d.ts.length - (intOf i).toNat)
  case atStart => exact ⟨0, Nat.zero_le _, rfl, Kp.refl _ _ _⟩
  case round =>
    obtain ⟨i, hi, rfl, hkp⟩ := hrel
    have HK := Lib.hid hkp
    have HKW := Lib.hid (HW1.out.trans hkp)
    have a0 := blk_cell (hkp.heap HQ0.out (.inr (Nat.zero_le _))) (k := 0) (u := .slice ao d.ts.length ac) rfl
    have b0 := blk_cell (hkp.heap HQ1.out (.inr (Nat.zero_le _))) (k := 0) (u := .slice bo d.ts.length bc) rfl
    by_cases hlt : i < d.ts.length
    · obtain ⟨T, hT⟩ : ∃ T, d.ts[i]? = some T := ⟨_, List.getElem?_eq_getElem hlt⟩
      obtain ⟨b1, o1, f1, fc1, rfl, _, c1, _, _, hf1⟩ := ty_at HA.out hT
      obtain ⟨b2, o2, f2, fc2, rfl, _, c2, _, _, hf2⟩ := ty_at HB.out hT
      have HF1 := Lib.hid (hf1.keep0 flE_good HKW.out)
      have HF2 := Lib.hid (hf2.keep0 flE_good HKW.out)
      have c1 := HKW.out.cell c1 (.inr (Nat.zero_le _))
      have c2 := HKW.out.cell c2 (.inr (Nat.zero_le _))
      have i0 : (0 : Int) ≤ (i : Int) := Int.natCast_nonneg _
      have i1 : (i : Int) < (d.ts.length : Int) := by omega
      have e3 : ((T.length : Int) != (T.length : Int)) = false := by simp
      clear hf1 hf2 hT hkp
      go_wp2_with fail
      go_quiet (fail)
      have hkd : Kp 0 0 wr (wr.drewN nq) := (Kp.refl 0 0 wr).drewN _
      have HKD : Hid (Kp 0 0 w1 (wr.drewN nq)) := HK.out.drewN _
      have HF1 := Lib.hid (HF1.out.keep0 flE_good hkd)
      have HF2 := Lib.hid (HF2.out.keep0 flE_good hkd)
      have A0 := Lib.hid (hkd.cell a0 (.inr (Nat.zero_le _)))
      have B0 := Lib.hid (hkd.cell b0 (.inr (Nat.zero_le _)))
      have C1 := Lib.hid (hkd.cell c1 (.inr (Nat.zero_le _)))
      have C2 := Lib.hid (hkd.cell c2 (.inr (Nat.zero_le _)))
      clear hkd a0 b0 c1 c2
      generalize wr.drewN nq = wb at *
      go_wp2_with fail
      go_loopw [6] (fun i wx => ∃ k : Nat, k ≤ T.length ∧ i = .int .i64 k ∧ Kp 0 0 wb wx) (fun i _ => T.length - (intOf i).toNat)
      case atStart => exact ⟨0, Nat.zero_le _, rfl, Kp.refl _ _ _⟩
      case round =>
        obtain ⟨j, hj, rfl, hkx⟩ := hrel
        have HKX := Lib.hid hkx
        have s0 := hkx.cell A0.out (.inr (Nat.zero_le _))
        have s1 := hkx.cell C1.out (.inr (Nat.zero_le _))
        have s2 := hkx.cell B0.out (.inr (Nat.zero_le _))
        have s3 := hkx.cell C2.out (.inr (Nat.zero_le _))
        by_cases hjt : j < T.length
        · obtain ⟨F, hF⟩ : ∃ F, T[j]? = some F := ⟨_, List.getElem?_eq_getElem hjt⟩
          obtain ⟨y1, z1, mo1, mc1, rfl, _, g0, g1, g2, g3, _, _, hms1⟩ := fl_at HF1.out.cl hF
          obtain ⟨y2, z2, mo2, mc2, rfl, _, h0, h1, h2, h3, _, _, hms2⟩ := fl_at HF2.out.cl hF
          have k0 : (0 : Int) ≤ (j : Int) := Int.natCast_nonneg _
          have k1 : (j : Int) < (T.length : Int) := by omega
          have HSF : Hid (∀ W, Kp 0 0 wb W → Calls Try.prog 26 #[.agg #[.int .i64 F.k, .int .i64 F.p, .bool F.b, .slice mo1 F.ms.length mc1], .agg #[.int .i64 F.k, .int .i64 F.p, .bool F.b, .slice mo2 F.ms.length mc2]] W fun r w' => r = .returned (.bool true) ∧ Kp 0 0 wb w') := fun W hW => (sameFl_yes F W _ _ (hms1.keep0 mvE_good hW) (hms2.keep0 mvE_good hW)).mono fun r w' h => ⟨h.1, hW.trans h.2⟩
          obtain ⟨Fk, Fp, Fb, Fms⟩ := F
          dsimp only at g0 g1 g2 g3 h0 h1 h2 h3 HSF
          generalize Fms.length = L at *
          have HKS : Hid (∀ W, Kp 0 0 wb W → W.cell? ⟨q0, 0, none⟩ = some (.slice (some ⟨b1, o1, none⟩) d.ts.length ac) ∧ W.cell? ⟨b1, o1 + i, none⟩ = some (.slice (some ⟨y1, z1, none⟩) T.length fc1) ∧ W.cell? ⟨q1, 0, none⟩ = some (.slice (some ⟨b2, o2, none⟩) d.ts.length bc) ∧ W.cell? ⟨b2, o2 + i, none⟩ = some (.slice (some ⟨y2, z2, none⟩) T.length fc2) ∧ W.cell? ⟨y1, z1 + j * 4, none⟩ = some (.int .i64 Fk) ∧ W.cell? ⟨y1, z1 + j * 4 + 1, none⟩ = some (.int .i64 Fp) ∧ W.cell? ⟨y1, z1 + j * 4 + 2, none⟩ = some (.bool Fb) ∧ W.cell? ⟨y1, z1 + j * 4 + 3, none⟩ = some (.slice mo1 L mc1) ∧ W.cell? ⟨y2, z2 + j * 4, none⟩ = some (.int .i64 Fk) ∧ W.cell? ⟨y2, z2 + j * 4 + 1, none⟩ = some (.int .i64 Fp) ∧ W.cell? ⟨y2, z2 + j * 4 + 2, none⟩ = some (.bool Fb) ∧ W.cell? ⟨y2, z2 + j * 4 + 3, none⟩ = some (.slice mo2 L mc2) ∧ Kp 0 0 wb W) := fun W hW => ⟨hW.cell A0.out (.inr (Nat.zero_le _)), hW.cell C1.out (.inr (Nat.zero_le _)), hW.cell B0.out (.inr (Nat.zero_le _)), hW.cell C2.out (.inr (Nat.zero_le _)), hW.cell g0 (.inr (Nat.zero_le _)), hW.cell g1 (.inr (Nat.zero_le _)), hW.cell g2 (.inr (Nat.zero_le _)), hW.cell g3 (.inr (Nat.zero_le _)), hW.cell h0 (.inr (Nat.zero_le _)), hW.cell h1 (.inr (Nat.zero_le _)), hW.cell h2 (.inr (Nat.zero_le _)), hW.cell h3 (.inr (Nat.zero_le _)), hW⟩
          clear hF hms1 hms2 g0 g1 g2 g3 h0 h1 h2 h3
          have hk6 : Kp 0 0 wb wr.drew := hkx.drew
          clear hkx
          go_wp2_with fail
          go_region_held3 (fun W => W.cell? ⟨q0, 0, none⟩ = some (.slice (some ⟨b1, o1, none⟩) d.ts.length ac) ∧ W.cell? ⟨b1, o1 + i, none⟩ = some (.slice (some ⟨y1, z1, none⟩) T.length fc1) ∧ W.cell? ⟨q1, 0, none⟩ = some (.slice (some ⟨b2, o2, none⟩) d.ts.length bc) ∧ W.cell? ⟨b2, o2 + i, none⟩ = some (.slice (some ⟨y2, z2, none⟩) T.length fc2) ∧ W.cell? ⟨y1, z1 + j * 4, none⟩ = some (.int .i64 Fk) ∧ W.cell? ⟨y1, z1 + j * 4 + 1, none⟩ = some (.int .i64 Fp) ∧ W.cell? ⟨y1, z1 + j * 4 + 2, none⟩ = some (.bool Fb) ∧ W.cell? ⟨y1, z1 + j * 4 + 3, none⟩ = some (.slice mo1 L mc1) ∧ W.cell? ⟨y2, z2 + j * 4, none⟩ = some (.int .i64 Fk) ∧ W.cell? ⟨y2, z2 + j * 4 + 1, none⟩ = some (.int .i64 Fp) ∧ W.cell? ⟨y2, z2 + j * 4 + 2, none⟩ = some (.bool Fb) ∧ W.cell? ⟨y2, z2 + j * 4 + 3, none⟩ = some (.slice mo2 L mc2) ∧ Kp 0 0 wb W)
            (first
              | exact HKS.out _ hk6
              | exact HKS.out _ hk7)
            ((first
              | (go_at_call 26
                 refine (HSF.out _ hk6).mono ?_
                 rintro r w7 ⟨rfl, hk7⟩)))
          have HK7 := Lib.hid hk7
          clear hk6 hk7
          go_wp2_with fail
          go_roundw
          case rel => exact ⟨j + 1, by omega, by go_num, HK7.out⟩
          case measure => simp [intOf]; omega
        · obtain rfl : j = T.length := by omega
          clear hkx
          go_wp2_with fail
          go_roundw
          case rel => exact ⟨i + 1, by omega, by go_num, HKD.out.trans HKX.out⟩
          case measure => simp [intOf]; omega
    · obtain rfl : i = d.ts.length := by omega
      clear hkp
      go_wp2_with fail
      go_loopw [7] (fun i wx => ∃ k : Nat, k ≤ d.ps.length ∧ i = .int .i64 k ∧ Kp 0 0 w1 wx) (fun i _ => d.ps.length - (intOf i).toNat)
      case atStart => exact ⟨0, Nat.zero_le _, rfl, HK.out⟩
      case round =>
        obtain ⟨k, hk, rfl, hkp⟩ := hrel
        have HK2 := Lib.hid hkp
        have HKW2 := Lib.hid (HW1.out.trans hkp)
        have a0 := blk_cell (hkp.heap HQ0.out (.inr (Nat.zero_le _))) (k := 1) (u := .slice qo d.ps.length qc) rfl
        have b0 := blk_cell (hkp.heap HQ1.out (.inr (Nat.zero_le _))) (k := 1) (u := .slice ro d.ps.length rc) rfl
        by_cases hkt : k < d.ps.length
        · obtain ⟨P, hP⟩ : ∃ P, d.ps[k]? = some P := ⟨_, List.getElem?_eq_getElem hkt⟩
          obtain ⟨b1, o1, rfl, _, g0, g1, g2, g3, g4⟩ := pj_at HAP.out hP
          obtain ⟨b2, o2, rfl, _, h0, h1, h2, h3, h4⟩ := pj_at HBP.out hP
          have g0 := HKW2.out.cell g0 (.inr (Nat.zero_le _))
          have g1 := HKW2.out.cell g1 (.inr (Nat.zero_le _))
          have g2 := HKW2.out.cell g2 (.inr (Nat.zero_le _))
          have g3 := HKW2.out.cell g3 (.inr (Nat.zero_le _))
          have g4 := HKW2.out.cell g4 (.inr (Nat.zero_le _))
          have h0 := HKW2.out.cell h0 (.inr (Nat.zero_le _))
          have h1 := HKW2.out.cell h1 (.inr (Nat.zero_le _))
          have h2 := HKW2.out.cell h2 (.inr (Nat.zero_le _))
          have h3 := HKW2.out.cell h3 (.inr (Nat.zero_le _))
          have h4 := HKW2.out.cell h4 (.inr (Nat.zero_le _))
          have k0 : (0 : Int) ≤ (k : Int) := Int.natCast_nonneg _
          have k1 : (k : Int) < (d.ps.length : Int) := by omega
          obtain ⟨m1, m2, m3, m4, m5⟩ := P
          dsimp only at g0 g1 g2 g3 g4 h0 h1 h2 h3 h4
          clear hP hkp
          go_wp2_with fail
          go_quiet (fail)
          go_wp2_with fail
          go_roundw
          case rel => exact ⟨k + 1, by omega, by go_num, HK2.out.drewN _⟩
          case measure => simp [intOf]; omega
        · clear hkp
          go_wp2_with fail
          go_returns
          exact ⟨rfl, HKW2.out⟩

end Go.Proofs.Ytgokhagbknlfaaa
