/-
  SchemaFits as a contract.
-/
import Derived.Test.YtdgeehcfdnokmaaDoorScSpec
import Derived.Test.YtdgeehcfdnokmaaDoorScLong
import Derived.Test.YtdgeehcfdnokmaaDoorScFit
import Derived.Deep.RegionHeld3
import Derived.Deep.CutRange
namespace Go.Proofs.YtdgeehcfdnokmaaDoor
open Go.RowKit

set_option maxRecDepth 100000 in
set_option maxHeartbeats 8000000 in
theorem sfits_any {P : World → Prop} (HP : SKeeps P) (HC : SCheckOk P) (HF : SFieldOk P) (HX : SFitsOk P) {S : Nat → Prop} (d : Dc) (arg : Int) (w : World) (tv pv : Value) (hd : RdD w S tv pv d) (hfit : Sc.Fits d) (harg : Sc.I64 arg) (hp : P w) :
    Calls Tryd.prog 5 #[.agg #[tv, pv], .int .i64 arg] w fun r w' => r = .returned (.bool true) ∧ Kp 0 0 w w' := by
  have HPW : Hid (∀ W, Kp 0 0 w W → P W) := fun W hW => HP w W hp hW
  have HWK : Hid (∀ W, Kp 0 0 w W → Calls Tryd.prog 8 #[] W fun r w' => r = .returned (.bool true) ∧ Kp 0 0 w w') := fun W hW => (works_any HP HC HF HX W (HPW.out W hW)).mono fun r w' h => ⟨h.1, hW.trans h.2⟩
  have HD := Lib.hid hd
  have HI := Lib.hid harg
  have HFT := Lib.hid hfit
  obtain ⟨ti, tc, rfl, _, _, htc⟩ := hd.t.open
  obtain ⟨po, pc, rfl, _, _, _⟩ := hd.p.open
  have HTC := Lib.hid htc
  clear hp hd harg hfit htc
  have HW1 : Hid (Kp 0 0 w (w.alloc (.cells #[.slice ti d.ts.length tc, .slice po d.ps.length pc] 25))) := (Kp.refl _ _ _).alloc _
  have HQ := Lib.hid (blk_one w (.cells #[.slice ti d.ts.length tc, .slice po d.ps.length pc] 25))
  go_enter Tryd.func5, Tryd.ntmps5
  go_wp2_with fail
  generalize w.alloc (.cells #[.slice ti d.ts.length tc, .slice po d.ps.length pc] 25) = w1 at HW1 HQ ⊢
  generalize w.heap.size = q at HQ ⊢
  refine (long_any d w1 _ _ (HD.out.keep0 HW1.out)).mono ?_
  rintro r w2 ⟨rfl, hk⟩
  have HW2 := Lib.hid (HW1.out.trans hk)
  have HQ2 := Lib.hid (hk.heap HQ.out (.inr (Nat.zero_le _)))
  clear hk HQ
  by_cases hl : Sc.long d = true
  · rw [hl]
    clear hl
    go_wp2_with fail
    refine (HWK.out _ HW2.out).mono ?_
    rintro r w3 ⟨rfl, hk⟩
    go_wp2_with fail
    go_returns
    exact ⟨rfl, hk⟩
  have hl : Sc.long d = false := by simpa using hl
  have HS := Lib.hid (Sc.long_no hl)
  rw [hl]
  clear hl
  have a0 := blk_cell HQ2.out (k := 0) (u := .slice ti d.ts.length tc) rfl
  have a1 := blk_cell HQ2.out (k := 1) (u := .slice po d.ps.length pc) rfl
  go_wp2_with fail
  refine (HC _ d w2 _ _ (HD.out.keep0 HW2.out) HFT.out HS.out (HPW.out _ HW2.out)).mono ?_
  rintro r w3 ⟨rfl, hk⟩
  have HW3 := Lib.hid (HW2.out.trans hk)
  have HQ3 := Lib.hid (hk.heap HQ2.out (.inr (Nat.zero_le _)))
  clear hk HQ2 a0 a1
  by_cases hck : Sc.check d = 0
  case neg =>
    have e0 : (Sc.check d != 0) = true := by simpa using hck
    go_wp2_with fail
    refine (HWK.out _ HW3.out).mono ?_
    rintro r w4 ⟨rfl, hk⟩
    go_wp2_with fail
    go_returns
    exact ⟨rfl, hk⟩
  have HCK := Lib.hid hck
  rw [hck]
  clear hck
  go_wp2_with fail
  go_loopw [5, 6, 7, 8, 9, 10, 11, 12] (fun i _ _ _ _ _ _ _ wr => ∃ k : Nat, k ≤ d.ts.length ∧ i = .int .i64 k ∧ Kp 0 0 w3 wr) (fun i _ _ _ _ _ _ _ _ => d.ts.length - (intOf i).toNat)
  case atStart => exact ⟨0, Nat.zero_le _, rfl, Kp.refl _ _ _⟩
  case round =>
    obtain ⟨i, hi, rfl, hkp⟩ := hrel
    have HK := Lib.hid hkp
    have HKW := Lib.hid (HW3.out.trans hkp)
    have HQR := Lib.hid (hkp.heap HQ3.out (.inr (Nat.zero_le _)))
    have q0 := blk_cell HQR.out (k := 0) (u := .slice ti d.ts.length tc) rfl
    by_cases hlt : i < d.ts.length
    · obtain ⟨T, hT⟩ : ∃ T, d.ts[i]? = some T := ⟨_, List.getElem?_eq_getElem hlt⟩
      obtain ⟨b, o, fo, fc, rfl, _, c1, _, _, hf⟩ := ty_at HTC.out hT
      have HC1 := Lib.hid (HKW.out.cell c1 (.inr (Nat.zero_le _)))
      have HFS := Lib.hid (hf.keep0 flE_good HKW.out)
      have HTI := Lib.hid hT
      have hd20 := HS.out.1
      have hT20 := (HS.out.2.2 T (List.mem_of_getElem? hT)).1
      clear hf hT hkp c1
      have i0 : (0 : Int) ≤ (i : Int) := Int.natCast_nonneg _
      have i1 : (i : Int) < (d.ts.length : Int) := by omega
      generalize wr = wb at *
      go_wp2_with fail
      go_loopw [6, 7, 8, 9, 10, 11, 12] (fun i _ _ _ _ _ _ wx => ∃ k : Nat, k ≤ T.length ∧ i = .int .i64 k ∧ Kp 0 0 wb wx) (fun i _ _ _ _ _ _ _ => T.length - (intOf i).toNat)
      case atStart => exact ⟨0, Nat.zero_le _, rfl, Kp.refl _ _ _⟩
      case round =>
        obtain ⟨j, hj, rfl, hkx⟩ := hrel
        have HKX := Lib.hid hkx
        have s0 := blk_cell (hkx.heap HQR.out (.inr (Nat.zero_le _))) (k := 0) (u := .slice (some ⟨b, o, none⟩) d.ts.length tc) rfl
        have s0b := blk_cell (hkx.heap HQR.out (.inr (Nat.zero_le _))) (k := 1) (u := .slice po d.ps.length pc) rfl
        have s1 := hkx.cell HC1.out (.inr (Nat.zero_le _))
        by_cases hjt : j < T.length
        · obtain ⟨F, hF⟩ : ∃ F, T[j]? = some F := ⟨_, List.getElem?_eq_getElem hjt⟩
          obtain ⟨y1, z1, mo, mc, rfl, _, g0, g1, g2, g3, _, _, hms⟩ := fl_at HFS.out.cl hF
          have k0 : (0 : Int) ≤ (j : Int) := Int.natCast_nonneg _
          have k1 : (j : Int) < (T.length : Int) := by omega
          have HFI := Lib.hid (Sc.field_some HTI.out hF)
          have HKO := Lib.hid (Sc.kind_ok HCK.out (List.mem_of_getElem? HTI.out) (List.mem_of_getElem? hF))
          have HKWX := Lib.hid (HKW.out.trans hkx)
          have HG := Lib.hid (show _ ∧ _ ∧ _ ∧ _ from ⟨g0, g1, g2, g3⟩)
          have HMS := Lib.hid hms
          clear hF hms g0 g1 g2 g3 hkx
          go_wp2_with fail
          refine (HF _ d i j wr _ _ (HD.out.keep0 HKWX.out) HFT.out HS.out ⟨by omega, by omega⟩ ⟨by omega, by omega⟩ (HPW.out _ HKWX.out)).mono ?_
          rw [HFI.out]
          rintro r w4 ⟨mv, rfl, hmv, hk⟩
          simp only [Option.getD_some, Option.isSome_some] at hmv ⊢
          unfold fieldV
          obtain ⟨no, nc, rfl⟩ : ∃ ao c, mv = .slice ao F.ms.length c := by
            obtain ⟨_, h, _⟩ := hmv
            exact ownsRow_open h
          clear s0 s0b s1
          go_upto_region 10 with fail
          have hka := hk.alloc (.cells #[.int .i64 F.k, .int .i64 F.p, .bool F.b, .slice no F.ms.length nc] 33)
          have HK5 : Hid (Kp 0 0 wb (w4.alloc (.cells #[.int .i64 F.k, .int .i64 F.p, .bool F.b, .slice no F.ms.length nc] 33))) := HKX.out.trans hka
          have HQF := Lib.hid (blk_one w4 (.cells #[.int .i64 F.k, .int .i64 F.p, .bool F.b, .slice no F.ms.length nc] 33))
          have HNV : Hid (RdS mvE 4 (w4.alloc (.cells #[.int .i64 F.k, .int .i64 F.p, .bool F.b, .slice no F.ms.length nc] 33)) (fun _ => True) (.slice no F.ms.length nc) F.ms) := (hmv.rd (S := fun _ => False) mvE_good (fun _ _ h => False.elim h) (fun _ _ => trivial)).keep0 mvE_good ((Kp.refl _ _ _).alloc _)
          clear hk hka hmv
          generalize w4.alloc (.cells #[.int .i64 F.k, .int .i64 F.p, .bool F.b, .slice no F.ms.length nc] 33) = w5 at HK5 HQF HNV ⊢
          generalize w4.heap.size = qf at HQF ⊢
          have HSF : Hid (∀ W, Kp 0 0 w5 W → Calls Tryd.prog 14 #[.agg #[.int .i64 F.k, .int .i64 F.p, .bool F.b, .slice no F.ms.length nc], .agg #[.int .i64 F.k, .int .i64 F.p, .bool F.b, .slice mo F.ms.length mc]] W fun r w' => r = .returned (.bool true) ∧ Kp 0 0 w5 w') := fun W hW => (sameFl_yes F W _ _ (HNV.out.keep0 mvE_good hW) (HMS.out.keep0 mvE_good (HK5.out.trans hW))).mono fun r w' h => ⟨h.1, hW.trans h.2⟩
          have HKS : Hid (∀ W, Kp 0 0 w5 W → W.cell? ⟨q, 0, none⟩ = some (.slice (some ⟨b, o, none⟩) d.ts.length tc) ∧ W.cell? ⟨b, o + i, none⟩ = some (.slice (some ⟨y1, z1, none⟩) T.length fc) ∧ W.cell? ⟨y1, z1 + j * 4, none⟩ = some (.int .i64 F.k) ∧ W.cell? ⟨y1, z1 + j * 4 + 1, none⟩ = some (.int .i64 F.p) ∧ W.cell? ⟨y1, z1 + j * 4 + 2, none⟩ = some (.bool F.b) ∧ W.cell? ⟨y1, z1 + j * 4 + 3, none⟩ = some (.slice mo F.ms.length mc) ∧ W.cell? ⟨qf, 0, none⟩ = some (.int .i64 F.k) ∧ W.cell? ⟨qf, 1, none⟩ = some (.int .i64 F.p) ∧ W.cell? ⟨qf, 2, none⟩ = some (.bool F.b) ∧ W.cell? ⟨qf, 3, none⟩ = some (.slice no F.ms.length nc) ∧ Kp 0 0 w5 W) := fun W hW => by
            have h0 := HK5.out.trans hW
            exact ⟨blk_cell (h0.heap HQR.out (.inr (Nat.zero_le _))) rfl, h0.cell HC1.out (.inr (Nat.zero_le _)), h0.cell HG.out.1 (.inr (Nat.zero_le _)), h0.cell HG.out.2.1 (.inr (Nat.zero_le _)), h0.cell HG.out.2.2.1 (.inr (Nat.zero_le _)), h0.cell HG.out.2.2.2 (.inr (Nat.zero_le _)), blk_cell (hW.heap HQF.out (.inr (Nat.zero_le _))) rfl, blk_cell (hW.heap HQF.out (.inr (Nat.zero_le _))) rfl, blk_cell (hW.heap HQF.out (.inr (Nat.zero_le _))) rfl, blk_cell (hW.heap HQF.out (.inr (Nat.zero_le _))) rfl, hW⟩
          have hk0 : Kp 0 0 w5 w5.drew := (Kp.refl 0 0 w5).drew
          go_region_held3 (fun W => W.cell? ⟨q, 0, none⟩ = some (.slice (some ⟨b, o, none⟩) d.ts.length tc) ∧ W.cell? ⟨b, o + i, none⟩ = some (.slice (some ⟨y1, z1, none⟩) T.length fc) ∧ W.cell? ⟨y1, z1 + j * 4, none⟩ = some (.int .i64 F.k) ∧ W.cell? ⟨y1, z1 + j * 4 + 1, none⟩ = some (.int .i64 F.p) ∧ W.cell? ⟨y1, z1 + j * 4 + 2, none⟩ = some (.bool F.b) ∧ W.cell? ⟨y1, z1 + j * 4 + 3, none⟩ = some (.slice mo F.ms.length mc) ∧ W.cell? ⟨qf, 0, none⟩ = some (.int .i64 F.k) ∧ W.cell? ⟨qf, 1, none⟩ = some (.int .i64 F.p) ∧ W.cell? ⟨qf, 2, none⟩ = some (.bool F.b) ∧ W.cell? ⟨qf, 3, none⟩ = some (.slice no F.ms.length nc) ∧ Kp 0 0 w5 W)
            (first | exact HKS.out _ hk7 | exact HKS.out _ hk0)
            ((first
              | (go_at_call 14
                 refine (HSF.out _ hk0).mono ?_
                 rintro r w6 ⟨rfl, hk7⟩)))
          have HK6 := Lib.hid (HK5.out.trans hk7)
          have HQF6 := Lib.hid (hk7.heap HQF.out (.inr (Nat.zero_le _)))
          clear hk7 hk0 HKS HSF HNV HQF HMS HG
          have hL : (F.ms.length : Int) ≤ 40 := by
            have h1 := (HS.out.2.2 T (List.mem_of_getElem? HTI.out)).2
            obtain ⟨n, m, U, e1, e2, hU, hF⟩ := Sc.field_inv HFI.out
            have e1 : n = i := by omega
            subst e1
            rw [HTI.out] at hU
            cases hU
            have := h1 F (List.mem_of_getElem? hF)
            omega
          have hko := HKO.out
          have HFV : Hid (∀ op a, Sc.fits d i j op a = Sc.fitv F.k (F.ms.length : Int) op a) := fun op a => Sc.fits_of HFI.out op a
          clear HFI
          generalize F.ms.length = L at *
          generalize F.k = K at *
          go_wp2_with fail
          go_loopw [9, 10, 11, 12] (fun n op _ _ wx => ∃ k : Nat, k ≤ 9 ∧ op = .int .i64 ((k : Int) - 1) ∧ n = .int .i64 (Sc.cnt K k) ∧ Kp 0 0 w6 wx) (fun _ op _ _ _ => 9 - (intOf op + 1).toNat)
          case atStart => exact ⟨0, Nat.zero_le _, rfl, rfl, Kp.refl _ _ _⟩
          case round =>
            obtain ⟨m, hm, rfl, rfl, hky⟩ := hrel
            have HKY := Lib.hid (HK6.out.trans hky)
            have HKWY := Lib.hid (HKW.out.trans HKY.out)
            have s0 := blk_cell (HKY.out.heap HQR.out (.inr (Nat.zero_le _))) (k := 0) (u := .slice (some ⟨b, o, none⟩) d.ts.length tc) rfl
            have s0b := blk_cell (HKY.out.heap HQR.out (.inr (Nat.zero_le _))) (k := 1) (u := .slice po d.ps.length pc) rfl
            have f0 := blk_cell (hky.heap HQF6.out (.inr (Nat.zero_le _))) (k := 0) (u := .int .i64 K) rfl
            have f3 := blk_cell (hky.heap HQF6.out (.inr (Nat.zero_le _))) (k := 3) (u := .slice no L nc) rfl
            have HKQ := Lib.hid hky
            clear hky
            by_cases hm9 : m < 9
            · have hop : Sc.I64 ((m : Int) - 1) := ⟨by omega, by omega⟩
              have o7 : ((m : Int) - 1) ≤ 7 := by omega
              have HCN : Hid (Sc.cnt K (m + 1) = Sc.cnt K m + (if Sc.good K ((m : Int) - 1) then 1 else 0)) := rfl
              have hcl := Sc.cnt_le K m
              have HE1 : Hid (∀ W, Kp 0 0 w6 W → Calls Tryd.prog 15 #[.agg #[.slice (some ⟨b, o, none⟩) d.ts.length tc, .slice po d.ps.length pc], .int .i64 i, .int .i64 j, .int .i64 ((m : Int) - 1), .int .i64 0] W fun r w' => r = .returned (.int .i64 (Sc.fitv K L ((m : Int) - 1) 0)) ∧ Kp 0 0 w6 w') := fun W hW => by
                have hWW := HKW.out.trans (HK6.out.trans hW)
                have h := HX _ d i j ((m : Int) - 1) 0 W _ _ (HD.out.keep0 hWW) HFT.out HS.out ⟨by omega, by omega⟩ ⟨by omega, by omega⟩ hop ⟨by decide, by decide⟩ (HPW.out _ hWW)
                rw [HFV.out] at h
                exact h.mono fun r w' h => ⟨h.1, hW.trans h.2⟩
              have HE2 : Hid (∀ W, Kp 0 0 w6 W → Calls Tryd.prog 15 #[.agg #[.slice (some ⟨b, o, none⟩) d.ts.length tc, .slice po d.ps.length pc], .int .i64 i, .int .i64 j, .int .i64 ((m : Int) - 1), .int .i64 arg] W fun r w' => r = .returned (.int .i64 (Sc.fitv K L ((m : Int) - 1) arg)) ∧ Kp 0 0 w6 w') := fun W hW => by
                have hWW := HKW.out.trans (HK6.out.trans hW)
                have h := HX _ d i j ((m : Int) - 1) arg W _ _ (HD.out.keep0 hWW) HFT.out HS.out ⟨by omega, by omega⟩ ⟨by omega, by omega⟩ hop HI.out (HPW.out _ hWW)
                rw [HFV.out] at h
                exact h.mono fun r w' h => ⟨h.1, hW.trans h.2⟩
              have HCS : Hid (∀ W, Kp 0 0 w6 W → W.cell? ⟨q, 0, none⟩ = some (.slice (some ⟨b, o, none⟩) d.ts.length tc) ∧ W.cell? ⟨q, 1, none⟩ = some (.slice po d.ps.length pc) ∧ W.cell? ⟨qf, 3, none⟩ = some (.slice no L nc)) := fun W hW => by
                have h0 := HK6.out.trans hW
                exact ⟨blk_cell (h0.heap HQR.out (.inr (Nat.zero_le _))) rfl, blk_cell (h0.heap HQR.out (.inr (Nat.zero_le _))) rfl, blk_cell (hW.heap HQF6.out (.inr (Nat.zero_le _))) rfl⟩
              have hcases : ∃ e1 e2 : Int, Sc.fitv K L ((m : Int) - 1) 0 = e1 ∧ Sc.fitv K L ((m : Int) - 1) arg = e2 ∧ ((Sc.good K ((m : Int) - 1) = true ∧ (e1 = 0 ∨ e1 = 1) ∧ (e2 = 0 ∨ e2 = 1)) ∨ (Sc.good K ((m : Int) - 1) = false ∧ e1 = 2 ∧ e2 = 2)) ∧ (e2 = 0 → (m : Int) - 1 = 1 → (arg == 0) = false) ∧ (e2 = 0 → (m : Int) - 1 = 5 → decide (arg < 0) = false ∧ decide ((L : Int) ≤ arg) = false) := by
                refine ⟨_, _, rfl, rfl, ?_, fun h2 ho => ?_, fun h2 ho => ?_⟩
                · cases hg : Sc.good K ((m : Int) - 1)
                  · exact .inr ⟨rfl, Sc.fitv_bad.1 hg, Sc.fitv_bad.1 hg⟩
                  · exact .inl ⟨rfl, Sc.fitv_good.1 hg, Sc.fitv_good.1 hg⟩
                · rw [ho] at h2
                  have := Sc.fitv_inc h2
                  simpa using this
                · rw [ho] at h2
                  have := Sc.fitv_move h2
                  exact ⟨decide_eq_false (by omega), decide_eq_false (by omega)⟩
              obtain ⟨e1, e2, he1, he2, hgg, h105, h122⟩ := hcases
              rw [he1] at HE1
              rw [he2] at HE2
              have H105 := Lib.hid h105
              have H122 := Lib.hid h122
              clear he1 he2 h105 h122 f0
              go_wp2_with fail
              refine (HE1.out _ HKQ.out).mono ?_
              rintro r v1 ⟨rfl, hk1⟩
              obtain ⟨s0, s0b, f3⟩ := HCS.out _ hk1
              have HV1 := Lib.hid hk1
              clear hk1
              go_wp2_with fail
              refine (HE2.out _ HV1.out).mono ?_
              rintro r v2 ⟨rfl, hk2⟩
              obtain ⟨s0, s0b, f3⟩ := HCS.out _ hk2
              have HV2 := Lib.hid hk2
              clear hk2 HE1 HE2
              have hcn : ∃ N : Int, Sc.cnt K (m + 1) = N ∧ ((Sc.good K ((m : Int) - 1) = true ∧ N = Sc.cnt K m + 1) ∨ (Sc.good K ((m : Int) - 1) = false ∧ N = Sc.cnt K m)) := by
                refine ⟨_, rfl, ?_⟩
                have := HCN.out
                cases hg : Sc.good K ((m : Int) - 1)
                · rw [hg] at this
                  exact .inr ⟨rfl, by simpa using this⟩
                · rw [hg] at this
                  exact .inl ⟨rfl, by simpa using this⟩
              obtain ⟨N, hN, hNN⟩ := hcn
              have HN := Lib.hid hN
              clear hN HCN
              generalize Sc.cnt K m = cn at *
              generalize Sc.good K ((m : Int) - 1) = gd at *
              have hall : (gd = true ∧ (e1 = 0 ∨ e1 = 1) ∧ (e2 = 0 ∨ e2 = 1) ∧ N = cn + 1) ∨ (gd = false ∧ e1 = 2 ∧ e2 = 2 ∧ N = cn) := by
                rcases hgg with ⟨h1, h2, h3⟩ | ⟨h1, h2, h3⟩ <;> rcases hNN with ⟨h4, h5⟩ | ⟨h4, h5⟩
                · exact .inl ⟨h1, h2, h3, h5⟩
                · rw [h1] at h4; cases h4
                · rw [h1] at h4; cases h4
                · exact .inr ⟨h1, h2, h3, h5⟩
              clear hgg hNN
              have hstep : ∀ c, (c = cn + 1 ∨ c = cn) → N = c → Sc.cnt K (m + 1) = c := fun c _ h => by rw [HN.out, h]
              have HST := Lib.hid hstep
              clear hstep
              rcases hall with ⟨rfl, rfl | rfl, rfl | rfl, rfl⟩ | ⟨rfl, rfl, rfl, rfl⟩
              all_goals
                go_upto_region 20 with fail
                go_cut [10, 105] from 62 to 122 (fun oo c w' => oo = .int .i64 ((m : Int) - 1) ∧ c = .bool false ∧ Eqw w' v2)
                case first =>
                  go_wp2_with fail
                  all_goals
                    go_meet
                    case rel =>
                      refine ⟨by first | rfl | (congr 1; omega), ?_, Eqw.refl _⟩
                      first
                        | rfl
                        | (rw [H105.out trivial (by omega)]; done)
                case rest =>
                  obtain ⟨rfl, rfl, hw⟩ := hcut
                  obtain rfl := hw.out
                  go_upto_region 22 with fail
                  go_cut [10, 122] from 62 to 122 (fun oo c w' => oo = .int .i64 ((m : Int) - 1) ∧ c = .bool false ∧ Eqw w' wc)
                  case first =>
                    go_wp2_with fail
                    all_goals
                      go_meet
                      case rel =>
                        refine ⟨by first | rfl | (congr 1; omega), ?_, Eqw.refl _⟩
                        first
                          | rfl
                          | (rw [(H122.out trivial (by omega)).1]; done)
                          | (rw [(H122.out trivial (by omega)).2]; done)
                          | (have h9 := H122.out trivial (by omega)
                             rw [h9.1, h9.2]
                             all_goals rfl)
                          | (exfalso
                             have h9 := H122.out trivial (by omega)
                             have h10 := of_decide_eq_false h9.1
                             have h11 := of_decide_eq_false h9.2
                             first
                               | omega
                               | (rename_i hz
                                  simp at hz
                                  omega))
                  case rest =>
                    obtain ⟨rfl, rfl, hw2⟩ := hcut
                    obtain rfl := hw2.out
                    go_wp2_with fail
                    go_roundw
                    case rel => exact ⟨m + 1, by omega, by first | (congr 1; omega) | (simp; omega), by rw [HN.out], HV2.out⟩
                    case measure => simp [intOf]; omega
            · obtain rfl : m = 9 := by omega
              have hc9 := Sc.cnt_nine hko.1 hko.2
              have o8 : ¬ (((9 : Nat) : Int) - 1 ≤ 7) := by decide
              by_cases hK : K = 3
              · rw [if_pos hK] at hc9
                rw [hc9]
                have e1 : (K == 3) = true := by rw [hK]; rfl
                have e2 : (K != 3) = false := by rw [hK]; rfl
                clear hK hc9
                go_wp2_with fail
                go_roundw
                case rel => exact ⟨j + 1, by omega, by go_num, HKY.out⟩
                case measure => simp [intOf]; omega
              · rw [if_neg hK] at hc9
                rw [hc9]
                have e1 : (K == 3) = false := by simpa using hK
                have e2 : (K != 3) = true := by simpa using hK
                clear hK hc9
                go_wp2_with fail
                go_roundw
                case rel => exact ⟨j + 1, by omega, by go_num, HKY.out⟩
                case measure => simp [intOf]; omega
        · clear hkx
          go_wp2_with fail
          go_roundw
          case rel => exact ⟨i + 1, by omega, by go_num, HK.out.trans HKX.out⟩
          case measure => simp [intOf]; omega
    · clear hkp
      go_wp2_with fail
      refine (HWK.out _ HKW.out).mono ?_
      rintro r w4 ⟨rfl, hk⟩
      go_wp2_with fail
      go_returns
      exact ⟨rfl, hk⟩

end Go.Proofs.YtdgeehcfdnokmaaDoor
