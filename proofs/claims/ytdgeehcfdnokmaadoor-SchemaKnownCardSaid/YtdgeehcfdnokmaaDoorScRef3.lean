/-
  The document's answer for package schema: one (a field).
-/
import Derived.Test.YtdgeehcfdnokmaaDoorScRef2
import Derived.Deep.Cut
import Derived.Deep.RegionHeld3
import Derived.Deep.QuietTactic
namespace Go.Proofs.YtdgeehcfdnokmaaDoor
open Go.RowKit

set_option maxRecDepth 100000 in
set_option maxHeartbeats 2000000 in
theorem refOne_any {S : Nat → Prop} (t : List Fl) (F : Fl) (w : World) (tv mv : Value) (ht : RdS flE 4 w S tv t) (hm : RdS mvE 4 w S mv F.ms) :
    Calls Tryd.prog 27 #[.agg #[tv], .agg #[.int .i64 F.k, .int .i64 F.p, .bool F.b, mv]] w fun r w' => r = .returned (.int .i64 (Sc.one t F)) ∧ Kp 0 0 w w' := by
  have HT := Lib.hid ht
  obtain ⟨to, tc, rfl, ht1, ht2, _⟩ := ht.open
  obtain ⟨mo, mc, rfl, hm1, hm2, hmc⟩ := hm.open
  have HM := Lib.hid hmc
  clear ht hm hmc
  have HO : Hid (Sc.one t F = if F.k < 1 ∨ 4 < F.k then 2 else if Sc.okP F = false ∨ (F.b = true ∧ F.k ≠ 1) then 1 else if F.ms.any Sc.badM = true then 1 else if F.ms.any (Sc.badN t) = true then 8 else 0) := rfl
  by_cases h1 : F.k < 1
  · have HV : Hid (Sc.one t F = 2) := by
      show _ = _
      rw [HO.out, if_pos (.inl h1)]
    go_enter Tryd.func27, Tryd.ntmps27
    go_wp2_with fail
    go_returns
    rw [HV.out]
    exact ⟨rfl, ((Kp.refl _ _ _).alloc _).alloc _⟩
  have h1' : 1 ≤ F.k := by omega
  by_cases h4 : 4 < F.k
  · have HV : Hid (Sc.one t F = 2) := by
      show _ = _
      rw [HO.out, if_pos (.inr h4)]
    clear h1
    go_enter Tryd.func27, Tryd.ntmps27
    go_wp2_with fail
    go_returns
    rw [HV.out]
    exact ⟨rfl, ((Kp.refl _ _ _).alloc _).alloc _⟩
  have h4' : F.k ≤ 4 := by omega
  rw [if_neg (by omega)] at HO
  have y1 : decide (F.k < 1) = false := decide_eq_false (by omega)
  have y4 : decide (4 < F.k) = false := decide_eq_false (by omega)
  clear h1 h4 h1' h4'
  go_enter Tryd.func27, Tryd.ntmps27
  go_upto_region 3 with fail
  have HK1 : Hid (Kp 0 0 w ((w.alloc (.cells #[.slice to t.length tc] 45)).alloc (.cells #[.int .i64 F.k, .int .i64 F.p, .bool F.b, .slice mo F.ms.length mc] 33))) := ((Kp.refl _ _ _).alloc _).alloc _
  have HQ0 := Lib.hid (blk_old (blk_one w (.cells #[.slice to t.length tc] 45)) (.cells #[.int .i64 F.k, .int .i64 F.p, .bool F.b, .slice mo F.ms.length mc] 33))
  have HQ1 := Lib.hid (blk_two w (.cells #[.slice to t.length tc] 45) (.cells #[.int .i64 F.k, .int .i64 F.p, .bool F.b, .slice mo F.ms.length mc] 33))
  generalize (w.alloc (.cells #[.slice to t.length tc] 45)).alloc (.cells #[.int .i64 F.k, .int .i64 F.p, .bool F.b, .slice mo F.ms.length mc] 33) = w1 at HK1 HQ0 HQ1 ⊢
  generalize w.heap.size + 1 = q1 at HQ1 ⊢
  generalize w.heap.size = q0 at HQ0 ⊢
  have c0 := blk_cell HQ1.out (k := 0) (u := .int .i64 F.k) rfl
  have c1 := blk_cell HQ1.out (k := 1) (u := .int .i64 F.p) rfl
  have c2 := blk_cell HQ1.out (k := 2) (u := .bool F.b) rfl
  have c3 := blk_cell HQ1.out (k := 3) (u := .slice mo F.ms.length mc) rfl
  have HMM := Lib.hid (HM.out.keep0 mvE_good HK1.out)
  have HTT := Lib.hid (HT.out.keep0 flE_good HK1.out)
  go_cut [1, 5] from 9 (fun s1 ok w' => s1 = .agg #[.int .i64 F.k, .int .i64 F.p, .bool F.b, .slice mo F.ms.length mc] ∧ ok = .bool (Sc.okP F) ∧ Eqw w' w1)
  case first =>
    go_wp2_with fail
    all_goals
      go_meet
      case rel =>
        refine ⟨by first | rfl | simp [*], ?_, Eqw.refl _⟩
        clear HO HT HM HMM HTT HQ0 HQ1 HK1 c0 c1 c2 c3 y1 y4
        congr 1
        rw [Bool.eq_iff_iff]
        simp [Sc.okP, *]
  case rest =>
    obtain ⟨rfl, rfl, hw⟩ := hcut
    obtain rfl := hw.out
    by_cases hok : Sc.okP F = false
    · have HV : Hid (Sc.one t F = 1) := by
        show _ = _
        rw [HO.out, if_pos (.inl hok)]
      rw [hok]
      clear hok
      go_wp2_with fail
      go_returns
      rw [HV.out]
      exact ⟨rfl, HK1.out⟩
    have hok : Sc.okP F = true := by simpa using hok
    by_cases hfl : F.b = true ∧ F.k ≠ 1
    · have HV : Hid (Sc.one t F = 1) := by
        show _ = _
        rw [HO.out, if_pos (.inr hfl)]
      have k1 : (F.k != 1) = true := by simpa using hfl.2
      rw [hfl.1] at c2
      rw [hok]
      clear hok hfl
      go_wp2_with fail
      go_returns
      rw [HV.out]
      exact ⟨rfl, HK1.out⟩
    rw [if_neg (by intro h; rcases h with h | h; exact absurd (hok.symm.trans h) (by decide); exact hfl h)] at HO
    rw [hok]
    have hfk : F.b = true → (F.k != 1) = false := fun h => by
      have : F.k = 1 := by
        by_cases h1 : F.k = 1
        · exact h1
        · exact absurd ⟨h, h1⟩ hfl
      rw [this]
      rfl
    clear hfl
    go_upto_region 4 with fail
    go_cut [1, 50] from 9 (fun s1 c w' => s1 = .agg #[.int .i64 F.k, .int .i64 F.p, .bool F.b, .slice mo F.ms.length mc] ∧ c = .bool false ∧ Eqw w' wc)
    case first =>
      go_wp2_with fail
      all_goals
        go_meet
        case rel =>
          refine ⟨by first | rfl | simp [*], ?_, Eqw.refl _⟩
          first
            | rfl
            | (rw [hfk (by assumption)]; done)
            | (have h5 := hfk (by assumption); simp [h5])
    case rest =>
      obtain ⟨rfl, rfl, hw2⟩ := hcut
      obtain rfl := hw2.out
      clear hok hw hfk
      go_wp2_with fail
      go_loopw [6, 7] (fun i _ wr => ∃ k : Nat, k ≤ F.ms.length ∧ i = .int .i64 k ∧ Hid (Sc.None Sc.badM F.ms k) ∧ Kp 0 0 wc wr) (fun i _ _ => F.ms.length - (intOf i).toNat)
      case atStart => exact ⟨0, Nat.zero_le _, rfl, Sc.None.zero _ _, Kp.refl _ _ _⟩
      case round =>
        obtain ⟨k, hk, rfl, HN, hkp⟩ := hrel
        have HK := Lib.hid hkp
        have d3 := hkp.cell c3 (.inr (Nat.zero_le _))
        by_cases hlt : k < F.ms.length
        · obtain ⟨m, hmk⟩ : ∃ m, F.ms[k]? = some m := ⟨_, List.getElem?_eq_getElem hlt⟩
          obtain ⟨b3, o3, rfl, hb3, e0, e1, e2, e3⟩ := mv_at HMM.out hmk
          have e0 := hkp.cell e0 (.inr (Nat.zero_le _))
          have e1 := hkp.cell e1 (.inr (Nat.zero_le _))
          have e2 := hkp.cell e2 (.inr (Nat.zero_le _))
          have e3 := hkp.cell e3 (.inr (Nat.zero_le _))
          have HMK := Lib.hid hmk
          have HBM : Hid (Sc.badM m = (decide (m.f < 0) || decide (m.t < 0) || (m.n == -1 && m.l != 0))) := rfl
          have k0 : (0 : Int) ≤ (k : Int) := Int.natCast_nonneg _
          have k1 : (k : Int) < (F.ms.length : Int) := by omega
          clear hmk hkp c0 c1 c2
          go_wp2_with fail
          all_goals first
            | (go_roundw
               case rel =>
                 refine ⟨k + 1, by omega, by go_num, HN.step HMK.out ?_, HK.out.alloc _⟩
                 rw [HBM.out]
                 simp [*]
               case measure => simp [intOf]; omega)
            | (have HB : Hid (Sc.badM m = true) := by
                 show _ = _
                 rw [HBM.out]
                 first
                   | (simp [*]; done)
                   | (rename_i hh
                      simp at hh
                      simp
                      omega)
               have HV : Hid (Sc.one t F = 1) := by
                 show _ = _
                 rw [HO.out, if_pos (Sc.any_stop HMK.out HB.out)]
               go_returns
               rw [HV.out]
               exact ⟨rfl, (HK1.out.trans HK.out).alloc _⟩)
        · obtain rfl : k = F.ms.length := by omega
          rw [HN.out.done, if_neg (by simp)] at HO
          clear hkp
          go_wp2_with fail
          go_loopw [8] (fun i wr2 => ∃ k : Nat, k ≤ F.ms.length ∧ i = .int .i64 k ∧ Hid (Sc.None (Sc.badN t) F.ms k) ∧ Kp 0 0 wc wr2) (fun i _ => F.ms.length - (intOf i).toNat)
          case atStart => exact ⟨0, Nat.zero_le _, rfl, Sc.None.zero _ _, HK.out⟩
          case round =>
            obtain ⟨j, hj, rfl, HNN, hkp⟩ := hrel
            have HK2 := Lib.hid hkp
            have d3 := hkp.cell c3 (.inr (Nat.zero_le _))
            have d0 := blk_cell (hkp.heap HQ0.out (.inr (Nat.zero_le _))) (k := 0) (u := .slice to t.length tc) rfl
            by_cases hlt : j < F.ms.length
            · obtain ⟨m, hmk⟩ : ∃ m, F.ms[j]? = some m := ⟨_, List.getElem?_eq_getElem hlt⟩
              obtain ⟨b3, o3, rfl, hb3, _, _, e2, _⟩ := mv_at HMM.out hmk
              have e2 := hkp.cell e2 (.inr (Nat.zero_le _))
              have HMK := Lib.hid hmk
              have HBN : Hid (Sc.badN t m = (m.n != -1 && Sc.kind t m.n != 1)) := rfl
              have k0 : (0 : Int) ≤ (j : Int) := Int.natCast_nonneg _
              have k1 : (j : Int) < (F.ms.length : Int) := by omega
              have HKD : Hid (∀ W, Kp 0 0 wr W → Calls Tryd.prog 28 #[.agg #[.slice to t.length tc], .int .i64 m.n] W fun r w' => r = .returned (.int .i64 (Sc.kind t m.n)) ∧ Kp 0 0 wr w') := fun W hW => (refKind_any t m.n W _ (HTT.out.keep0 flE_good (HK2.out.trans hW))).mono fun r w' h => ⟨h.1, hW.trans h.2⟩
              clear hmk hkp
              by_cases hn : m.n = -1
              · have n0 : (m.n != -1) = false := by rw [hn]; rfl
                have HS := Lib.hid (HNN.step HMK.out (by rw [HBN.out, n0]; rfl))
                go_wp2_with fail
                go_quiet (fail)
                go_wp2_with fail
                go_roundw
                case rel => exact ⟨j + 1, by omega, by go_num, HS, HK2.out.drewN _⟩
                case measure => simp [intOf]; omega
              · have n0 : (m.n != -1) = true := by simpa using hn
                have HKS : Hid (∀ W, Kp 0 0 wr W → W.cell? ⟨q1, 3, none⟩ = some (.slice (some ⟨b3, o3, none⟩) F.ms.length mc) ∧ W.cell? ⟨b3, o3 + j * 4 + 2, none⟩ = some (.int .i64 m.n) ∧ W.cell? ⟨q0, 0, none⟩ = some (.slice to t.length tc) ∧ Kp 0 0 wr W) := fun W hW => ⟨hW.cell d3 (.inr (Nat.zero_le _)), hW.cell e2 (.inr (Nat.zero_le _)), hW.cell d0 (.inr (Nat.zero_le _)), hW⟩
                rw [n0, Bool.true_and] at HBN
                generalize Sc.kind t m.n = kd at *
                go_wp2_with fail
                go_region_held3 (fun w' => w'.cell? ⟨q1, 3, none⟩ = some (.slice (some ⟨b3, o3, none⟩) F.ms.length mc) ∧ w'.cell? ⟨b3, o3 + j * 4 + 2, none⟩ = some (.int .i64 m.n) ∧ w'.cell? ⟨q0, 0, none⟩ = some (.slice to t.length tc) ∧ Kp 0 0 wr w')
                  (first
                    | exact HKS.out _ (Kp.refl 0 0 _).drew
                    | exact HKS.out _ hk7)
                  ((first
                    | (go_at_call 28
                       refine (HKD.out _ (Kp.refl 0 0 wr).drew).mono ?_
                       rintro e w7 ⟨rfl, hk7⟩)))
                have HK3 := Lib.hid (HK2.out.trans hk7)
                clear hk7
                by_cases hk1 : kd = 1
                · have k3 : (kd != 1) = false := by rw [hk1]; rfl
                  have HS := Lib.hid (HNN.step HMK.out (by rw [HBN.out, k3]))
                  go_wp2_with fail
                  go_roundw
                  case rel => exact ⟨j + 1, by omega, by go_num, HS, HK3.out⟩
                  case measure => simp [intOf]; omega
                · have k3 : (kd != 1) = true := by simpa using hk1
                  have HV : Hid (Sc.one t F = 8) := by
                    show _ = _
                    rw [HO.out, if_pos (Sc.any_stop HMK.out (by rw [HBN.out, k3]))]
                  go_wp2_with fail
                  go_returns
                  rw [HV.out]
                  exact ⟨rfl, HK1.out.trans HK3.out⟩
            · obtain rfl : j = F.ms.length := by omega
              rw [HNN.out.done, if_neg (by simp)] at HO
              go_wp2_with fail
              go_returns
              rw [HO.out]
              exact ⟨rfl, HK1.out.trans HK2.out⟩

end Go.Proofs.YtdgeehcfdnokmaaDoor
