/-
  VecJoins as a contract.
-/
import Derived.Test.YtfijhmlinpjaiaaVMost
namespace Go.Proofs.Ytfijhmlinpjaiaa
open Go.RowKit

set_option maxRecDepth 100000 in
set_option maxHeartbeats 4000000 in
theorem vjoins_any (HG : GetOk) (HC : CmpOk) (HJ : JoinOk) (HS : SumOk) {l1 h1 l2 h2 l3 h3 : Nat} (a b c : List Int) (w : World) (va vb vc : Value) (ha : RdI .i64 l1 h1 w va a) (hb : RdI .i64 l2 h2 w vb b) (hc : RdI .i64 l3 h3 w vc c) (ia : V.I64 a) (ib : V.I64 b) (ic : V.I64 c) :
    Calls Try.prog 4 #[va, vb, vc] w fun e w' => e = .returned (.bool true) ∧ Kp 0 0 w w' := by
  have HA := Lib.hid ha
  have HB := Lib.hid hb
  have HCC := Lib.hid hc
  have IA := Lib.hid ia
  have IB := Lib.hid ib
  have IC := Lib.hid ic
  obtain ⟨ao, ca, rfl, ha1, ha2, _⟩ := ha.open
  obtain ⟨bo, cb, rfl, hb1, hb2, _⟩ := hb.open
  obtain ⟨co, cc, rfl, hc1, hc2, _⟩ := hc.open
  clear ha hb hc ia ib ic
  by_cases h2a : 200 < a.length
  · go_enter Try.func4, Try.ntmps4
    go_wp2_with fail
    refine (works_any HC HJ HS w).mono ?_
    rintro e w1 ⟨rfl, hk⟩
    go_wp2_with fail
    go_returns
    exact ⟨rfl, hk⟩
  by_cases h2b : 200 < b.length
  · go_enter Try.func4, Try.ntmps4
    go_wp2_with fail
    refine (works_any HC HJ HS w).mono ?_
    rintro e w1 ⟨rfl, hk⟩
    go_wp2_with fail
    go_returns
    exact ⟨rfl, hk⟩
  by_cases h2c : 200 < c.length
  · go_enter Try.func4, Try.ntmps4
    go_wp2_with fail
    refine (works_any HC HJ HS w).mono ?_
    rintro e w1 ⟨rfl, hk⟩
    go_wp2_with fail
    go_returns
    exact ⟨rfl, hk⟩
  have IJ : Hid (V.I64 (V.join a b)) := V.join_i64 IA.out IB.out
  have IBC : Hid (V.I64 (V.join b c)) := V.join_i64 IB.out IC.out
  have IAA : Hid (V.I64 (V.join a a)) := V.join_i64 IA.out IA.out
  have hjl : (V.join a b).length ≤ 200 := by rw [V.join_len]; omega
  have hbcl : (V.join b c).length ≤ 200 := by rw [V.join_len]; omega
  have haal : (V.join a a).length ≤ 200 := by rw [V.join_len]; omega
  have E1 : Hid (V.leB a (V.join a b) = true) := V.leB_iff.2 (V.join_left a b)
  have E2 : Hid (V.leB b (V.join a b) = true) := V.leB_iff.2 (V.join_right a b)
  have E3 : Hid (V.leB a c = true → V.leB b c = true → V.leB (V.join a b) c = true) := fun h1 h2 => V.leB_iff.2 (V.join_least (V.leB_iff.1 h1) (V.leB_iff.1 h2))
  have E4 := Lib.hid (V.join_self a)
  have E5 := Lib.hid (V.join_comm b a)
  have E6 := Lib.hid (V.join_assoc a b c)
  have hcs : (V.leB a c = false) ∨ (V.leB a c = true ∧ V.leB b c = false) ∨ (V.leB a c = true ∧ V.leB b c = true) := by
    cases V.leB a c <;> cases V.leB b c <;> simp
  go_enter Try.func4, Try.ntmps4
  go_wp2_with fail
  have d1 : decide ((200 : Int) < (a.length : Int)) = false := decide_eq_false (by omega)
  have d2 : decide ((200 : Int) < (b.length : Int)) = false := decide_eq_false (by omega)
  have d3 : decide ((200 : Int) < (c.length : Int)) = false := decide_eq_false (by omega)
  try rw [d1, d2, d3]
  clear d1 d2 d3
  refine (join_rd HJ a b _ _ _ HA.out HB.out IA.out IB.out (by omega) (by omega)).mono ?_
  rintro e w1 ⟨⟨jo, cj, rfl, hv⟩, hk⟩
  have HJ1 := Lib.hid hv
  obtain ⟨_, _, he, hj1, hj2, _⟩ := hv.open
  cases he
  have HK1 := Lib.hid hk
  have HL1 : Hid (Kp 0 0 w1 w1) := Kp.refl _ _ _
  clear hk hv
  rcases hcs with hx | ⟨hx, hy⟩ | ⟨hx, hy⟩
  · go_wp2_with fail
    have hm := atMost_any HC _ _ w1 _ _ (HA.out.keep0 HK1.out) (HJ1.out.keep0 HL1.out) IA.out IJ.out (by omega) (by omega)
    rw [E1.out] at hm
    refine hm.mono ?_
    clear hm
    rintro e w2 ⟨rfl, hq⟩
    have hk := hq.kp
    have HK2 := Lib.hid (HK1.out.trans hk)
    have HL2 := Lib.hid (HL1.out.trans hk)
    clear hk hq
    go_wp2_with fail
    have hm := atMost_any HC _ _ w2 _ _ (HB.out.keep0 HK2.out) (HJ1.out.keep0 HL2.out) IB.out IJ.out (by omega) (by omega)
    rw [E2.out] at hm
    refine hm.mono ?_
    clear hm
    rintro e w3 ⟨rfl, hq⟩
    have hk := hq.kp
    have HK3 := Lib.hid (HK2.out.trans hk)
    have HL3 := Lib.hid (HL2.out.trans hk)
    clear hk hq
    go_wp2_with fail
    have hm := atMost_any HC _ _ w3 _ _ (HA.out.keep0 HK3.out) (HCC.out.keep0 HK3.out) IA.out IC.out (by omega) (by omega)
    rw [hx] at hm
    refine hm.mono ?_
    clear hm
    rintro e w4 ⟨rfl, hq⟩
    have hk := hq.kp
    have HK4 := Lib.hid (HK3.out.trans hk)
    have HL4 := Lib.hid (HL3.out.trans hk)
    clear hk hq
    go_wp2_with fail
    refine (join_rd HJ _ _ _ _ _ (HA.out.keep0 HK4.out) (HA.out.keep0 HK4.out) IA.out IA.out (by omega) (by omega)).mono ?_
    rintro e w5 ⟨⟨oaa, caa, rfl, hv⟩, hk⟩
    have HVaa := Lib.hid hv
    obtain ⟨_, _, he, h1aa, h2aa, _⟩ := hv.open
    cases he
    have HK5 := Lib.hid (HK4.out.trans hk)
    have HL5 := Lib.hid (HL4.out.trans hk)
    have HMaa_5 : Hid (Kp 0 0 w5 w5) := Kp.refl _ _ _
    clear hk hv
    go_wp2_with fail
    have hm := HC _ _ _ _ _ _ w5 _ _ (HVaa.out.keep0 HMaa_5.out) (HA.out.keep0 HK5.out) IAA.out IA.out (by omega) (by omega)
    rw [E4.out] at hm
    refine hm.mono ?_
    clear hm
    rintro e w6 ⟨rfl, hq⟩
    have hk := hq.kp
    have HK6 := Lib.hid (HK5.out.trans hk)
    have HL6 := Lib.hid (HL5.out.trans hk)
    have HMaa_6 := Lib.hid (HMaa_5.out.trans hk)
    clear hk hq
    go_wp2_with fail
    refine (join_rd HJ _ _ _ _ _ (HB.out.keep0 HK6.out) (HA.out.keep0 HK6.out) IB.out IA.out (by omega) (by omega)).mono ?_
    rintro e w7 ⟨⟨oba, cba, rfl, hv⟩, hk⟩
    have HVba := Lib.hid hv
    obtain ⟨_, _, he, h1ba, h2ba, _⟩ := hv.open
    cases he
    have HK7 := Lib.hid (HK6.out.trans hk)
    have HL7 := Lib.hid (HL6.out.trans hk)
    have HMaa_7 := Lib.hid (HMaa_6.out.trans hk)
    have HMba_7 : Hid (Kp 0 0 w7 w7) := Kp.refl _ _ _
    clear hk hv
    go_wp2_with fail
    have hr2 := (HVba.out.keep0 HMba_7.out)
    rw [E5.out] at hr2 ⊢
    refine (sameI_yes w7 _ _ _ (HJ1.out.keep0 HL7.out) hr2).mono ?_
    clear hr2
    rintro e w8 ⟨rfl, hk⟩
    have HK8 := Lib.hid (HK7.out.trans hk)
    have HL8 := Lib.hid (HL7.out.trans hk)
    have HMaa_8 := Lib.hid (HMaa_7.out.trans hk)
    have HMba_8 := Lib.hid (HMba_7.out.trans hk)
    clear hk
    go_wp2_with fail
    refine (join_rd HJ _ _ _ _ _ (HJ1.out.keep0 HL8.out) (HCC.out.keep0 HK8.out) IJ.out IC.out (by omega) (by omega)).mono ?_
    rintro e w9 ⟨⟨ojc, cjc, rfl, hv⟩, hk⟩
    have HVjc := Lib.hid hv
    obtain ⟨_, _, he, h1jc, h2jc, _⟩ := hv.open
    cases he
    have HK9 := Lib.hid (HK8.out.trans hk)
    have HL9 := Lib.hid (HL8.out.trans hk)
    have HMaa_9 := Lib.hid (HMaa_8.out.trans hk)
    have HMba_9 := Lib.hid (HMba_8.out.trans hk)
    have HMjc_9 : Hid (Kp 0 0 w9 w9) := Kp.refl _ _ _
    clear hk hv
    go_wp2_with fail
    refine (join_rd HJ _ _ _ _ _ (HB.out.keep0 HK9.out) (HCC.out.keep0 HK9.out) IB.out IC.out (by omega) (by omega)).mono ?_
    rintro e w10 ⟨⟨obc, cbc, rfl, hv⟩, hk⟩
    have HVbc := Lib.hid hv
    obtain ⟨_, _, he, h1bc, h2bc, _⟩ := hv.open
    cases he
    have HK10 := Lib.hid (HK9.out.trans hk)
    have HL10 := Lib.hid (HL9.out.trans hk)
    have HMaa_10 := Lib.hid (HMaa_9.out.trans hk)
    have HMba_10 := Lib.hid (HMba_9.out.trans hk)
    have HMjc_10 := Lib.hid (HMjc_9.out.trans hk)
    have HMbc_10 : Hid (Kp 0 0 w10 w10) := Kp.refl _ _ _
    clear hk hv
    go_wp2_with fail
    refine (join_rd HJ _ _ _ _ _ (HA.out.keep0 HK10.out) (HVbc.out.keep0 HMbc_10.out) IA.out IBC.out (by omega) (by omega)).mono ?_
    rintro e w11 ⟨⟨oabc, cabc, rfl, hv⟩, hk⟩
    have HVabc := Lib.hid hv
    obtain ⟨_, _, he, h1abc, h2abc, _⟩ := hv.open
    cases he
    have HK11 := Lib.hid (HK10.out.trans hk)
    have HL11 := Lib.hid (HL10.out.trans hk)
    have HMaa_11 := Lib.hid (HMaa_10.out.trans hk)
    have HMba_11 := Lib.hid (HMba_10.out.trans hk)
    have HMjc_11 := Lib.hid (HMjc_10.out.trans hk)
    have HMbc_11 := Lib.hid (HMbc_10.out.trans hk)
    have HMabc_11 : Hid (Kp 0 0 w11 w11) := Kp.refl _ _ _
    clear hk hv
    go_wp2_with fail
    have hr2 := (HVabc.out.keep0 HMabc_11.out)
    rw [← E6.out] at hr2 ⊢
    refine (sameI_yes w11 _ _ _ (HVjc.out.keep0 HMjc_11.out) hr2).mono ?_
    clear hr2
    rintro e w12 ⟨rfl, hk⟩
    have HK12 := Lib.hid (HK11.out.trans hk)
    have HL12 := Lib.hid (HL11.out.trans hk)
    have HMaa_12 := Lib.hid (HMaa_11.out.trans hk)
    have HMba_12 := Lib.hid (HMba_11.out.trans hk)
    have HMjc_12 := Lib.hid (HMjc_11.out.trans hk)
    have HMbc_12 := Lib.hid (HMbc_11.out.trans hk)
    have HMabc_12 := Lib.hid (HMabc_11.out.trans hk)
    clear hk
    go_wp2_with fail
    refine (works_any HC HJ HS w12).mono ?_
    rintro e w13 ⟨rfl, hk⟩
    have HK13 := Lib.hid (HK12.out.trans hk)
    have HL13 := Lib.hid (HL12.out.trans hk)
    have HMaa_13 := Lib.hid (HMaa_12.out.trans hk)
    have HMba_13 := Lib.hid (HMba_12.out.trans hk)
    have HMjc_13 := Lib.hid (HMjc_12.out.trans hk)
    have HMbc_13 := Lib.hid (HMbc_12.out.trans hk)
    have HMabc_13 := Lib.hid (HMabc_12.out.trans hk)
    clear hk
    go_wp2_with fail
    go_returns
    exact ⟨rfl, HK13.out⟩
  · go_wp2_with fail
    have hm := atMost_any HC _ _ w1 _ _ (HA.out.keep0 HK1.out) (HJ1.out.keep0 HL1.out) IA.out IJ.out (by omega) (by omega)
    rw [E1.out] at hm
    refine hm.mono ?_
    clear hm
    rintro e w2 ⟨rfl, hq⟩
    have hk := hq.kp
    have HK2 := Lib.hid (HK1.out.trans hk)
    have HL2 := Lib.hid (HL1.out.trans hk)
    clear hk hq
    go_wp2_with fail
    have hm := atMost_any HC _ _ w2 _ _ (HB.out.keep0 HK2.out) (HJ1.out.keep0 HL2.out) IB.out IJ.out (by omega) (by omega)
    rw [E2.out] at hm
    refine hm.mono ?_
    clear hm
    rintro e w3 ⟨rfl, hq⟩
    have hk := hq.kp
    have HK3 := Lib.hid (HK2.out.trans hk)
    have HL3 := Lib.hid (HL2.out.trans hk)
    clear hk hq
    go_wp2_with fail
    have hm := atMost_any HC _ _ w3 _ _ (HA.out.keep0 HK3.out) (HCC.out.keep0 HK3.out) IA.out IC.out (by omega) (by omega)
    rw [hx] at hm
    refine hm.mono ?_
    clear hm
    rintro e w4 ⟨rfl, hq⟩
    have hk := hq.kp
    have HK4 := Lib.hid (HK3.out.trans hk)
    have HL4 := Lib.hid (HL3.out.trans hk)
    clear hk hq
    go_wp2_with fail
    have hm := atMost_any HC _ _ w4 _ _ (HB.out.keep0 HK4.out) (HCC.out.keep0 HK4.out) IB.out IC.out (by omega) (by omega)
    rw [hy] at hm
    refine hm.mono ?_
    clear hm
    rintro e w5 ⟨rfl, hq⟩
    have hk := hq.kp
    have HK5 := Lib.hid (HK4.out.trans hk)
    have HL5 := Lib.hid (HL4.out.trans hk)
    clear hk hq
    go_wp2_with fail
    refine (join_rd HJ _ _ _ _ _ (HA.out.keep0 HK5.out) (HA.out.keep0 HK5.out) IA.out IA.out (by omega) (by omega)).mono ?_
    rintro e w6 ⟨⟨oaa, caa, rfl, hv⟩, hk⟩
    have HVaa := Lib.hid hv
    obtain ⟨_, _, he, h1aa, h2aa, _⟩ := hv.open
    cases he
    have HK6 := Lib.hid (HK5.out.trans hk)
    have HL6 := Lib.hid (HL5.out.trans hk)
    have HMaa_6 : Hid (Kp 0 0 w6 w6) := Kp.refl _ _ _
    clear hk hv
    go_wp2_with fail
    have hm := HC _ _ _ _ _ _ w6 _ _ (HVaa.out.keep0 HMaa_6.out) (HA.out.keep0 HK6.out) IAA.out IA.out (by omega) (by omega)
    rw [E4.out] at hm
    refine hm.mono ?_
    clear hm
    rintro e w7 ⟨rfl, hq⟩
    have hk := hq.kp
    have HK7 := Lib.hid (HK6.out.trans hk)
    have HL7 := Lib.hid (HL6.out.trans hk)
    have HMaa_7 := Lib.hid (HMaa_6.out.trans hk)
    clear hk hq
    go_wp2_with fail
    refine (join_rd HJ _ _ _ _ _ (HB.out.keep0 HK7.out) (HA.out.keep0 HK7.out) IB.out IA.out (by omega) (by omega)).mono ?_
    rintro e w8 ⟨⟨oba, cba, rfl, hv⟩, hk⟩
    have HVba := Lib.hid hv
    obtain ⟨_, _, he, h1ba, h2ba, _⟩ := hv.open
    cases he
    have HK8 := Lib.hid (HK7.out.trans hk)
    have HL8 := Lib.hid (HL7.out.trans hk)
    have HMaa_8 := Lib.hid (HMaa_7.out.trans hk)
    have HMba_8 : Hid (Kp 0 0 w8 w8) := Kp.refl _ _ _
    clear hk hv
    go_wp2_with fail
    have hr2 := (HVba.out.keep0 HMba_8.out)
    rw [E5.out] at hr2 ⊢
    refine (sameI_yes w8 _ _ _ (HJ1.out.keep0 HL8.out) hr2).mono ?_
    clear hr2
    rintro e w9 ⟨rfl, hk⟩
    have HK9 := Lib.hid (HK8.out.trans hk)
    have HL9 := Lib.hid (HL8.out.trans hk)
    have HMaa_9 := Lib.hid (HMaa_8.out.trans hk)
    have HMba_9 := Lib.hid (HMba_8.out.trans hk)
    clear hk
    go_wp2_with fail
    refine (join_rd HJ _ _ _ _ _ (HJ1.out.keep0 HL9.out) (HCC.out.keep0 HK9.out) IJ.out IC.out (by omega) (by omega)).mono ?_
    rintro e w10 ⟨⟨ojc, cjc, rfl, hv⟩, hk⟩
    have HVjc := Lib.hid hv
    obtain ⟨_, _, he, h1jc, h2jc, _⟩ := hv.open
    cases he
    have HK10 := Lib.hid (HK9.out.trans hk)
    have HL10 := Lib.hid (HL9.out.trans hk)
    have HMaa_10 := Lib.hid (HMaa_9.out.trans hk)
    have HMba_10 := Lib.hid (HMba_9.out.trans hk)
    have HMjc_10 : Hid (Kp 0 0 w10 w10) := Kp.refl _ _ _
    clear hk hv
    go_wp2_with fail
    refine (join_rd HJ _ _ _ _ _ (HB.out.keep0 HK10.out) (HCC.out.keep0 HK10.out) IB.out IC.out (by omega) (by omega)).mono ?_
    rintro e w11 ⟨⟨obc, cbc, rfl, hv⟩, hk⟩
    have HVbc := Lib.hid hv
    obtain ⟨_, _, he, h1bc, h2bc, _⟩ := hv.open
    cases he
    have HK11 := Lib.hid (HK10.out.trans hk)
    have HL11 := Lib.hid (HL10.out.trans hk)
    have HMaa_11 := Lib.hid (HMaa_10.out.trans hk)
    have HMba_11 := Lib.hid (HMba_10.out.trans hk)
    have HMjc_11 := Lib.hid (HMjc_10.out.trans hk)
    have HMbc_11 : Hid (Kp 0 0 w11 w11) := Kp.refl _ _ _
    clear hk hv
    go_wp2_with fail
    refine (join_rd HJ _ _ _ _ _ (HA.out.keep0 HK11.out) (HVbc.out.keep0 HMbc_11.out) IA.out IBC.out (by omega) (by omega)).mono ?_
    rintro e w12 ⟨⟨oabc, cabc, rfl, hv⟩, hk⟩
    have HVabc := Lib.hid hv
    obtain ⟨_, _, he, h1abc, h2abc, _⟩ := hv.open
    cases he
    have HK12 := Lib.hid (HK11.out.trans hk)
    have HL12 := Lib.hid (HL11.out.trans hk)
    have HMaa_12 := Lib.hid (HMaa_11.out.trans hk)
    have HMba_12 := Lib.hid (HMba_11.out.trans hk)
    have HMjc_12 := Lib.hid (HMjc_11.out.trans hk)
    have HMbc_12 := Lib.hid (HMbc_11.out.trans hk)
    have HMabc_12 : Hid (Kp 0 0 w12 w12) := Kp.refl _ _ _
    clear hk hv
    go_wp2_with fail
    have hr2 := (HVabc.out.keep0 HMabc_12.out)
    rw [← E6.out] at hr2 ⊢
    refine (sameI_yes w12 _ _ _ (HVjc.out.keep0 HMjc_12.out) hr2).mono ?_
    clear hr2
    rintro e w13 ⟨rfl, hk⟩
    have HK13 := Lib.hid (HK12.out.trans hk)
    have HL13 := Lib.hid (HL12.out.trans hk)
    have HMaa_13 := Lib.hid (HMaa_12.out.trans hk)
    have HMba_13 := Lib.hid (HMba_12.out.trans hk)
    have HMjc_13 := Lib.hid (HMjc_12.out.trans hk)
    have HMbc_13 := Lib.hid (HMbc_12.out.trans hk)
    have HMabc_13 := Lib.hid (HMabc_12.out.trans hk)
    clear hk
    go_wp2_with fail
    refine (works_any HC HJ HS w13).mono ?_
    rintro e w14 ⟨rfl, hk⟩
    have HK14 := Lib.hid (HK13.out.trans hk)
    have HL14 := Lib.hid (HL13.out.trans hk)
    have HMaa_14 := Lib.hid (HMaa_13.out.trans hk)
    have HMba_14 := Lib.hid (HMba_13.out.trans hk)
    have HMjc_14 := Lib.hid (HMjc_13.out.trans hk)
    have HMbc_14 := Lib.hid (HMbc_13.out.trans hk)
    have HMabc_14 := Lib.hid (HMabc_13.out.trans hk)
    clear hk
    go_wp2_with fail
    go_returns
    exact ⟨rfl, HK14.out⟩
  · go_wp2_with fail
    have hm := atMost_any HC _ _ w1 _ _ (HA.out.keep0 HK1.out) (HJ1.out.keep0 HL1.out) IA.out IJ.out (by omega) (by omega)
    rw [E1.out] at hm
    refine hm.mono ?_
    clear hm
    rintro e w2 ⟨rfl, hq⟩
    have hk := hq.kp
    have HK2 := Lib.hid (HK1.out.trans hk)
    have HL2 := Lib.hid (HL1.out.trans hk)
    clear hk hq
    go_wp2_with fail
    have hm := atMost_any HC _ _ w2 _ _ (HB.out.keep0 HK2.out) (HJ1.out.keep0 HL2.out) IB.out IJ.out (by omega) (by omega)
    rw [E2.out] at hm
    refine hm.mono ?_
    clear hm
    rintro e w3 ⟨rfl, hq⟩
    have hk := hq.kp
    have HK3 := Lib.hid (HK2.out.trans hk)
    have HL3 := Lib.hid (HL2.out.trans hk)
    clear hk hq
    go_wp2_with fail
    have hm := atMost_any HC _ _ w3 _ _ (HA.out.keep0 HK3.out) (HCC.out.keep0 HK3.out) IA.out IC.out (by omega) (by omega)
    rw [hx] at hm
    refine hm.mono ?_
    clear hm
    rintro e w4 ⟨rfl, hq⟩
    have hk := hq.kp
    have HK4 := Lib.hid (HK3.out.trans hk)
    have HL4 := Lib.hid (HL3.out.trans hk)
    clear hk hq
    go_wp2_with fail
    have hm := atMost_any HC _ _ w4 _ _ (HB.out.keep0 HK4.out) (HCC.out.keep0 HK4.out) IB.out IC.out (by omega) (by omega)
    rw [hy] at hm
    refine hm.mono ?_
    clear hm
    rintro e w5 ⟨rfl, hq⟩
    have hk := hq.kp
    have HK5 := Lib.hid (HK4.out.trans hk)
    have HL5 := Lib.hid (HL4.out.trans hk)
    clear hk hq
    go_wp2_with fail
    have hm := atMost_any HC _ _ w5 _ _ (HJ1.out.keep0 HL5.out) (HCC.out.keep0 HK5.out) IJ.out IC.out (by omega) (by omega)
    rw [E3.out hx hy] at hm
    refine hm.mono ?_
    clear hm
    rintro e w6 ⟨rfl, hq⟩
    have hk := hq.kp
    have HK6 := Lib.hid (HK5.out.trans hk)
    have HL6 := Lib.hid (HL5.out.trans hk)
    clear hk hq
    go_wp2_with fail
    refine (join_rd HJ _ _ _ _ _ (HA.out.keep0 HK6.out) (HA.out.keep0 HK6.out) IA.out IA.out (by omega) (by omega)).mono ?_
    rintro e w7 ⟨⟨oaa, caa, rfl, hv⟩, hk⟩
    have HVaa := Lib.hid hv
    obtain ⟨_, _, he, h1aa, h2aa, _⟩ := hv.open
    cases he
    have HK7 := Lib.hid (HK6.out.trans hk)
    have HL7 := Lib.hid (HL6.out.trans hk)
    have HMaa_7 : Hid (Kp 0 0 w7 w7) := Kp.refl _ _ _
    clear hk hv
    go_wp2_with fail
    have hm := HC _ _ _ _ _ _ w7 _ _ (HVaa.out.keep0 HMaa_7.out) (HA.out.keep0 HK7.out) IAA.out IA.out (by omega) (by omega)
    rw [E4.out] at hm
    refine hm.mono ?_
    clear hm
    rintro e w8 ⟨rfl, hq⟩
    have hk := hq.kp
    have HK8 := Lib.hid (HK7.out.trans hk)
    have HL8 := Lib.hid (HL7.out.trans hk)
    have HMaa_8 := Lib.hid (HMaa_7.out.trans hk)
    clear hk hq
    go_wp2_with fail
    refine (join_rd HJ _ _ _ _ _ (HB.out.keep0 HK8.out) (HA.out.keep0 HK8.out) IB.out IA.out (by omega) (by omega)).mono ?_
    rintro e w9 ⟨⟨oba, cba, rfl, hv⟩, hk⟩
    have HVba := Lib.hid hv
    obtain ⟨_, _, he, h1ba, h2ba, _⟩ := hv.open
    cases he
    have HK9 := Lib.hid (HK8.out.trans hk)
    have HL9 := Lib.hid (HL8.out.trans hk)
    have HMaa_9 := Lib.hid (HMaa_8.out.trans hk)
    have HMba_9 : Hid (Kp 0 0 w9 w9) := Kp.refl _ _ _
    clear hk hv
    go_wp2_with fail
    have hr2 := (HVba.out.keep0 HMba_9.out)
    rw [E5.out] at hr2 ⊢
    refine (sameI_yes w9 _ _ _ (HJ1.out.keep0 HL9.out) hr2).mono ?_
    clear hr2
    rintro e w10 ⟨rfl, hk⟩
    have HK10 := Lib.hid (HK9.out.trans hk)
    have HL10 := Lib.hid (HL9.out.trans hk)
    have HMaa_10 := Lib.hid (HMaa_9.out.trans hk)
    have HMba_10 := Lib.hid (HMba_9.out.trans hk)
    clear hk
    go_wp2_with fail
    refine (join_rd HJ _ _ _ _ _ (HJ1.out.keep0 HL10.out) (HCC.out.keep0 HK10.out) IJ.out IC.out (by omega) (by omega)).mono ?_
    rintro e w11 ⟨⟨ojc, cjc, rfl, hv⟩, hk⟩
    have HVjc := Lib.hid hv
    obtain ⟨_, _, he, h1jc, h2jc, _⟩ := hv.open
    cases he
    have HK11 := Lib.hid (HK10.out.trans hk)
    have HL11 := Lib.hid (HL10.out.trans hk)
    have HMaa_11 := Lib.hid (HMaa_10.out.trans hk)
    have HMba_11 := Lib.hid (HMba_10.out.trans hk)
    have HMjc_11 : Hid (Kp 0 0 w11 w11) := Kp.refl _ _ _
    clear hk hv
    go_wp2_with fail
    refine (join_rd HJ _ _ _ _ _ (HB.out.keep0 HK11.out) (HCC.out.keep0 HK11.out) IB.out IC.out (by omega) (by omega)).mono ?_
    rintro e w12 ⟨⟨obc, cbc, rfl, hv⟩, hk⟩
    have HVbc := Lib.hid hv
    obtain ⟨_, _, he, h1bc, h2bc, _⟩ := hv.open
    cases he
    have HK12 := Lib.hid (HK11.out.trans hk)
    have HL12 := Lib.hid (HL11.out.trans hk)
    have HMaa_12 := Lib.hid (HMaa_11.out.trans hk)
    have HMba_12 := Lib.hid (HMba_11.out.trans hk)
    have HMjc_12 := Lib.hid (HMjc_11.out.trans hk)
    have HMbc_12 : Hid (Kp 0 0 w12 w12) := Kp.refl _ _ _
    clear hk hv
    go_wp2_with fail
    refine (join_rd HJ _ _ _ _ _ (HA.out.keep0 HK12.out) (HVbc.out.keep0 HMbc_12.out) IA.out IBC.out (by omega) (by omega)).mono ?_
    rintro e w13 ⟨⟨oabc, cabc, rfl, hv⟩, hk⟩
    have HVabc := Lib.hid hv
    obtain ⟨_, _, he, h1abc, h2abc, _⟩ := hv.open
    cases he
    have HK13 := Lib.hid (HK12.out.trans hk)
    have HL13 := Lib.hid (HL12.out.trans hk)
    have HMaa_13 := Lib.hid (HMaa_12.out.trans hk)
    have HMba_13 := Lib.hid (HMba_12.out.trans hk)
    have HMjc_13 := Lib.hid (HMjc_12.out.trans hk)
    have HMbc_13 := Lib.hid (HMbc_12.out.trans hk)
    have HMabc_13 : Hid (Kp 0 0 w13 w13) := Kp.refl _ _ _
    clear hk hv
    go_wp2_with fail
    have hr2 := (HVabc.out.keep0 HMabc_13.out)
    rw [← E6.out] at hr2 ⊢
    refine (sameI_yes w13 _ _ _ (HVjc.out.keep0 HMjc_13.out) hr2).mono ?_
    clear hr2
    rintro e w14 ⟨rfl, hk⟩
    have HK14 := Lib.hid (HK13.out.trans hk)
    have HL14 := Lib.hid (HL13.out.trans hk)
    have HMaa_14 := Lib.hid (HMaa_13.out.trans hk)
    have HMba_14 := Lib.hid (HMba_13.out.trans hk)
    have HMjc_14 := Lib.hid (HMjc_13.out.trans hk)
    have HMbc_14 := Lib.hid (HMbc_13.out.trans hk)
    have HMabc_14 := Lib.hid (HMabc_13.out.trans hk)
    clear hk
    go_wp2_with fail
    refine (works_any HC HJ HS w14).mono ?_
    rintro e w15 ⟨rfl, hk⟩
    have HK15 := Lib.hid (HK14.out.trans hk)
    have HL15 := Lib.hid (HL14.out.trans hk)
    have HMaa_15 := Lib.hid (HMaa_14.out.trans hk)
    have HMba_15 := Lib.hid (HMba_14.out.trans hk)
    have HMjc_15 := Lib.hid (HMjc_14.out.trans hk)
    have HMbc_15 := Lib.hid (HMbc_14.out.trans hk)
    have HMabc_15 := Lib.hid (HMabc_14.out.trans hk)
    clear hk
    go_wp2_with fail
    go_returns
    exact ⟨rfl, HK15.out⟩

end Go.Proofs.Ytfijhmlinpjaiaa
