/-
  The landed schema: a projection; Check.
-/
import Derived.Test.YtdgeehcfdnokmaaDoorScOk3
import Derived.Deep.QuietTactic
namespace Go.Proofs.YtdgeehcfdnokmaaDoor
open Go.RowKit

theorem pj_three {g b kd x : Int} (h : g = 3) : (if (g = 3 ∧ kd ≠ 2) ∨ (g ≠ 3 ∧ b ≠ 0) then (8 : Int) else x) = if kd ≠ 2 then 8 else x := by
  subst h
  simp
theorem pj_else {g b kd x : Int} (h : g ≠ 3) : (if (g = 3 ∧ kd ≠ 2) ∨ (g ≠ 3 ∧ b ≠ 0) then (8 : Int) else x) = if b ≠ 0 then 8 else x := by
  simp [h]

set_option maxRecDepth 100000 in
set_option maxHeartbeats 8000000 in
/-- checkProj: what is wrong with a projection. -/
theorem checkP_any {S : Nat → Prop} (d : Dc) (p : Pj) (w : World) (tv pv : Value) (hd : RdD w S tv pv d) :
    Calls Tryd.prog 23 #[.agg #[tv, pv], .agg #[.int .i64 p.t, .int .i64 p.f, .int .i64 p.g, .int .i64 p.b, .int .i64 p.m]] w fun r w' => r = .returned (.int .i64 (Sc.proj d p)) ∧ Kp 0 0 w w' := by
  have HD := Lib.hid hd
  obtain ⟨to, tc, rfl, ht1, ht2, _⟩ := hd.t.open
  obtain ⟨po, pc, rfl, hp1, hp2, _⟩ := hd.p.open
  have htl : d.ts.length ≤ 9223372036854775807 := by omega
  clear hd ht1 ht2 hp1 hp2
  have HK : Hid (Kp 0 0 w ((((w.alloc (.cells #[.slice to d.ts.length tc, .slice po d.ps.length pc] 25)).alloc (.cells #[.int .i64 p.t, .int .i64 p.f, .int .i64 p.g, .int .i64 p.b, .int .i64 p.m] 47)).alloc (.cells #[.int .i64 1, .int .i64 3] 58)).alloc (.cells #[.int .i64 1, .int .i64 5] 58))) := ((((Kp.refl _ _ _).alloc _).alloc _).alloc _).alloc _
  have HQ0 := Lib.hid (blk_old (blk_old (blk_old (blk_one w (.cells #[.slice to d.ts.length tc, .slice po d.ps.length pc] 25)) (.cells #[.int .i64 p.t, .int .i64 p.f, .int .i64 p.g, .int .i64 p.b, .int .i64 p.m] 47)) (.cells #[.int .i64 1, .int .i64 3] 58)) (.cells #[.int .i64 1, .int .i64 5] 58))
  have HQ1 := Lib.hid (blk_old (blk_old (blk_two w (.cells #[.slice to d.ts.length tc, .slice po d.ps.length pc] 25) (.cells #[.int .i64 p.t, .int .i64 p.f, .int .i64 p.g, .int .i64 p.b, .int .i64 p.m] 47)) (.cells #[.int .i64 1, .int .i64 3] 58)) (.cells #[.int .i64 1, .int .i64 5] 58))
  have HQ2 := Lib.hid (blk_old (blk_three w (.cells #[.slice to d.ts.length tc, .slice po d.ps.length pc] 25) (.cells #[.int .i64 p.t, .int .i64 p.f, .int .i64 p.g, .int .i64 p.b, .int .i64 p.m] 47) (.cells #[.int .i64 1, .int .i64 3] 58)) (.cells #[.int .i64 1, .int .i64 5] 58))
  have HQ3 := Lib.hid (blk_four w (.cells #[.slice to d.ts.length tc, .slice po d.ps.length pc] 25) (.cells #[.int .i64 p.t, .int .i64 p.f, .int .i64 p.g, .int .i64 p.b, .int .i64 p.m] 47) (.cells #[.int .i64 1, .int .i64 3] 58) (.cells #[.int .i64 1, .int .i64 5] 58))
  go_enter Tryd.func23, Tryd.ntmps23
  go_upto_region 2 with fail
  generalize (((w.alloc (.cells #[.slice to d.ts.length tc, .slice po d.ps.length pc] 25)).alloc (.cells #[.int .i64 p.t, .int .i64 p.f, .int .i64 p.g, .int .i64 p.b, .int .i64 p.m] 47)).alloc (.cells #[.int .i64 1, .int .i64 3] 58)).alloc (.cells #[.int .i64 1, .int .i64 5] 58) = w1 at HK HQ0 HQ1 HQ2 HQ3 ⊢
  generalize w.heap.size + 1 + 1 + 1 = q3 at HQ3 ⊢
  generalize w.heap.size + 1 + 1 = q2 at HQ2 ⊢
  generalize w.heap.size + 1 = q1 at HQ1 ⊢
  generalize w.heap.size = q0 at HQ0 ⊢
  have HFX : Hid (∀ W, Kp 0 0 w1 W → W.cell? ⟨q0, 0, none⟩ = some (.slice to d.ts.length tc) ∧ W.cell? ⟨q0, 1, none⟩ = some (.slice po d.ps.length pc) ∧ W.cell? ⟨q1, 0, none⟩ = some (.int .i64 p.t) ∧ W.cell? ⟨q1, 1, none⟩ = some (.int .i64 p.f) ∧ W.cell? ⟨q1, 2, none⟩ = some (.int .i64 p.g) ∧ W.cell? ⟨q1, 3, none⟩ = some (.int .i64 p.b) ∧ W.cell? ⟨q1, 4, none⟩ = some (.int .i64 p.m) ∧ W.cell? ⟨q2, 0, none⟩ = some (.int .i64 1) ∧ W.cell? ⟨q2, 1, none⟩ = some (.int .i64 3) ∧ W.cell? ⟨q3, 0, none⟩ = some (.int .i64 1) ∧ W.cell? ⟨q3, 1, none⟩ = some (.int .i64 5)) := fun W hW =>
    ⟨blk_cell (hW.heap HQ0.out (.inr (Nat.zero_le _))) rfl, blk_cell (hW.heap HQ0.out (.inr (Nat.zero_le _))) rfl, blk_cell (hW.heap HQ1.out (.inr (Nat.zero_le _))) rfl, blk_cell (hW.heap HQ1.out (.inr (Nat.zero_le _))) rfl, blk_cell (hW.heap HQ1.out (.inr (Nat.zero_le _))) rfl, blk_cell (hW.heap HQ1.out (.inr (Nat.zero_le _))) rfl, blk_cell (hW.heap HQ1.out (.inr (Nat.zero_le _))) rfl, blk_cell (hW.heap HQ2.out (.inr (Nat.zero_le _))) rfl, blk_cell (hW.heap HQ2.out (.inr (Nat.zero_le _))) rfl, blk_cell (hW.heap HQ3.out (.inr (Nat.zero_le _))) rfl, blk_cell (hW.heap HQ3.out (.inr (Nat.zero_le _))) rfl⟩
  have HD1 := Lib.hid (HD.out.keep0 HK.out)
  clear HQ0 HQ1 HQ2 HQ3
  obtain ⟨d0, d1, p0, p1, _, _, _, _, _, _, _⟩ := HFX.out w1 (Kp.refl _ _ _)
  cases hf : Sc.field d p.t p.f with
  | none =>
    have HG : Hid (Sc.proj d p = 8) := if_pos hf
    have HF := Lib.hid (find_none d p.t p.f w1 _ _ HD1.out hf)
    clear hf
    go_wp2_with fail
    refine HF.out.mono ?_
    rintro r w2 ⟨rfl, hk2⟩
    unfold fieldV
    go_wp2_with fail
    go_returns
    exact ⟨by rw [HG.out]; rfl, HK.out.trans (hk2.alloc _)⟩
  | some F =>
    have HG0 : Hid (Sc.proj d p = if (p.g = 3 ∧ Sc.kind (d.ts.getD p.t.toNat []) p.b ≠ 2) ∨ (p.g ≠ 3 ∧ p.b ≠ 0) then 8 else if p.g < 1 ∨ 3 < p.g ∨ p.m < 1 ∨ 5 < p.m then 2 else 0) := if_neg (by rw [hf]; intro h; cases h)
    obtain ⟨n, m, T, ht, hff, hT, hF⟩ := Sc.field_inv hf
    have HF : Hid (Calls Tryd.prog 24 #[.agg #[.slice to d.ts.length tc, .slice po d.ps.length pc], .int .i64 p.t, .int .i64 p.f] w1 fun r w' => ∃ mo mc, r = .returned (.tuple #[fieldV F (.slice mo F.ms.length mc), .bool true]) ∧ RdS mvE 4 w' S (.slice mo F.ms.length mc) F.ms ∧ Kp 0 0 w1 w') := by
      show Calls _ _ _ _ _
      rw [ht, hff]
      exact find_some d n m T F w1 _ _ HD1.out hT hF
    have hTn : d.ts.getD p.t.toNat [] = T := by rw [ht]; simp [List.getD, hT]
    rw [hTn] at HG0
    have htn := (List.getElem?_eq_some_iff.1 hT).1
    obtain ⟨b, o, fo, fc, rfl, _, c1, hf1, hf2, hfs⟩ := ty_at HD1.out.t.cl hT
    have HR := Lib.hid hfs
    have t0 : 0 ≤ p.t := by omega
    have t1 : p.t < (d.ts.length : Int) := by omega
    have HC1 : Hid (∀ W, Kp 0 0 w1 W → W.cell? ⟨b, o + p.t.toNat, none⟩ = some (.slice fo T.length fc)) := by
      intro W hW
      rw [ht]
      exact hW.cell c1 (.inr (Nat.zero_le _))
    clear hf hT hF hTn htn ht hff hfs c1 HD HD1
    go_wp2_with fail
    refine HF.out.mono ?_
    rintro r w2 ⟨mo, mc, rfl, _, hk2⟩
    unfold fieldV
    have HK2 : Hid (Kp 0 0 w1 (w2.alloc (.cells #[.int .i64 F.k, .int .i64 F.p, .bool F.b, .slice mo F.ms.length mc] 33))) := hk2.alloc _
    clear hk2 d0 d1 p0 p1
    go_upto_region 4 with fail
    generalize w2.alloc (.cells #[.int .i64 F.k, .int .i64 F.p, .bool F.b, .slice mo F.ms.length mc] 33) = w3 at HK2 ⊢
    generalize w2.heap.size = q4
    obtain ⟨d0, _, c0, _, c2, c3, _, _, _, _, _⟩ := HFX.out w3 HK2.out
    have c1 := HC1.out w3 HK2.out
    have hk0 : Kp 0 0 w3 w3.drew := (Kp.refl 0 0 w3).drew
    by_cases hg : p.g = 3
    · have hg1 : (p.g == 3) = true := by simp [hg]
      have hg2 : (p.g != 3) = false := by simp [hg]
      have HIS : Hid (∀ W, Kp 0 0 w3 W → Calls Tryd.prog 37 #[.agg #[.slice fo T.length fc], .int .i64 p.b, .int .i64 2] W fun r w' => r = .returned (.bool (decide (Sc.kind T p.b = 2))) ∧ Kp 0 0 W w') := fun W hW => is_any T p.b 2 W fo (HR.out.keep0 flE_good (HK2.out.trans hW)) (by decide)
      have HGA : Hid (Sc.proj d p = if Sc.kind T p.b ≠ 2 then 8 else if p.g < 1 ∨ 3 < p.g ∨ p.m < 1 ∨ 5 < p.m then 2 else 0) := by
        show _ = _
        rw [HG0.out, pj_three hg]
      clear hg HG0
      go_region_law (first
        | (go_simp; go_at_call 37
           refine (HIS.out _ hk0).mono ?_
           rintro r w5 ⟨rfl, hk5⟩))
      all_goals
        have HK5 := Lib.hid (HK2.out.trans (hk0.trans hk5))
        clear hk5 d0 c0 c2 c3 c1
        by_cases hkd : Sc.kind T p.b = 2
        · have HG1 : Hid (Sc.proj d p = if p.g < 1 ∨ 3 < p.g ∨ p.m < 1 ∨ 5 < p.m then 2 else 0) := by show _ = _; rw [HGA.out, if_neg (by simp [hkd])]
          obtain ⟨_, _, _, _, c2, c3, _, _, _, _, _⟩ := HFX.out _ HK5.out
          have hkb : decide (Sc.kind T p.b = 2) = true := by simp [hkd]
          rw [hkb]
          clear hkd HGA hkb
          cases hgs : Sc.inS (1, 3) p.g with
          | false =>
            have HG : Hid (Sc.proj d p = 2) := by
              show _ = _
              have h : ¬ (1 ≤ p.g ∧ p.g ≤ 3) := by simpa [Sc.inS] using hgs
              rw [HG1.out, if_pos (by omega)]
            obtain ⟨_, _, _, _, c2, _, c4, s0, s1, _, _⟩ := HFX.out _ HK5.out
            go_wp2_with fail
            refine (has_any (1, 3) _ _).mono ?_
            rintro r w7 ⟨rfl, hk7⟩
            rw [hgs]
            go_wp2_with fail
            go_returns
            exact ⟨by rw [HG.out]; rfl, HK.out.trans (HK5.out.trans hk7)⟩
          | true =>
            obtain ⟨_, _, _, _, c2, _, c4, s0, s1, _, _⟩ := HFX.out _ HK5.out
            go_wp2_with fail
            refine (has_any (1, 3) _ _).mono ?_
            rintro r w7 ⟨rfl, hk7⟩
            rw [hgs]
            have HK7 := Lib.hid (HK5.out.trans hk7)
            clear hk7 c2 c4 s0 s1
            obtain ⟨_, _, _, _, _, _, c4, _, _, s0, s1⟩ := HFX.out _ HK7.out
            cases hms : Sc.inS (1, 5) p.m with
            | false =>
              have HG : Hid (Sc.proj d p = 2) := by
                show _ = _
                have h : ¬ (1 ≤ p.m ∧ p.m ≤ 5) := by simpa [Sc.inS] using hms
                rw [HG1.out, if_pos (by omega)]
              go_wp2_with fail
              refine (has_any (1, 5) _ _).mono ?_
              rintro r w8 ⟨rfl, hk8⟩
              rw [hms]
              go_wp2_with fail
              go_returns
              exact ⟨by rw [HG.out]; rfl, HK.out.trans (HK7.out.trans hk8)⟩
            | true =>
              have HG : Hid (Sc.proj d p = 0) := by
                show _ = _
                have h1 : 1 ≤ p.g ∧ p.g ≤ 3 := by simpa [Sc.inS] using hgs
                have h2 : 1 ≤ p.m ∧ p.m ≤ 5 := by simpa [Sc.inS] using hms
                rw [HG1.out, if_neg (by omega)]
              go_wp2_with fail
              refine (has_any (1, 5) _ _).mono ?_
              rintro r w8 ⟨rfl, hk8⟩
              rw [hms]
              go_wp2_with fail
              go_returns
              exact ⟨by rw [HG.out]; rfl, HK.out.trans (HK7.out.trans hk8)⟩
        · have HG : Hid (Sc.proj d p = 8) := by show _ = _; rw [HGA.out, if_pos hkd]
          have hkb : decide (Sc.kind T p.b = 2) = false := by simp [hkd]
          rw [hkb]
          clear hkd HGA hkb
          go_wp2_with fail
          go_returns
          exact ⟨by rw [HG.out]; rfl, HK.out.trans HK5.out⟩
    · have hg1 : (p.g == 3) = false := by simp [hg]
      have hg2 : (p.g != 3) = true := by simp [hg]
      have HGA : Hid (Sc.proj d p = if p.b ≠ 0 then 8 else if p.g < 1 ∨ 3 < p.g ∨ p.m < 1 ∨ 5 < p.m then 2 else 0) := by
        show _ = _
        rw [HG0.out, pj_else hg]
      clear hg HG0
      go_quiet (fail)
      have HK4 := Lib.hid (HK2.out.drewN nq)
      generalize w3.drewN nq = w4 at HK4 ⊢
      clear d0 c0 c2 c3 c1 hk0
      obtain ⟨_, _, _, _, c2, c3, _, _, _, _, _⟩ := HFX.out _ HK4.out
      by_cases hb : p.b = 0
      · have HG1 : Hid (Sc.proj d p = if p.g < 1 ∨ 3 < p.g ∨ p.m < 1 ∨ 5 < p.m then 2 else 0) := by show _ = _; rw [HGA.out, if_neg (by simp [hb])]
        have hb1 : (p.b != 0) = false := by simp [hb]
        clear hb HGA
        cases hgs : Sc.inS (1, 3) p.g with
        | false =>
          have HG : Hid (Sc.proj d p = 2) := by
            show _ = _
            have h : ¬ (1 ≤ p.g ∧ p.g ≤ 3) := by simpa [Sc.inS] using hgs
            rw [HG1.out, if_pos (by omega)]
          obtain ⟨_, _, _, _, c2, _, c4, s0, s1, _, _⟩ := HFX.out _ HK4.out
          go_wp2_with fail
          refine (has_any (1, 3) _ _).mono ?_
          rintro r w7 ⟨rfl, hk7⟩
          rw [hgs]
          go_wp2_with fail
          go_returns
          exact ⟨by rw [HG.out]; rfl, HK.out.trans (HK4.out.trans hk7)⟩
        | true =>
          obtain ⟨_, _, _, _, c2, _, c4, s0, s1, _, _⟩ := HFX.out _ HK4.out
          go_wp2_with fail
          refine (has_any (1, 3) _ _).mono ?_
          rintro r w7 ⟨rfl, hk7⟩
          rw [hgs]
          have HK7 := Lib.hid (HK4.out.trans hk7)
          clear hk7 c2 c4 s0 s1
          obtain ⟨_, _, _, _, _, _, c4, _, _, s0, s1⟩ := HFX.out _ HK7.out
          cases hms : Sc.inS (1, 5) p.m with
          | false =>
            have HG : Hid (Sc.proj d p = 2) := by
              show _ = _
              have h : ¬ (1 ≤ p.m ∧ p.m ≤ 5) := by simpa [Sc.inS] using hms
              rw [HG1.out, if_pos (by omega)]
            go_wp2_with fail
            refine (has_any (1, 5) _ _).mono ?_
            rintro r w8 ⟨rfl, hk8⟩
            rw [hms]
            go_wp2_with fail
            go_returns
            exact ⟨by rw [HG.out]; rfl, HK.out.trans (HK7.out.trans hk8)⟩
          | true =>
            have HG : Hid (Sc.proj d p = 0) := by
              show _ = _
              have h1 : 1 ≤ p.g ∧ p.g ≤ 3 := by simpa [Sc.inS] using hgs
              have h2 : 1 ≤ p.m ∧ p.m ≤ 5 := by simpa [Sc.inS] using hms
              rw [HG1.out, if_neg (by omega)]
            go_wp2_with fail
            refine (has_any (1, 5) _ _).mono ?_
            rintro r w8 ⟨rfl, hk8⟩
            rw [hms]
            go_wp2_with fail
            go_returns
            exact ⟨by rw [HG.out]; rfl, HK.out.trans (HK7.out.trans hk8)⟩
      · have HG : Hid (Sc.proj d p = 8) := by show _ = _; rw [HGA.out, if_pos hb]
        have hb1 : (p.b != 0) = true := by simp [hb]
        clear hb HGA
        go_wp2_with fail
        go_returns
        exact ⟨by rw [HG.out]; rfl, HK.out.trans HK4.out⟩

end Go.Proofs.YtdgeehcfdnokmaaDoor
