/-
  The landed schema: the counts; a field.
-/
import Derived.Test.YtdgeehcfdnokmaaDoorScOk1
namespace Go.Proofs.YtdgeehcfdnokmaaDoor
open Go.RowKit

set_option maxHeartbeats 1000000 in
/-- countsFit: as many of everything as there may be. -/
theorem counts_any {S : Nat → Prop} (d : Dc) (w : World) (tv pv : Value) (hd : RdD w S tv pv d) (ht : STabs w) :
    Calls Tryd.prog 21 #[.agg #[tv, pv]] w fun r w' => r = .returned (.bool (!Sc.many d)) ∧ Kp 0 0 w w' := by
  obtain ⟨to, tc, rfl, ht1, ht2, _⟩ := hd.t.open
  obtain ⟨po, pc, rfl, hp1, hp2, _⟩ := hd.p.open
  have HR := Lib.hid hd.t
  have HT := Lib.hid ht
  have HK : Hid (Kp 0 0 w ((w.alloc (.cells #[.slice to d.ts.length tc, .slice po d.ps.length pc] 25)).alloc (.cells #[.int .i64 1, .int .i64 8] 58))) := ((Kp.refl _ _ _).alloc _).alloc _
  have HQ := Lib.hid (blk_old (blk_one w (.cells #[.slice to d.ts.length tc, .slice po d.ps.length pc] 25)) (.cells #[.int .i64 1, .int .i64 8] 58))
  have htl : d.ts.length ≤ 9223372036854775807 := by omega
  have hpl : d.ps.length ≤ 9223372036854775807 := by omega
  clear hd ht
  by_cases h : 1 ≤ (d.ts.length : Int) ∧ (d.ts.length : Int) ≤ 8
  · have HS : Hid (Sc.inS (1, 8) d.ts.length = true) := by show _ = _; simpa [Sc.inS] using h
    have h1 : ¬ d.ts.length = 0 := by omega
    have h2 : ¬ 8 < d.ts.length := by omega
    by_cases h3 : (d.ps.length : Int) ≤ 8
    · have HG : Hid ((!Sc.many d) = !d.ts.any Sc.manyT) := by
        show _ = _
        unfold Sc.many
        have h4 : ¬ 8 < d.ps.length := by omega
        simp [h1, h2, h4]
      rw [HG.out]
      clear h HG h1 h2
      go_enter Tryd.func21, Tryd.ntmps21
      go_wp2_with fail
      refine (has_any (1, 8) _ _).mono ?_
      rintro r w2 ⟨rfl, hk2⟩
      rw [HS.out]
      have HK2 := Lib.hid (HK.out.trans hk2)
      have hq := hk2.heap HQ.out (.inr (Nat.zero_le _))
      have c0 := blk_cell hq (k := 0) (u := .slice to d.ts.length tc) rfl
      have c1 := blk_cell hq (k := 1) (u := .slice po d.ps.length pc) rfl
      clear hk2 hq
      go_wp2_with fail
      refine (some_mc d.ts _ to (HR.out.keep0 tyE_good HK2.out) (HT.out.keep HK2.out)).mono ?_
      rintro r w3 ⟨rfl, hk3⟩
      go_wp2_with fail
      go_returns
      exact ⟨by simp, HK2.out.trans hk3⟩
    · have HG : Hid ((!Sc.many d) = false) := by
        show _ = _
        unfold Sc.many
        have h4 : 8 < d.ps.length := by omega
        simp [h4]
      rw [HG.out]
      clear h HG h1 h2
      go_enter Tryd.func21, Tryd.ntmps21
      go_wp2_with fail
      refine (has_any (1, 8) _ _).mono ?_
      rintro r w2 ⟨rfl, hk2⟩
      rw [HS.out]
      have hq := hk2.heap HQ.out (.inr (Nat.zero_le _))
      have c1 := blk_cell hq (k := 1) (u := .slice po d.ps.length pc) rfl
      go_wp2_with fail
      go_returns
      exact ⟨rfl, HK.out.trans hk2⟩
  · have HS : Hid (Sc.inS (1, 8) d.ts.length = false) := by show _ = _; simpa [Sc.inS] using h
    have HG : Hid ((!Sc.many d) = false) := by
      show _ = _
      unfold Sc.many
      by_cases h1 : d.ts.length = 0
      · simp [h1]
      · have h2 : 8 < d.ts.length := by omega
        simp [h2]
    rw [HG.out]
    clear h HG
    go_enter Tryd.func21, Tryd.ntmps21
    go_wp2_with fail
    refine (has_any (1, 8) _ _).mono ?_
    rintro r w2 ⟨rfl, hk2⟩
    rw [HS.out]
    go_wp2_with fail
    go_returns
    exact ⟨rfl, HK.out.trans hk2⟩

theorem plc_zero (k : Int) : Sc.plc k = 0 ↔ (k < 1 ∨ 4 < k) := by
  unfold Sc.plc
  split
  · simp_all
  · omega
theorem plc_four {k : Int} (h : ¬ (k < 1 ∨ 4 < k)) : k = 1 ∨ k = 2 ∨ k = 3 ∨ k = 4 := by omega
theorem okP_in {f : Fl} (h : ¬ (f.k < 1 ∨ 4 < f.k)) : Sc.okP f = Sc.inS (Sc.poL.getD (Sc.plc f.k) (0, 0)) f.p := by
  obtain ⟨k, p, b, ms⟩ := f
  dsimp only at h ⊢
  unfold Sc.okP Sc.inS
  have e1 : Sc.poL.getD (Sc.plc 1) (0, 0) = (1, 1) := rfl
  have e2 : Sc.poL.getD (Sc.plc 2) (0, 0) = (1, 3) := rfl
  have e3 : Sc.poL.getD (Sc.plc 3) (0, 0) = (1, 2) := rfl
  have e4 : Sc.poL.getD (Sc.plc 4) (0, 0) = (1, 2) := rfl
  rw [Bool.eq_iff_iff]
  rcases plc_four h with rfl | rfl | rfl | rfl
  · rw [e1]; simp; omega
  · rw [e2]; simp; omega
  · rw [e3]; simp; omega
  · rw [e4]; simp; omega
theorem fl_in {f : Fl} (h : ¬ (f.k < 1 ∨ 4 < f.k)) : Sc.flL.getD (Sc.plc f.k) false = decide (f.k = 1) := by
  obtain ⟨k, p, b, ms⟩ := f
  dsimp only at h ⊢
  rcases plc_four h with rfl | rfl | rfl | rfl <;> rfl

set_option maxRecDepth 100000 in
set_option maxHeartbeats 4000000 in
/-- checkField: what is wrong with a field of a type. -/
theorem checkF_any {S : Nat → Prop} {fc mc : Nat} (T : List Fl) (f : Fl) (w : World) (fo mo : Option Addr) (hr : RdS flE 4 w S (.slice fo T.length fc) T) (hm : RdS mvE 4 w S (.slice mo f.ms.length mc) f.ms) (ht : STabs w) :
    Calls Tryd.prog 22 #[.agg #[.slice fo T.length fc], .agg #[.int .i64 f.k, .int .i64 f.p, .bool f.b, .slice mo f.ms.length mc]] w fun r w' => r = .returned (.int .i64 (Sc.one T f)) ∧ Kp 0 0 w w' := by
  have HR := Lib.hid hr
  have HM := Lib.hid hm
  have HT := Lib.hid ht
  clear hr hm ht
  have HK : Hid (Kp 0 0 w ((w.alloc (.cells #[.slice fo T.length fc] 45)).alloc (.cells #[.int .i64 f.k, .int .i64 f.p, .bool f.b, .slice mo f.ms.length mc] 33))) := ((Kp.refl _ _ _).alloc _).alloc _
  have HQ1 := Lib.hid (blk_old (blk_one w (.cells #[.slice fo T.length fc] 45)) (.cells #[.int .i64 f.k, .int .i64 f.p, .bool f.b, .slice mo f.ms.length mc] 33))
  have HQ2 := Lib.hid (blk_two w (.cells #[.slice fo T.length fc] 45) (.cells #[.int .i64 f.k, .int .i64 f.p, .bool f.b, .slice mo f.ms.length mc] 33))
  go_enter Tryd.func22, Tryd.ntmps22
  go_upto_region 1 with fail
  generalize (w.alloc (.cells #[.slice fo T.length fc] 45)).alloc (.cells #[.int .i64 f.k, .int .i64 f.p, .bool f.b, .slice mo f.ms.length mc] 33) = w1 at HK HQ1 HQ2 ⊢
  generalize w.heap.size + 1 = q2 at HQ2 ⊢
  generalize w.heap.size = q1 at HQ1 ⊢
  have HFX : Hid (∀ W, Kp 0 0 w1 W → W.cell? ⟨q1, 0, none⟩ = some (.slice fo T.length fc) ∧ W.cell? ⟨q2, 0, none⟩ = some (.int .i64 f.k) ∧ W.cell? ⟨q2, 1, none⟩ = some (.int .i64 f.p) ∧ W.cell? ⟨q2, 2, none⟩ = some (.bool f.b) ∧ W.cell? ⟨q2, 3, none⟩ = some (.slice mo f.ms.length mc)) := fun W hW =>
    ⟨blk_cell (hW.heap HQ1.out (.inr (Nat.zero_le _))) rfl, blk_cell (hW.heap HQ2.out (.inr (Nat.zero_le _))) rfl, blk_cell (hW.heap HQ2.out (.inr (Nat.zero_le _))) rfl, blk_cell (hW.heap HQ2.out (.inr (Nat.zero_le _))) rfl, blk_cell (hW.heap HQ2.out (.inr (Nat.zero_le _))) rfl⟩
  have HT1 := Lib.hid (HT.out.keep HK.out)
  have HM1 := Lib.hid (HM.out.keep0 mvE_good HK.out)
  have HR1 := Lib.hid (HR.out.keep0 flE_good HK.out)
  clear HQ1 HQ2 HM HR HT
  obtain ⟨a1, b0, b1, b2, b3⟩ := HFX.out w1 (Kp.refl _ _ _)
  have HPL := Lib.hid (place_any f.k)
  by_cases hk : f.k < 1 ∨ 4 < f.k
  · have HG : Hid (Sc.one T f = 2) := if_pos hk
    have hz : Sc.plc f.k = 0 := (plc_zero _).2 hk
    rw [hz] at HPL
    clear hk hz
    go_wp2_with fail
    refine (HPL.out _).mono ?_
    rintro r w2 ⟨rfl, rfl⟩
    go_wp2_with fail
    go_returns
    exact ⟨by rw [HG.out]; rfl, HK.out⟩
  have HG1 : Hid (Sc.one T f = if Sc.okP f = false ∨ (f.b = true ∧ f.k ≠ 1) then 1 else if f.ms.any Sc.badM = true then 1 else if f.ms.any (Sc.badN T) = true then 8 else 0) := if_neg hk
  have HO := Lib.hid (okP_in hk)
  have HFL := Lib.hid (fl_in hk)
  have hz : Sc.plc f.k ≠ 0 := fun h => hk ((plc_zero _).1 h)
  have hp5 := Sc.plc_lt f.k
  clear hk
  have HTP : Hid (∀ W, Kp 0 0 w1 W → W.cell? ⟨1, Sc.plc f.k * 2, none⟩ = some (.int .i64 (Sc.poL.getD (Sc.plc f.k) (0, 0)).1) ∧ W.cell? ⟨1, Sc.plc f.k * 2 + 1, none⟩ = some (.int .i64 (Sc.poL.getD (Sc.plc f.k) (0, 0)).2) ∧ W.cell? ⟨2, Sc.plc f.k, none⟩ = some (.bool (Sc.flL.getD (Sc.plc f.k) false))) := fun W hW =>
    ⟨((HT1.out.keep hW).po _ hp5).1, ((HT1.out.keep hW).po _ hp5).2, (HT1.out.keep hW).fl _ hp5⟩
  generalize Sc.plc f.k = p at HPL HO HFL hz hp5 HTP ⊢
  generalize Sc.poL.getD p (0, 0) = s at HO HTP ⊢
  generalize Sc.flL.getD p false = fb at HFL HTP ⊢
  have p0 : (0 : Int) ≤ (p : Int) := Int.natCast_nonneg _
  have p5 : (p : Int) < 5 := by omega
  have pz : ((p : Int) == 0) = false := by simpa using hz
  go_wp2_with fail
  refine (HPL.out _).mono ?_
  rintro r w2 ⟨rfl, rfl⟩
  obtain ⟨t1, t2, t3⟩ := HTP.out w2 (Kp.refl _ _ _)
  have hk1 : Kp 0 0 w2 w2.drew := (Kp.refl 0 0 w2).drew
  have HSS : Hid (∀ n W, Calls Tryd.prog 30 #[.agg #[.int .i64 s.1, .int .i64 s.2], .int .i64 n] W fun r w' => r = .returned (.bool (Sc.inS s n)) ∧ Kp 0 0 W w') := fun n W => has_any s n W
  have HMS : Hid (∀ W, Kp 0 0 w2 W → Calls Tryd.prog 34 #[.slice mo f.ms.length mc, .func (.func 35) #[] #[]] W fun r w' => r = .returned (.bool (f.ms.any Sc.badM)) ∧ Kp 0 0 W w') := fun W hW => some_mis f.ms W mo (HM1.out.keep0 mvE_good hW)
  have HND : Hid (∀ W, Kp 0 0 w2 W → Calls Tryd.prog 34 #[.slice mo f.ms.length mc, .func (.func 36) #[] #[.pointer (some ⟨q1, 0, none⟩)]] W fun r w' => r = .returned (.bool (f.ms.any (Sc.badN T))) ∧ Kp 0 0 W w') := fun W hW => some_need T fo f.ms W mo (HM1.out.keep0 mvE_good hW) (HR1.out.keep0 flE_good hW) (hW.cell a1 (.inr (Nat.zero_le _)))
  have hmf : ∀ (fn : Fn) (first cap : Array Value) (w : World), (Instr.makeFunc fn first cap).run Tryd.prog w = .ok (.func fn first cap) w := fun _ _ _ _ => rfl
  go_wp2_with fail
  go_region_law (first
    | (go_simp; go_at_call 30
       refine (HSS.out _ _).mono ?_
       rintro r w3 ⟨rfl, hk3⟩))
  all_goals
    have HK3 := Lib.hid (hk1.trans hk3)
    obtain ⟨_, _, _, d2, d3⟩ := HFX.out w3 HK3.out
    obtain ⟨_, _, u3⟩ := HTP.out w3 HK3.out
    clear hk3 hk1 b0 b1 b2 b3 t1 t2 t3 HSS HPL
    cases hq : Sc.inS s f.p with
    | false =>
      have HGF : Hid (Sc.one T f = 1) := by show _ = _; rw [HG1.out, if_pos (.inl (HO.out.trans hq))]
      go_wp2_with fail
      go_returns
      exact ⟨by rw [HGF.out]; rfl, HK.out.trans HK3.out⟩
    | true =>
      cases hfb : f.b with
      | false =>
        rw [hfb] at d2
        have HG2 : Hid (Sc.one T f = if f.ms.any Sc.badM = true then 1 else if f.ms.any (Sc.badN T) = true then 8 else 0) := by
          show _ = _
          rw [HG1.out, if_neg]
          rintro (h | ⟨h1, h2⟩)
          · rw [HO.out, hq] at h
            cases h
          · rw [hfb] at h1
            cases h1
        go_wp2_with fail
        refine (HMS.out w3 HK3.out).mono ?_
        rintro r w4 ⟨rfl, hk4⟩
        have HK4 := Lib.hid (HK3.out.trans hk4)
        clear hk4
        cases hbm : f.ms.any Sc.badM with
        | true =>
          have HGF : Hid (Sc.one T f = 1) := by show _ = _; rw [HG2.out, if_pos hbm]
          go_wp2_with fail
          go_returns
          exact ⟨by rw [HGF.out]; rfl, HK.out.trans HK4.out⟩
        | false =>
          have e3 := (HFX.out w4 HK4.out).2.2.2.2
          go_wp2_with fail
          refine (HND.out w4 HK4.out).mono ?_
          rintro r w5 ⟨rfl, hk5⟩
          cases hbn : f.ms.any (Sc.badN T) with
          | true =>
            have HGF : Hid (Sc.one T f = 8) := by show _ = _; rw [HG2.out, if_neg (by rw [hbm]; decide), if_pos hbn]
            go_wp2_with fail
            go_returns
            exact ⟨by rw [HGF.out]; rfl, HK.out.trans (HK4.out.trans hk5)⟩
          | false =>
            have HGF : Hid (Sc.one T f = 0) := by show _ = _; rw [HG2.out, if_neg (by rw [hbm]; decide), if_neg (by rw [hbn]; decide)]
            go_wp2_with fail
            go_returns
            exact ⟨by rw [HGF.out]; rfl, HK.out.trans (HK4.out.trans hk5)⟩
      | true =>
        rw [hfb] at d2
        cases fb with
        | false =>
          have hne : f.k ≠ 1 := fun h => by
            have := HFL.out
            rw [h] at this
            exact absurd this (by decide)
          have HGF : Hid (Sc.one T f = 1) := by
            show _ = _
            rw [HG1.out, if_pos (.inr ⟨hfb, hne⟩)]
          clear hne
          go_wp2_with fail
          go_returns
          exact ⟨by rw [HGF.out]; rfl, HK.out.trans HK3.out⟩
        | true =>
          have HG2 : Hid (Sc.one T f = if f.ms.any Sc.badM = true then 1 else if f.ms.any (Sc.badN T) = true then 8 else 0) := by
            show _ = _
            rw [HG1.out, if_neg]
            rintro (h | ⟨h1, h2⟩)
            · rw [HO.out, hq] at h
              cases h
            · have := HFL.out
              exact h2 (of_decide_eq_true this.symm)
          go_wp2_with fail
          refine (HMS.out w3 HK3.out).mono ?_
          rintro r w4 ⟨rfl, hk4⟩
          have HK4 := Lib.hid (HK3.out.trans hk4)
          clear hk4
          cases hbm : f.ms.any Sc.badM with
          | true =>
            have HGF : Hid (Sc.one T f = 1) := by show _ = _; rw [HG2.out, if_pos hbm]
            go_wp2_with fail
            go_returns
            exact ⟨by rw [HGF.out]; rfl, HK.out.trans HK4.out⟩
          | false =>
            have e3 := (HFX.out w4 HK4.out).2.2.2.2
            go_wp2_with fail
            refine (HND.out w4 HK4.out).mono ?_
            rintro r w5 ⟨rfl, hk5⟩
            cases hbn : f.ms.any (Sc.badN T) with
            | true =>
              have HGF : Hid (Sc.one T f = 8) := by show _ = _; rw [HG2.out, if_neg (by rw [hbm]; decide), if_pos hbn]
              go_wp2_with fail
              go_returns
              exact ⟨by rw [HGF.out]; rfl, HK.out.trans (HK4.out.trans hk5)⟩
            | false =>
              have HGF : Hid (Sc.one T f = 0) := by show _ = _; rw [HG2.out, if_neg (by rw [hbm]; decide), if_neg (by rw [hbn]; decide)]
              go_wp2_with fail
              go_returns
              exact ⟨by rw [HGF.out]; rfl, HK.out.trans (HK4.out.trans hk5)⟩

end Go.Proofs.YtdgeehcfdnokmaaDoor
