/-
  The landed schema: what slices' functions tell of the arrays' tests; the counts.
-/
import Derived.Test.YtdgeehcfdnokmaaDoorScTab
import Derived.Deep.RegionLaw
import Derived.Deep.RegionHeld3
namespace Go.Proofs.YtdgeehcfdnokmaaDoor
open Go.RowKit

set_option maxHeartbeats 1000000 in
/-- slices.IndexFunc over 'misplaced': a place, or -1. -/
theorem index_mis {S : Nat → Prop} {c : Nat} (l : List Mv) (w : World) (ao : Option Addr) (hv : RdS mvE 4 w S (.slice ao l.length c) l) :
    Calls Tryd.prog 41 #[.slice ao l.length c, .func (.func 35) #[] #[]] w fun r w' => ∃ x : Int, r = .returned (.int .i64 x) ∧ Kp 0 0 w w' ∧ ((x = -1 ∧ l.any Sc.badM = false) ∨ (0 ≤ x ∧ l.any Sc.badM = true)) := by
  obtain ⟨_, _, he, _, hl2, _⟩ := hv.open
  have hl2 : l.length ≤ 9223372036854775807 := by omega
  have HCL := Lib.hid hv.cl
  clear hv he
  go_enter Tryd.func41, Tryd.ntmps41
  go_wp2_with fail
  go_loopw [5, 8] (fun _ i wr => ∃ k : Nat, k ≤ l.length ∧ i = .int .i64 k ∧ Hid (Sc.None Sc.badM l k) ∧ Kp 0 0 w wr) (fun _ i _ => l.length - (intOf i).toNat)
  case atStart => exact ⟨0, Nat.zero_le _, rfl, Sc.None.zero _ _, Kp.refl _ _ _⟩
  case round =>
    obtain ⟨k, hk, rfl, HALL, hkp⟩ := hrel
    have HKP := Lib.hid hkp
    clear hkp
    by_cases hlt : k < l.length
    · obtain ⟨m, hm⟩ : ∃ m, l[k]? = some m := ⟨_, List.getElem?_eq_getElem hlt⟩
      have HNX : Hid (Sc.badM m = false → Sc.None Sc.badM l (k + 1)) := fun h => HALL.out.step hm h
      have HST : Hid (Sc.badM m = true → l.any Sc.badM = true) := fun h => Sc.any_stop hm h
      obtain ⟨b1, o1, rfl, _, c0, c1, c2, c3⟩ := mv_at HCL.out hm
      have c0 := HKP.out.cell c0 (.inr (Nat.zero_le _))
      have c1 := HKP.out.cell c1 (.inr (Nat.zero_le _))
      have c2 := HKP.out.cell c2 (.inr (Nat.zero_le _))
      have c3 := HKP.out.cell c3 (.inr (Nat.zero_le _))
      have k0 : (0 : Int) ≤ (k : Int) := Int.natCast_nonneg _
      have k1 : (k : Int) < (l.length : Int) := by omega
      clear hm
      cases hb : Sc.badM m with
      | true =>
        have HB := Lib.hid (HST.out hb)
        go_wp2_with fail
        refine (mis_any m _).mono ?_
        rintro r w2 ⟨rfl, hk2⟩
        have HK2 := Lib.hid (HKP.out.trans hk2)
        clear hk2
        rw [hb]
        go_wp2_with fail
        go_returns
        exact ⟨k, rfl, HK2.out, .inr ⟨by omega, HB.out⟩⟩
      | false =>
        have HB := Lib.hid (HNX.out hb)
        go_wp2_with fail
        refine (mis_any m _).mono ?_
        rintro r w2 ⟨rfl, hk2⟩
        have HK2 := Lib.hid (HKP.out.trans hk2)
        clear hk2
        rw [hb]
        go_wp2_with fail
        go_roundw
        case rel => exact ⟨k + 1, by omega, by go_num, HB.out, HK2.out⟩
        case measure => simp [intOf]; omega
    · obtain rfl : k = l.length := by omega
      have HB := Lib.hid HALL.out.done
      go_wp2_with fail
      go_returns
      exact ⟨-1, rfl, HKP.out, .inl ⟨rfl, HB.out⟩⟩

/-- slices.ContainsFunc over it. -/
theorem some_mis {S : Nat → Prop} {c : Nat} (l : List Mv) (w : World) (ao : Option Addr) (hv : RdS mvE 4 w S (.slice ao l.length c) l) :
    Calls Tryd.prog 34 #[.slice ao l.length c, .func (.func 35) #[] #[]] w fun r w' => r = .returned (.bool (l.any Sc.badM)) ∧ Kp 0 0 w w' := by
  have HI := Lib.hid (index_mis l w ao hv )
  clear hv 
  go_enter Tryd.func34, Tryd.ntmps34
  go_wp2_with fail
  refine HI.out.mono ?_
  rintro r w2 ⟨x, rfl, hk, hx⟩
  have HK := Lib.hid hk
  clear hk
  rcases hx with ⟨rfl, hx⟩ | ⟨h0, hx⟩
  · have HX := Lib.hid hx
    clear hx
    go_wp2_with fail
    go_returns
    exact ⟨by rw [HX.out]; rfl, HK.out⟩
  · have HX := Lib.hid hx
    clear hx
    go_wp2_with fail
    go_returns
    exact ⟨by rw [HX.out]; rfl, HK.out⟩

set_option maxHeartbeats 1000000 in
/-- checkField's own: what a move needs is no counter of the type. -/
theorem need_any {S : Nat → Prop} {fc B : Nat} (T : List Fl) (m : Mv) (w : World) (fo : Option Addr) (hr : RdS flE 4 w S (.slice fo T.length fc) T) (hB : w.cell? ⟨B, 0, none⟩ = some (.slice fo T.length fc)) :
    Calls Tryd.prog 36 #[.agg #[.int .i64 m.f, .int .i64 m.t, .int .i64 m.n, .int .i64 m.l], .pointer (some ⟨B, 0, none⟩)] w fun r w' => r = .returned (.bool (Sc.badN T m)) ∧ Kp 0 0 w w' := by
  obtain ⟨f, t, n, l⟩ := m
  dsimp only
  have HK : Hid (Kp 0 0 w (w.alloc (.cells #[.int .i64 f, .int .i64 t, .int .i64 n, .int .i64 l] 39))) := (Kp.refl _ _ _).alloc _
  have HR := Lib.hid (hr.keep0 flE_good HK.out)
  have hB2 := HK.out.cell hB (.inr (Nat.zero_le _))
  clear hr
  by_cases h1 : n = -1
  · subst h1
    have HG : Hid (Sc.badN T ⟨f, t, -1, l⟩ = false) := by show _ = _; simp [Sc.badN]
    go_enter Tryd.func36, Tryd.ntmps36
    go_wp2_with fail
    go_returns
    exact ⟨by rw [HG.out]; rfl, HK.out⟩
  · have h1b : (n != -1) = true := by simp [h1]
    have HG : Hid (Sc.badN T ⟨f, t, n, l⟩ = !decide (Sc.kind T n = 1)) := by
      show _ = _
      by_cases h : Sc.kind T n = 1 <;> simp [Sc.badN, h1, h]
    have HI : Hid (Calls Tryd.prog 37 #[.agg #[.slice fo T.length fc], .int .i64 n, .int .i64 1] (w.alloc (.cells #[.int .i64 f, .int .i64 t, .int .i64 n, .int .i64 l] 39)) fun r w' => r = .returned (.bool (decide (Sc.kind T n = 1))) ∧ Kp 0 0 (w.alloc (.cells #[.int .i64 f, .int .i64 t, .int .i64 n, .int .i64 l] 39)) w') := is_any T n 1 _ fo HR.out (by decide)
    rw [HG.out]
    clear HG
    generalize decide (Sc.kind T n = 1) = q at HI ⊢
    go_enter Tryd.func36, Tryd.ntmps36
    go_wp2_with fail
    refine HI.out.mono ?_
    rintro r w2 ⟨rfl, hk2⟩
    have HK2 := Lib.hid (HK.out.trans hk2)
    clear hk2
    go_wp2_with fail
    go_returns
    exact ⟨by simp, HK2.out⟩

set_option maxHeartbeats 1000000 in
/-- slices.IndexFunc over 'checkField$1': a place, or -1. -/
theorem index_need {S : Nat → Prop} {c : Nat} {S2 : Nat → Prop} {fc B : Nat} (T : List Fl) (fo : Option Addr) (l : List Mv) (w : World) (ao : Option Addr) (hv : RdS mvE 4 w S (.slice ao l.length c) l) (hr : RdS flE 4 w S2 (.slice fo T.length fc) T) (hB : w.cell? ⟨B, 0, none⟩ = some (.slice fo T.length fc)) :
    Calls Tryd.prog 41 #[.slice ao l.length c, .func (.func 36) #[] #[.pointer (some ⟨B, 0, none⟩)]] w fun r w' => ∃ x : Int, r = .returned (.int .i64 x) ∧ Kp 0 0 w w' ∧ ((x = -1 ∧ l.any (Sc.badN T) = false) ∨ (0 ≤ x ∧ l.any (Sc.badN T) = true)) := by
  obtain ⟨_, _, he, _, hl2, _⟩ := hv.open
  have hl2 : l.length ≤ 9223372036854775807 := by omega
  have HCL := Lib.hid hv.cl
  clear hv he
  have HR := Lib.hid hr
  have HBB := Lib.hid hB
  clear hr hB
  go_enter Tryd.func41, Tryd.ntmps41
  go_wp2_with fail
  go_loopw [5, 8] (fun _ i wr => ∃ k : Nat, k ≤ l.length ∧ i = .int .i64 k ∧ Hid (Sc.None (Sc.badN T) l k) ∧ Kp 0 0 w wr) (fun _ i _ => l.length - (intOf i).toNat)
  case atStart => exact ⟨0, Nat.zero_le _, rfl, Sc.None.zero _ _, Kp.refl _ _ _⟩
  case round =>
    obtain ⟨k, hk, rfl, HALL, hkp⟩ := hrel
    have HKP := Lib.hid hkp
    clear hkp
    by_cases hlt : k < l.length
    · obtain ⟨m, hm⟩ : ∃ m, l[k]? = some m := ⟨_, List.getElem?_eq_getElem hlt⟩
      have HNX : Hid ((Sc.badN T) m = false → Sc.None (Sc.badN T) l (k + 1)) := fun h => HALL.out.step hm h
      have HST : Hid ((Sc.badN T) m = true → l.any (Sc.badN T) = true) := fun h => Sc.any_stop hm h
      obtain ⟨b1, o1, rfl, _, c0, c1, c2, c3⟩ := mv_at HCL.out hm
      have c0 := HKP.out.cell c0 (.inr (Nat.zero_le _))
      have c1 := HKP.out.cell c1 (.inr (Nat.zero_le _))
      have c2 := HKP.out.cell c2 (.inr (Nat.zero_le _))
      have c3 := HKP.out.cell c3 (.inr (Nat.zero_le _))
      have k0 : (0 : Int) ≤ (k : Int) := Int.natCast_nonneg _
      have k1 : (k : Int) < (l.length : Int) := by omega
      clear hm
      cases hb : (Sc.badN T) m with
      | true =>
        have HB := Lib.hid (HST.out hb)
        go_wp2_with fail
        refine (need_any T m _ fo (HR.out.keep0 flE_good HKP.out) (HKP.out.cell HBB.out (.inr (Nat.zero_le _)))).mono ?_
        rintro r w2 ⟨rfl, hk2⟩
        have HK2 := Lib.hid (HKP.out.trans hk2)
        clear hk2
        rw [hb]
        go_wp2_with fail
        go_returns
        exact ⟨k, rfl, HK2.out, .inr ⟨by omega, HB.out⟩⟩
      | false =>
        have HB := Lib.hid (HNX.out hb)
        go_wp2_with fail
        refine (need_any T m _ fo (HR.out.keep0 flE_good HKP.out) (HKP.out.cell HBB.out (.inr (Nat.zero_le _)))).mono ?_
        rintro r w2 ⟨rfl, hk2⟩
        have HK2 := Lib.hid (HKP.out.trans hk2)
        clear hk2
        rw [hb]
        go_wp2_with fail
        go_roundw
        case rel => exact ⟨k + 1, by omega, by go_num, HB.out, HK2.out⟩
        case measure => simp [intOf]; omega
    · obtain rfl : k = l.length := by omega
      have HB := Lib.hid HALL.out.done
      go_wp2_with fail
      go_returns
      exact ⟨-1, rfl, HKP.out, .inl ⟨rfl, HB.out⟩⟩

/-- slices.ContainsFunc over it. -/
theorem some_need {S : Nat → Prop} {c : Nat} {S2 : Nat → Prop} {fc B : Nat} (T : List Fl) (fo : Option Addr) (l : List Mv) (w : World) (ao : Option Addr) (hv : RdS mvE 4 w S (.slice ao l.length c) l) (hr : RdS flE 4 w S2 (.slice fo T.length fc) T) (hB : w.cell? ⟨B, 0, none⟩ = some (.slice fo T.length fc)) :
    Calls Tryd.prog 34 #[.slice ao l.length c, .func (.func 36) #[] #[.pointer (some ⟨B, 0, none⟩)]] w fun r w' => r = .returned (.bool (l.any (Sc.badN T))) ∧ Kp 0 0 w w' := by
  have HI := Lib.hid (index_need T fo l w ao hv hr hB)
  clear hv hr hB
  go_enter Tryd.func34, Tryd.ntmps34
  go_wp2_with fail
  refine HI.out.mono ?_
  rintro r w2 ⟨x, rfl, hk, hx⟩
  have HK := Lib.hid hk
  clear hk
  rcases hx with ⟨rfl, hx⟩ | ⟨h0, hx⟩
  · have HX := Lib.hid hx
    clear hx
    go_wp2_with fail
    go_returns
    exact ⟨by rw [HX.out]; rfl, HK.out⟩
  · have HX := Lib.hid hx
    clear hx
    go_wp2_with fail
    go_returns
    exact ⟨by rw [HX.out]; rfl, HK.out⟩

theorem manyF_in (f : Fl) : Sc.manyF f = !Sc.inS (Sc.mvL.getD (Sc.plc f.k) (0, 0)) f.ms.length := by
  unfold Sc.manyF Sc.inS
  by_cases h4 : f.k = 4
  · have e : Sc.mvL.getD (Sc.plc f.k) (0, 0) = (1, 16) := by rw [h4]; rfl
    rw [e, h4]
    by_cases h0 : f.ms.length = 0
    · simp [h0]
    · by_cases h16 : 16 < f.ms.length
      · have : ¬ (1 ≤ (f.ms.length : Int) ∧ (f.ms.length : Int) ≤ 16) := by omega
        simp [h0, h16, this]
      · have : 1 ≤ (f.ms.length : Int) ∧ (f.ms.length : Int) ≤ 16 := by omega
        simp [h0, h16, this]
  · have e : Sc.mvL.getD (Sc.plc f.k) (0, 0) = (0, 0) := by
      by_cases h : f.k < 1 ∨ 4 < f.k
      · rw [Sc.plc, if_pos h]
        rfl
      · have : f.k = 1 ∨ f.k = 2 ∨ f.k = 3 := by omega
        rcases this with h | h | h <;> rw [h] <;> rfl
    rw [e]
    by_cases h0 : f.ms.length = 0
    · simp [h0, h4]
    · have : ¬ ((0 : Int) ≤ (f.ms.length : Int) ∧ (f.ms.length : Int) ≤ 0) := by omega
      simp [h0, h4, this]

set_option maxHeartbeats 2000000 in
/-- miscounted's own: a field has more moves than there may be, or fewer. -/
theorem mc1_any (f : Fl) (w : World) (mo : Option Addr) (mc : Nat) (hl : f.ms.length ≤ 9223372036854775807) (ht : STabs w) :
    Calls Tryd.prog 40 #[.agg #[.int .i64 f.k, .int .i64 f.p, .bool f.b, .slice mo f.ms.length mc]] w fun r w' => r = .returned (.bool (Sc.manyF f)) ∧ Kp 0 0 w w' := by
  rw [manyF_in]
  have HP := Lib.hid (place_any f.k)
  obtain ⟨t1, t2⟩ := ht.mv (Sc.plc f.k) (Sc.plc_lt _)
  have hp5 := Sc.plc_lt f.k
  clear ht
  generalize Sc.plc f.k = p at HP t1 t2 hp5 ⊢
  generalize Sc.mvL.getD p (0, 0) = s at t1 t2 ⊢
  have p0 : (0 : Int) ≤ (p : Int) := Int.natCast_nonneg _
  have p5 : (p : Int) < 5 := by omega
  have hq := blk_one w (.cells #[.int .i64 f.k, .int .i64 f.p, .bool f.b, .slice mo f.ms.length mc] 33)
  have HK : Hid (Kp 0 0 w (w.alloc (.cells #[.int .i64 f.k, .int .i64 f.p, .bool f.b, .slice mo f.ms.length mc] 33))) := (Kp.refl _ _ _).alloc _
  have HFX : Hid (∀ W, Kp 0 0 (w.alloc (.cells #[.int .i64 f.k, .int .i64 f.p, .bool f.b, .slice mo f.ms.length mc] 33)) W → W.cell? ⟨w.heap.size, 0, none⟩ = some (.int .i64 f.k) ∧ W.cell? ⟨w.heap.size, 3, none⟩ = some (.slice mo f.ms.length mc) ∧ W.cell? ⟨3, p * 2, none⟩ = some (.int .i64 s.1) ∧ W.cell? ⟨3, p * 2 + 1, none⟩ = some (.int .i64 s.2)) := fun W hW =>
    ⟨blk_cell (hW.heap hq (.inr (Nat.zero_le _))) rfl, blk_cell (hW.heap hq (.inr (Nat.zero_le _))) rfl, (HK.out.trans hW).cell t1 (.inr (Nat.zero_le _)), (HK.out.trans hW).cell t2 (.inr (Nat.zero_le _))⟩
  clear hq t1 t2
  go_enter Tryd.func40, Tryd.ntmps40
  go_wp2_with fail
  generalize w.alloc (.cells #[.int .i64 f.k, .int .i64 f.p, .bool f.b, .slice mo f.ms.length mc] 33) = w1 at HK HFX ⊢
  generalize w.heap.size = q at HFX ⊢
  obtain ⟨c0, c3, t1, t2⟩ := HFX.out w1 (Kp.refl _ _ _)
  have hk1 : Kp 0 0 w1 w1.drew := (Kp.refl 0 0 w1).drew
  have HSS : Hid (∀ n W, Calls Tryd.prog 30 #[.agg #[.int .i64 s.1, .int .i64 s.2], .int .i64 n] W fun r w' => r = .returned (.bool (Sc.inS s n)) ∧ Kp 0 0 W w') := fun n W => has_any s n W
  go_region_law (first
    | (go_simp; go_at_call 29
       refine (HP.out _).mono ?_
       rintro r w2 ⟨rfl, rfl⟩)
    | (go_simp; go_at_call 30
       refine (HSS.out _ _).mono ?_
       rintro r w3 ⟨rfl, hk3⟩))
  all_goals
    have HK3 := Lib.hid (HK.out.trans (hk1.trans hk3))
    go_wp2_with fail
    go_returns
    exact ⟨rfl, HK3.out⟩

set_option maxHeartbeats 1000000 in
/-- slices.IndexFunc over 'miscounted$1': a place, or -1. -/
theorem index_mc1 {S : Nat → Prop} {c : Nat} (l : List Fl) (w : World) (ao : Option Addr) (hv : RdS flE 4 w S (.slice ao l.length c) l) (ht : STabs w) :
    Calls Tryd.prog 42 #[.slice ao l.length c, .func (.func 40) #[] #[]] w fun r w' => ∃ x : Int, r = .returned (.int .i64 x) ∧ Kp 0 0 w w' ∧ ((x = -1 ∧ l.any Sc.manyF = false) ∨ (0 ≤ x ∧ l.any Sc.manyF = true)) := by
  obtain ⟨_, _, he, _, hl2, _⟩ := hv.open
  have hl2 : l.length ≤ 9223372036854775807 := by omega
  have HCL := Lib.hid hv.cl
  clear hv he
  have HT := Lib.hid ht
  clear ht
  go_enter Tryd.func42, Tryd.ntmps42
  go_wp2_with fail
  go_loopw [5, 8] (fun _ i wr => ∃ k : Nat, k ≤ l.length ∧ i = .int .i64 k ∧ Hid (Sc.None Sc.manyF l k) ∧ Kp 0 0 w wr) (fun _ i _ => l.length - (intOf i).toNat)
  case atStart => exact ⟨0, Nat.zero_le _, rfl, Sc.None.zero _ _, Kp.refl _ _ _⟩
  case round =>
    obtain ⟨k, hk, rfl, HALL, hkp⟩ := hrel
    have HKP := Lib.hid hkp
    clear hkp
    by_cases hlt : k < l.length
    · obtain ⟨m, hm⟩ : ∃ m, l[k]? = some m := ⟨_, List.getElem?_eq_getElem hlt⟩
      have HNX : Hid (Sc.manyF m = false → Sc.None Sc.manyF l (k + 1)) := fun h => HALL.out.step hm h
      have HST : Hid (Sc.manyF m = true → l.any Sc.manyF = true) := fun h => Sc.any_stop hm h
      obtain ⟨b1, o1, mo, mc, rfl, _, c0, c1, c2, c3, hm1, hm2, hms⟩ := fl_at HCL.out hm
      have c0 := HKP.out.cell c0 (.inr (Nat.zero_le _))
      have c1 := HKP.out.cell c1 (.inr (Nat.zero_le _))
      have c2 := HKP.out.cell c2 (.inr (Nat.zero_le _))
      have c3 := HKP.out.cell c3 (.inr (Nat.zero_le _))
      have HTB := Lib.hid (HT.out.keep HKP.out)
      have HML : Hid (m.ms.length ≤ 9223372036854775807) := by show _ ≤ _; omega
      clear hms
      have k0 : (0 : Int) ≤ (k : Int) := Int.natCast_nonneg _
      have k1 : (k : Int) < (l.length : Int) := by omega
      clear hm
      cases hb : Sc.manyF m with
      | true =>
        have HB := Lib.hid (HST.out hb)
        go_wp2_with fail
        refine (mc1_any m _ _ _ HML.out HTB.out).mono ?_
        rintro r w2 ⟨rfl, hk2⟩
        have HK2 := Lib.hid (HKP.out.trans hk2)
        clear hk2
        rw [hb]
        go_wp2_with fail
        go_returns
        exact ⟨k, rfl, HK2.out, .inr ⟨by omega, HB.out⟩⟩
      | false =>
        have HB := Lib.hid (HNX.out hb)
        go_wp2_with fail
        refine (mc1_any m _ _ _ HML.out HTB.out).mono ?_
        rintro r w2 ⟨rfl, hk2⟩
        have HK2 := Lib.hid (HKP.out.trans hk2)
        clear hk2
        rw [hb]
        go_wp2_with fail
        go_roundw
        case rel => exact ⟨k + 1, by omega, by go_num, HB.out, HK2.out⟩
        case measure => simp [intOf]; omega
    · obtain rfl : k = l.length := by omega
      have HB := Lib.hid HALL.out.done
      go_wp2_with fail
      go_returns
      exact ⟨-1, rfl, HKP.out, .inl ⟨rfl, HB.out⟩⟩

/-- slices.ContainsFunc over it. -/
theorem some_mc1 {S : Nat → Prop} {c : Nat} (l : List Fl) (w : World) (ao : Option Addr) (hv : RdS flE 4 w S (.slice ao l.length c) l) (ht : STabs w) :
    Calls Tryd.prog 39 #[.slice ao l.length c, .func (.func 40) #[] #[]] w fun r w' => r = .returned (.bool (l.any Sc.manyF)) ∧ Kp 0 0 w w' := by
  have HI := Lib.hid (index_mc1 l w ao hv ht)
  clear hv ht
  go_enter Tryd.func39, Tryd.ntmps39
  go_wp2_with fail
  refine HI.out.mono ?_
  rintro r w2 ⟨x, rfl, hk, hx⟩
  have HK := Lib.hid hk
  clear hk
  rcases hx with ⟨rfl, hx⟩ | ⟨h0, hx⟩
  · have HX := Lib.hid hx
    clear hx
    go_wp2_with fail
    go_returns
    exact ⟨by rw [HX.out]; rfl, HK.out⟩
  · have HX := Lib.hid hx
    clear hx
    go_wp2_with fail
    go_returns
    exact ⟨by rw [HX.out]; rfl, HK.out⟩

set_option maxHeartbeats 1000000 in
/-- miscounted: a type, or a field of it, has more than there may be, or fewer. -/
theorem mc_any {S : Nat → Prop} {fc : Nat} (T : List Fl) (w : World) (fo : Option Addr) (hr : RdS flE 4 w S (.slice fo T.length fc) T) (ht : STabs w) :
    Calls Tryd.prog 33 #[.agg #[.slice fo T.length fc]] w fun r w' => r = .returned (.bool (Sc.manyT T)) ∧ Kp 0 0 w w' := by
  have HR := Lib.hid hr
  have HT := Lib.hid ht
  have hl : T.length ≤ 9223372036854775807 := by
    obtain ⟨_, _, he, h1, h2, _⟩ := hr.open
    omega
  have HK : Hid (Kp 0 0 w ((w.alloc (.cells #[.slice fo T.length fc] 45)).alloc (.cells #[.int .i64 1, .int .i64 8] 58))) := ((Kp.refl _ _ _).alloc _).alloc _
  have HQ := Lib.hid (blk_old (blk_one w (.cells #[.slice fo T.length fc] 45)) (.cells #[.int .i64 1, .int .i64 8] 58))
  clear hr ht
  by_cases h : 1 ≤ (T.length : Int) ∧ (T.length : Int) ≤ 8
  · have HS : Hid (Sc.inS (1, 8) T.length = true) := by show _ = _; simpa [Sc.inS] using h
    have HG : Hid (Sc.manyT T = T.any Sc.manyF) := by
      show _ = _
      unfold Sc.manyT
      have h1 : ¬ T.length = 0 := by omega
      have h2 : ¬ 8 < T.length := by omega
      simp [h1, h2]
    rw [HG.out]
    clear h HG
    go_enter Tryd.func33, Tryd.ntmps33
    go_wp2_with fail
    refine (has_any (1, 8) _ _).mono ?_
    rintro r w2 ⟨rfl, hk2⟩
    rw [HS.out]
    have HK2 := Lib.hid (HK.out.trans hk2)
    have c0 := blk_cell (hk2.heap HQ.out (.inr (Nat.zero_le _))) (k := 0) (u := .slice fo T.length fc) rfl
    clear hk2
    go_wp2_with fail
    refine (some_mc1 T _ fo (HR.out.keep0 flE_good HK2.out) (HT.out.keep HK2.out)).mono ?_
    rintro r w3 ⟨rfl, hk3⟩
    go_wp2_with fail
    go_returns
    exact ⟨rfl, HK2.out.trans hk3⟩
  · have HS : Hid (Sc.inS (1, 8) T.length = false) := by show _ = _; simpa [Sc.inS] using h
    have HG : Hid (Sc.manyT T = true) := by
      show _ = _
      unfold Sc.manyT
      by_cases h1 : T.length = 0
      · simp [h1]
      · have h2 : 8 < T.length := by omega
        simp [h2]
    rw [HG.out]
    clear h HG
    go_enter Tryd.func33, Tryd.ntmps33
    go_wp2_with fail
    refine (has_any (1, 8) _ _).mono ?_
    rintro r w2 ⟨rfl, hk2⟩
    rw [HS.out]
    go_wp2_with fail
    go_returns
    exact ⟨rfl, HK.out.trans hk2⟩

set_option maxHeartbeats 1000000 in
/-- slices.IndexFunc over 'miscounted': a place, or -1. -/
theorem index_mc {S : Nat → Prop} {c : Nat} (l : List (List Fl)) (w : World) (ao : Option Addr) (hv : RdS tyE 1 w S (.slice ao l.length c) l) (ht : STabs w) :
    Calls Tryd.prog 38 #[.slice ao l.length c, .func (.func 33) #[] #[]] w fun r w' => ∃ x : Int, r = .returned (.int .i64 x) ∧ Kp 0 0 w w' ∧ ((x = -1 ∧ l.any Sc.manyT = false) ∨ (0 ≤ x ∧ l.any Sc.manyT = true)) := by
  obtain ⟨_, _, he, _, hl2, _⟩ := hv.open
  have hl2 : l.length ≤ 9223372036854775807 := by omega
  have HCL := Lib.hid hv.cl
  clear hv he
  have HT := Lib.hid ht
  clear ht
  go_enter Tryd.func38, Tryd.ntmps38
  go_wp2_with fail
  go_loopw [5, 8] (fun _ i wr => ∃ k : Nat, k ≤ l.length ∧ i = .int .i64 k ∧ Hid (Sc.None Sc.manyT l k) ∧ Kp 0 0 w wr) (fun _ i _ => l.length - (intOf i).toNat)
  case atStart => exact ⟨0, Nat.zero_le _, rfl, Sc.None.zero _ _, Kp.refl _ _ _⟩
  case round =>
    obtain ⟨k, hk, rfl, HALL, hkp⟩ := hrel
    have HKP := Lib.hid hkp
    clear hkp
    by_cases hlt : k < l.length
    · obtain ⟨m, hm⟩ : ∃ m, l[k]? = some m := ⟨_, List.getElem?_eq_getElem hlt⟩
      have HNX : Hid (Sc.manyT m = false → Sc.None Sc.manyT l (k + 1)) := fun h => HALL.out.step hm h
      have HST : Hid (Sc.manyT m = true → l.any Sc.manyT = true) := fun h => Sc.any_stop hm h
      obtain ⟨b1, o1, mo, mc, rfl, _, c0, hm1, hm2, hms⟩ := ty_at HCL.out hm
      have c0 := HKP.out.cell c0 (.inr (Nat.zero_le _))
      have HTB := Lib.hid (HT.out.keep HKP.out)
      have HMS := Lib.hid (hms.keep0 flE_good HKP.out)
      clear hms
      have k0 : (0 : Int) ≤ (k : Int) := Int.natCast_nonneg _
      have k1 : (k : Int) < (l.length : Int) := by omega
      clear hm
      cases hb : Sc.manyT m with
      | true =>
        have HB := Lib.hid (HST.out hb)
        go_wp2_with fail
        refine (mc_any m _ _ HMS.out HTB.out).mono ?_
        rintro r w2 ⟨rfl, hk2⟩
        have HK2 := Lib.hid (HKP.out.trans hk2)
        clear hk2
        rw [hb]
        go_wp2_with fail
        go_returns
        exact ⟨k, rfl, HK2.out, .inr ⟨by omega, HB.out⟩⟩
      | false =>
        have HB := Lib.hid (HNX.out hb)
        go_wp2_with fail
        refine (mc_any m _ _ HMS.out HTB.out).mono ?_
        rintro r w2 ⟨rfl, hk2⟩
        have HK2 := Lib.hid (HKP.out.trans hk2)
        clear hk2
        rw [hb]
        go_wp2_with fail
        go_roundw
        case rel => exact ⟨k + 1, by omega, by go_num, HB.out, HK2.out⟩
        case measure => simp [intOf]; omega
    · obtain rfl : k = l.length := by omega
      have HB := Lib.hid HALL.out.done
      go_wp2_with fail
      go_returns
      exact ⟨-1, rfl, HKP.out, .inl ⟨rfl, HB.out⟩⟩

/-- slices.ContainsFunc over it. -/
theorem some_mc {S : Nat → Prop} {c : Nat} (l : List (List Fl)) (w : World) (ao : Option Addr) (hv : RdS tyE 1 w S (.slice ao l.length c) l) (ht : STabs w) :
    Calls Tryd.prog 32 #[.slice ao l.length c, .func (.func 33) #[] #[]] w fun r w' => r = .returned (.bool (l.any Sc.manyT)) ∧ Kp 0 0 w w' := by
  have HI := Lib.hid (index_mc l w ao hv ht)
  clear hv ht
  go_enter Tryd.func32, Tryd.ntmps32
  go_wp2_with fail
  refine HI.out.mono ?_
  rintro r w2 ⟨x, rfl, hk, hx⟩
  have HK := Lib.hid hk
  clear hk
  rcases hx with ⟨rfl, hx⟩ | ⟨h0, hx⟩
  · have HX := Lib.hid hx
    clear hx
    go_wp2_with fail
    go_returns
    exact ⟨by rw [HX.out]; rfl, HK.out⟩
  · have HX := Lib.hid hx
    clear hx
    go_wp2_with fail
    go_returns
    exact ⟨by rw [HX.out]; rfl, HK.out⟩

end Go.Proofs.YtdgeehcfdnokmaaDoor
