/-
  The document's answer for package schema: kind, many.
-/
import Derived.Shelf.SlSortCmp.QuietGrown
import Derived.Test.YtdgeehcfdnokmaaDoorScRef
namespace Go.Proofs.YtdgeehcfdnokmaaDoor
open Go.RowKit

/-- A type as an argument. -/
def typeV (tv : Value) : Value := .agg #[tv]

set_option maxHeartbeats 1000000 in
theorem refKind_any {S : Nat → Prop} (t : List Fl) (i : Int) (w : World) (tv : Value) (ht : RdS flE 4 w S tv t) :
    Calls Tryd.prog 28 #[.agg #[tv], .int .i64 i] w fun r w' => r = .returned (.int .i64 (Sc.kind t i)) ∧ Kp 0 0 w w' := by
  obtain ⟨to, tc, rfl, ht1, ht2, htc⟩ := ht.open
  have HTC := Lib.hid htc
  clear ht htc
  by_cases h0 : i < 0
  · have HV := Lib.hid (Sc.kind_out (t := t) (i := i) (.inl h0))
    go_enter Tryd.func28, Tryd.ntmps28
    go_wp2_with fail
    go_returns
    rw [HV.out]
    exact ⟨rfl, (Kp.refl _ _ _).alloc _⟩
  by_cases h1 : (t.length : Int) ≤ i
  · have HV := Lib.hid (Sc.kind_out (t := t) (i := i) (.inr h1))
    have h0 : 0 ≤ i := by omega
    go_enter Tryd.func28, Tryd.ntmps28
    go_wp2_with fail
    go_returns
    rw [HV.out]
    exact ⟨rfl, (Kp.refl _ _ _).alloc _⟩
  obtain ⟨n, rfl⟩ := Int.eq_ofNat_of_zero_le (Int.not_lt.1 h0)
  obtain ⟨f, hf⟩ : ∃ f, t[n]? = some f := ⟨_, List.getElem?_eq_getElem (by omega)⟩
  have HV := Lib.hid (Sc.kind_in hf)
  obtain ⟨b, o, mo, mc, rfl, hb, c0, _, _, _, _⟩ := fl_at HTC.out hf
  have c0 := ((Kp.refl 0 0 w).alloc (.cells #[Value.slice (some ⟨b, o, none⟩) t.length tc] 45)).cell c0 (.inr (Nat.zero_le _))
  have t0 : (0 : Int) ≤ (n : Int) := Int.natCast_nonneg _
  have t1 : (n : Int) < (t.length : Int) := by omega
  clear hf h0 h1
  go_enter Tryd.func28, Tryd.ntmps28
  go_wp2_with fail
  go_returns
  rw [HV.out]
  exact ⟨rfl, (Kp.refl _ _ _).alloc _⟩

theorem alloc_grow (w : World) (o : Obj) : w.alloc o = Go.Sort.grow (w.drewN 0) #[o] := rfl

/-- What grew keeps what was there. -/
theorem Kp.grow {lo hi : Nat} {a w : World} (h : Kp lo hi a w) (n : Nat) (os : Array Obj) : Kp lo hi a (Go.Sort.grow (w.drewN n) os) :=
  h.pure ⟨rfl, rfl, rfl, by simp [Go.Sort.grow], fun k hk _ => by simp [Go.Sort.grow, Array.getElem?_append, hk]⟩

/-- .. and how the world has grown behind it. -/
theorem refKind_grown {S : Nat → Prop} (t : List Fl) (i : Int) (w : World) (tv : Value) (ht : RdS flE 4 w S tv t) :
    Calls Tryd.prog 28 #[.agg #[tv], .int .i64 i] w fun r w' => r = .returned (.int .i64 (Sc.kind t i)) ∧ ∃ q os, w' = Go.Sort.grow (w.drewN q) os := by
  obtain ⟨to, tc, rfl, ht1, ht2, htc⟩ := ht.open
  have HTC := Lib.hid htc
  clear ht htc
  by_cases h0 : i < 0
  · have HV := Lib.hid (Sc.kind_out (t := t) (i := i) (.inl h0))
    go_enter Tryd.func28, Tryd.ntmps28
    go_wp2_with fail
    go_returns
    rw [HV.out]
    exact ⟨rfl, 0, #[_], alloc_grow _ _⟩
  by_cases h1 : (t.length : Int) ≤ i
  · have HV := Lib.hid (Sc.kind_out (t := t) (i := i) (.inr h1))
    have h0 : 0 ≤ i := by omega
    go_enter Tryd.func28, Tryd.ntmps28
    go_wp2_with fail
    go_returns
    rw [HV.out]
    exact ⟨rfl, 0, #[_], alloc_grow _ _⟩
  obtain ⟨n, rfl⟩ := Int.eq_ofNat_of_zero_le (Int.not_lt.1 h0)
  obtain ⟨f, hf⟩ : ∃ f, t[n]? = some f := ⟨_, List.getElem?_eq_getElem (by omega)⟩
  have HV := Lib.hid (Sc.kind_in hf)
  obtain ⟨b, o, mo, mc, rfl, hb, c0, _, _, _, _⟩ := fl_at HTC.out hf
  have c0 := ((Kp.refl 0 0 w).alloc (.cells #[Value.slice (some ⟨b, o, none⟩) t.length tc] 45)).cell c0 (.inr (Nat.zero_le _))
  have t0 : (0 : Int) ≤ (n : Int) := Int.natCast_nonneg _
  have t1 : (n : Int) < (t.length : Int) := by omega
  clear hf h0 h1
  go_enter Tryd.func28, Tryd.ntmps28
  go_wp2_with fail
  go_returns
  rw [HV.out]
  exact ⟨rfl, 0, #[_], alloc_grow _ _⟩

theorem many_parts (d : Dc) : Sc.many d = true ↔ d.ts.length = 0 ∨ 8 < d.ts.length ∨ 8 < d.ps.length ∨ d.ts.any Sc.manyT = true := by
  unfold Sc.many
  simp [or_assoc]

set_option maxHeartbeats 2000000 in
theorem refMany_any {S : Nat → Prop} (d : Dc) (w : World) (tv pv : Value) (hd : RdD w S tv pv d) :
    Calls Tryd.prog 26 #[.agg #[tv, pv]] w fun r w' => r = .returned (.bool (Sc.many d)) ∧ Kp 0 0 w w' := by
  obtain ⟨to, tc, rfl, ht1, ht2, htc⟩ := hd.t.open
  obtain ⟨po, pc, rfl, hp1, hp2, _⟩ := hd.p.open
  have HTC := Lib.hid htc
  clear hd htc
  have HMP := Lib.hid (many_parts d)
  by_cases h0 : d.ts.length = 0
  · have HV : Hid (Sc.many d = true) := HMP.out.2 (.inl h0)
    have e0 : ((d.ts.length : Int) == 0) = true := by rw [h0]; rfl
    clear h0
    go_enter Tryd.func26, Tryd.ntmps26
    go_wp2_with fail
    go_returns
    rw [HV.out]
    exact ⟨rfl, (Kp.refl _ _ _).alloc _⟩
  have e0 : ((d.ts.length : Int) == 0) = false := by
    rw [beq_eq_false_iff_ne]
    omega
  by_cases h1 : 8 < d.ts.length
  · have HV : Hid (Sc.many d = true) := HMP.out.2 (.inr (.inl h1))
    have e1 : (8 : Int) < (d.ts.length : Int) := by omega
    clear h0 h1
    go_enter Tryd.func26, Tryd.ntmps26
    go_wp2_with fail
    go_returns
    rw [HV.out]
    exact ⟨rfl, (Kp.refl _ _ _).alloc _⟩
  have e1 : decide ((8 : Int) < (d.ts.length : Int)) = false := decide_eq_false (by omega)
  by_cases h2 : 8 < d.ps.length
  · have HV : Hid (Sc.many d = true) := HMP.out.2 (.inr (.inr (.inl h2)))
    have e2 : decide ((8 : Int) < (d.ps.length : Int)) = true := decide_eq_true (by omega)
    clear h0 h1 h2
    go_enter Tryd.func26, Tryd.ntmps26
    go_wp2_with fail
    go_returns
    rw [HV.out]
    exact ⟨rfl, (Kp.refl _ _ _).alloc _⟩
  have e2 : decide ((8 : Int) < (d.ps.length : Int)) = false := decide_eq_false (by omega)
  clear h0 h1 h2
  go_enter Tryd.func26, Tryd.ntmps26
  go_wp2_with fail
  have HW1 : Hid (Kp 0 0 w (w.alloc (.cells #[Value.slice to d.ts.length tc, .slice po d.ps.length pc] 25))) := (Kp.refl _ _ _).alloc _
  have HQ := Lib.hid (blk_one w (.cells #[Value.slice to d.ts.length tc, .slice po d.ps.length pc] 25))
  generalize w.alloc (.cells #[Value.slice to d.ts.length tc, .slice po d.ps.length pc] 25) = w1 at HW1 HQ ⊢
  generalize w.heap.size = q at HQ ⊢
  have HT1 := Lib.hid (HTC.out.keep0 tyE_good HW1.out)
  go_loopw [3, 4, 5] (fun i _ _ wr => ∃ k : Nat, k ≤ d.ts.length ∧ i = .int .i64 k ∧ Hid (Sc.None Sc.manyT d.ts k) ∧ Kp 0 0 w1 wr) (fun i _ _ _ => d.ts.length - (intOf i).toNat)
  case atStart => exact ⟨0, Nat.zero_le _, rfl, Sc.None.zero _ _, Kp.refl _ _ _⟩
  case round =>
    obtain ⟨i, hi, rfl, HN, hkp⟩ := hrel
    have HK := Lib.hid hkp
    have q0 := blk_cell (hkp.heap HQ.out (.inr (Nat.zero_le _))) (k := 0) (u := .slice to d.ts.length tc) rfl
    by_cases hlt : i < d.ts.length
    · obtain ⟨T, hT⟩ : ∃ T, d.ts[i]? = some T := ⟨_, List.getElem?_eq_getElem hlt⟩
      obtain ⟨b, o, fo, fc, rfl, hb, c1, hf1, hf2, hf⟩ := ty_at HT1.out hT
      have c1 := hkp.cell c1 (.inr (Nat.zero_le _))
      have HF := Lib.hid hf
      have HTI := Lib.hid hT
      clear hf hT hkp
      have i0 : (0 : Int) ≤ (i : Int) := Int.natCast_nonneg _
      have i1 : (i : Int) < (d.ts.length : Int) := by omega
      have HMT : Hid (Sc.manyT T = (T.length == 0 || decide (8 < T.length) || T.any Sc.manyF)) := rfl
      by_cases t0 : T.length = 0
      · have y0 : ((T.length : Int) == 0) = true := by rw [t0]; rfl
        have HV : Hid (Sc.many d = true) := HMP.out.2 (.inr (.inr (.inr (Sc.any_stop HTI.out (by rw [HMT.out, t0]; rfl)))))
        clear t0
        go_wp2_with fail
        go_returns
        rw [HV.out]
        exact ⟨rfl, HW1.out.trans HK.out⟩
      have y0 : ((T.length : Int) == 0) = false := by
        rw [beq_eq_false_iff_ne]
        omega
      by_cases t1 : 8 < T.length
      · have y1 : decide ((8 : Int) < (T.length : Int)) = true := decide_eq_true (by omega)
        have HV : Hid (Sc.many d = true) := HMP.out.2 (.inr (.inr (.inr (Sc.any_stop HTI.out (by rw [HMT.out, decide_eq_true t1]; simp)))))
        clear t0 t1
        go_wp2_with fail
        go_returns
        rw [HV.out]
        exact ⟨rfl, HW1.out.trans HK.out⟩
      have y1 : decide ((8 : Int) < (T.length : Int)) = false := decide_eq_false (by omega)
      have HM2 : Hid (Sc.manyT T = T.any Sc.manyF) := by
        show _ = _
        rw [HMT.out, decide_eq_false t1]
        have : (T.length == 0) = false := by rw [beq_eq_false_iff_ne]; exact t0
        rw [this]
        rfl
      clear t0 t1 HMT
      go_wp2_with fail
      go_loopw [5] (fun i wr2 => ∃ k : Nat, k ≤ T.length ∧ i = .int .i64 k ∧ Hid (Sc.None Sc.manyF T k) ∧ Eqw wr2 wr) (fun i _ => T.length - (intOf i).toNat)
      case atStart => exact ⟨0, Nat.zero_le _, rfl, Sc.None.zero _ _, Eqw.refl _⟩
      case round =>
        obtain ⟨k, hk, rfl, HN2, HWR⟩ := hrel
        obtain rfl := HWR.out
        by_cases hkt : k < T.length
        · obtain ⟨F, hF⟩ : ∃ F, T[k]? = some F := ⟨_, List.getElem?_eq_getElem hkt⟩
          obtain ⟨b2, o2, mo, mc, rfl, hb2, g0, _, _, g3, hm1, hm2, _⟩ := fl_at HF.out.cl hF
          have g0 := HK.out.cell g0 (.inr (Nat.zero_le _))
          have g3 := HK.out.cell g3 (.inr (Nat.zero_le _))
          have HFI := Lib.hid hF
          have k0 : (0 : Int) ≤ (k : Int) := Int.natCast_nonneg _
          have k1 : (k : Int) < (T.length : Int) := by omega
          have HMF : Hid (Sc.manyF F = ((F.k == 4 && (F.ms.length == 0 || decide (16 < F.ms.length))) || (F.k != 4 && F.ms.length != 0))) := rfl
          have e4 : ((F.ms.length : Int) == 0) = (F.ms.length == 0) := by
            rw [Bool.eq_iff_iff]
            simp
          have e5 : decide ((16 : Int) < (F.ms.length : Int)) = decide (16 < F.ms.length) := by
            rw [decide_eq_decide]
            omega
          have e6 : (F.k != 4) = !(F.k == 4) := rfl
          have e7 : ((F.ms.length : Int) != 0) = !(F.ms.length == 0) := by rw [← e4]; rfl
          have e8 : (F.ms.length != 0) = !(F.ms.length == 0) := rfl
          rw [e6, e8] at HMF
          generalize hx : (F.k == 4) = x at *
          generalize (F.ms.length == 0) = y at *
          generalize decide (16 < F.ms.length) = z at *
          clear hF
          cases x <;> cases y <;> cases z
          all_goals
            go_wp2_with fail
            first
              | (go_roundw
                 case rel => exact ⟨k + 1, by omega, by go_num, HN2.step HFI.out HMF.out, Eqw.refl _⟩
                 case measure => simp [intOf]; omega)
              | (have HV : Hid (Sc.many d = true) := HMP.out.2 (.inr (.inr (.inr (Sc.any_stop HTI.out (by rw [HM2.out]; exact Sc.any_stop HFI.out HMF.out)))))
                 go_returns
                 rw [HV.out]
                 exact ⟨rfl, HW1.out.trans HK.out⟩)
        · obtain rfl : k = T.length := by omega
          have HS := Lib.hid (HN.out.step HTI.out (by rw [HM2.out]; exact HN2.out.done))
          go_wp2_with fail
          go_roundw
          case rel => exact ⟨i + 1, by omega, by go_num, HS, HK.out⟩
          case measure => simp [intOf]; omega
    · obtain rfl : i = d.ts.length := by omega
      have HV : Hid (Sc.many d = false) := by
        show _ = _
        rw [Bool.eq_false_iff]
        intro h
        rcases HMP.out.1 h with h | h | h | h
        · rw [h] at e0; cases e0
        · have := of_decide_eq_false e1; omega
        · have := of_decide_eq_false e2; omega
        · rw [HN.out.done] at h; cases h
      go_wp2_with fail
      go_returns
      rw [HV.out]
      exact ⟨rfl, HW1.out.trans HK.out⟩

end Go.Proofs.YtdgeehcfdnokmaaDoor
