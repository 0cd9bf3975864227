/-
  VecTells as a contract.
-/
import Derived.Test.YtfijhmlinpjaiaaVWorks
import Derived.Test.YtfijhmlinpjaiaaVRef2
import Derived.Deep.RegionHeld3
namespace Go.Proofs.Ytfijhmlinpjaiaa
open Go.RowKit

set_option maxRecDepth 100000 in
set_option maxHeartbeats 4000000 in
theorem vtells_any (HG : GetOk) (HC : CmpOk) (HJ : JoinOk) (HS : SumOk) {l1 h1 l2 h2 : Nat} (a b : List Int) (o : Int) (w : World) (va vb : Value) (ha : RdI .i64 l1 h1 w va a) (hb : RdI .i64 l2 h2 w vb b) (ia : V.I64 a) (ib : V.I64 b) (ho : -9223372036854775808 ≤ o ∧ o ≤ 9223372036854775807) :
    Calls Try.prog 3 #[va, vb, .int .i64 o] w fun e w' => e = .returned (.bool true) ∧ Kp 0 0 w w' := by
  have HA := Lib.hid ha
  have HB := Lib.hid hb
  have IA := Lib.hid ia
  have IB := Lib.hid ib
  obtain ⟨ao, ca, rfl, ha1, ha2, _⟩ := ha.open
  obtain ⟨bo, cb, rfl, hb1, hb2, _⟩ := hb.open
  clear ha hb ia ib
  by_cases h20 : 200 < a.length
  · go_enter Try.func3, Try.ntmps3
    go_wp2_with fail
    refine (works_any HC HJ HS w).mono ?_
    rintro e w1 ⟨rfl, hk⟩
    go_wp2_with fail
    go_returns
    exact ⟨rfl, hk⟩
  by_cases h21 : 200 < b.length
  · go_enter Try.func3, Try.ntmps3
    go_wp2_with fail
    refine (works_any HC HJ HS w).mono ?_
    rintro e w1 ⟨rfl, hk⟩
    go_wp2_with fail
    go_returns
    exact ⟨rfl, hk⟩
  go_enter Try.func3, Try.ntmps3
  go_wp2_with fail
  have d1 : decide ((200 : Int) < (a.length : Int)) = false := decide_eq_false (by omega)
  have d2 : decide ((200 : Int) < (b.length : Int)) = false := decide_eq_false (by omega)
  try rw [d1, d2, Bool.or_false]
  clear d1 d2
  refine (lentI_any w _ a HA.out (by omega)).mono ?_
  rintro e w1 ⟨vx, rfl, hown, hk⟩
  have HX := Lib.hid hown.rd
  have HK1 := Lib.hid hk
  clear hown hk
  obtain ⟨xo, cx, rfl, hx1, hx2, _⟩ := HX.out.open
  have hxl : (a ++ marksI 5).length = a.length + 5 := by rw [List.length_append, marksI_len]
  go_wp2_with fail
  refine (lentI_any w1 _ b (HB.out.keep0 HK1.out) (by omega)).mono ?_
  rintro e w2 ⟨vy, rfl, hown, hk⟩
  have HY := Lib.hid hown.rd
  have HX2 := Lib.hid (HX.out.keep0 hk)
  have HK2 := Lib.hid (HK1.out.trans hk)
  have HSZ : Hid (w1.heap.size ≤ w2.heap.size ∧ w.heap.size ≤ w1.heap.size) := ⟨hk.size, HK1.out.size⟩
  clear hown hk
  obtain ⟨yo, cy, rfl, hy1, hy2, _⟩ := HY.out.open
  have hyl : (b ++ marksI 5).length = b.length + 5 := by rw [List.length_append, marksI_len]
  have HXA : Hid (RdI .i64 w.heap.size w1.heap.size w2 (.slice xo a.length cx) a) := by
    have h := HX2.out.pre (n := a.length) (by omega)
    rwa [List.take_left] at h
  have HYB : Hid (RdI .i64 w1.heap.size w2.heap.size w2 (.slice yo b.length cy) b) := by
    have h := HY.out.pre (n := b.length) (by omega)
    rwa [List.take_left] at h
  rw [hxl] at HX HX2 hx1
  rw [hyl] at HY hy1
  rw [hyl]
  have i1 : (a.length : Int) ≤ (cx : Int) := by omega
  have i2 : (b.length : Int) ≤ (cy : Int) := by omega
  go_wp2_with fail
  have HJN : Hid (∀ W, Kp 0 0 w2 W → Calls Try.prog 11 #[.slice xo a.length cx, .slice yo b.length cy] W fun e w' => ∃ v, e = .returned v ∧ OwnI .i64 3 w2.heap.size w'.heap.size w' v (V.join a b) ∧ Kp 0 0 w2 w') := fun W hW =>
    (HJ _ _ _ _ a b W _ _ (HXA.out.keep0 hW) (HYB.out.keep0 hW) IA.out IB.out (by omega) (by omega)).mono fun e w' h => by
      obtain ⟨v, he, ho, hk⟩ := h
      exact ⟨v, he, ho.wide hW.size (Nat.le_refl _), hW.trans hk⟩
  go_region_held3 (fun w' => Kp 0 0 w2 w')
    (first
      | exact (Kp.refl 0 0 _).drew
      | exact hk7)
    ((first
      | (go_at_call 11
         refine (HJN.out _ (Kp.refl 0 0 _).drew).mono ?_
         rintro e w7 ⟨v7, rfl, hown7, hk7⟩)))
  rename_i hHeld
  have HJO := Lib.hid hown7
  obtain ⟨jo, cj, rfl, hj1, hj2, _⟩ := hown7.rd.open
  have HK3 := Lib.hid (HK2.out.trans hk7)
  have HX3 := Lib.hid (HX2.out.keep0 hk7)
  have HXA3 := Lib.hid (HXA.out.keep0 hk7)
  have HY3 := Lib.hid (HY.out.keep0 hk7)
  have HYB3 := Lib.hid (HYB.out.keep0 hk7)
  have HS23 : Hid (w2.heap.size ≤ w7.heap.size) := hk7.size
  have HS12 : Hid (w1.heap.size ≤ w2.heap.size ∧ w.heap.size ≤ w1.heap.size) := HSZ
  clear hown7 hk7 hHeld HJN
  go_wp2_with fail
  refine (HS _ _ a _ _ HXA3.out IA.out (by omega)).mono ?_
  rintro e w3 ⟨rfl, hq⟩
  have HQ3 := Lib.hid hq
  have HKQ3 := Lib.hid (HK3.out.trans hq.kp)
  clear hq
  go_wp2_with fail
  refine (refSum_any a _ _ (HA.out.keep0 HKQ3.out)).mono ?_
  rintro e w4 ⟨rfl, hq⟩
  have HQ4 := Lib.hid (HQ3.out.trans hq)
  clear hq
  generalize V.sum a = r
  obtain ⟨n, is⟩ := r
  have hnn : (n != n) = false := by simp
  have hii : (is != is) = false := by simp
  have HK4 := Lib.hid (HK3.out.trans HQ4.out.kp)
  have HJ4 : Hid (RdI .i64 w2.heap.size w7.heap.size w4 (.slice jo (V.join a b).length cj) (V.join a b)) := HJO.out.rd.keep0 HQ4.out.kp
  have HRJ : Hid (∀ W, Kp 0 0 w4 W → Calls Try.prog 15 #[.slice ao a.length ca, .slice bo b.length cb] W fun e w' => ∃ o' c', e = .returned (.slice o' (V.join a b).length c') ∧ RdI .i64 0 w'.heap.size w' (.slice o' (V.join a b).length c') (V.join a b) ∧ Kp 0 0 w4 w') := fun W hW =>
    (refJoin_any a b W _ _ (HA.out.keep0 (HK4.out.trans hW)) (HB.out.keep0 (HK4.out.trans hW)) (by omega) (by omega)).mono fun e w' h => by
      obtain ⟨v, he, ho, hk⟩ := h
      obtain ⟨o', c', rfl, _, _, _⟩ := ho.rd.open
      exact ⟨o', c', he, ho.rd.wide (Nat.zero_le _) (Nat.le_refl _), hW.trans hk⟩
  have HSM : Hid (∀ W (v : Value) hi, Kp 0 0 w4 W → RdI .i64 0 hi W v (V.join a b) → Calls Try.prog 14 #[.slice jo (V.join a b).length cj, v] W fun e w' => e = .returned (.bool true) ∧ Kp 0 0 w4 w') := fun W v hi hW hv =>
    (sameI_yes W _ v (V.join a b) (HJ4.out.keep0 hW) hv).mono fun e w' h => ⟨h.1, hW.trans h.2⟩
  have HC1 : Hid (∀ W, Kp 0 0 w4 W → Calls Try.prog 16 #[.slice xo a.length cx, .slice yo b.length cy] W fun e w' => e = .returned (.int .i64 (V.cmp a b)) ∧ Kp 0 0 w4 w') := fun W hW =>
    (HC _ _ _ _ a b W _ _ (HXA3.out.keep0 (HQ4.out.kp.trans hW)) (HYB3.out.keep0 (HQ4.out.kp.trans hW)) IA.out IB.out (by omega) (by omega)).mono fun e w' h => ⟨h.1, hW.trans h.2.kp⟩
  have HC2 : Hid (∀ W, Kp 0 0 w4 W → Calls Try.prog 17 #[.slice ao a.length ca, .slice bo b.length cb] W fun e w' => e = .returned (.int .i64 (V.cmp a b)) ∧ Kp 0 0 w4 w') := fun W hW =>
    (refCmp_any a b W _ _ (HA.out.keep0 (HK4.out.trans hW)) (HB.out.keep0 (HK4.out.trans hW))).mono fun e w' h => ⟨h.1, hW.trans h.2.kp⟩
  have HG1 : Hid (∀ W, Kp 0 0 w4 W → Calls Try.prog 18 #[.slice ao a.length ca, .int .i64 o] W fun e w' => e = .returned (.int .i64 (V.get a o)) ∧ Kp 0 0 w4 w') := fun W hW =>
    (HG _ _ a o W _ (HA.out.keep0 (HK4.out.trans hW)) IA.out ho (by omega)).mono fun e w' h => ⟨h.1, hW.trans h.2.kp⟩
  have HG2 : Hid (∀ W, Kp 0 0 w4 W → Calls Try.prog 19 #[.slice ao a.length ca, .int .i64 o] W fun e w' => e = .returned (.int .i64 (V.get a o)) ∧ Kp 0 0 w4 w') := fun W hW =>
    (refGet_any a o W _ (HA.out.keep0 (HK4.out.trans hW))).mono fun e w' h => ⟨h.1, hW.trans h.2.kp⟩
  have hjl : (V.join a b).length ≤ 200 := by rw [V.join_len]; omega
  generalize V.join a b = jl at *
  generalize V.cmp a b = cm at *
  generalize V.get a o = gt at *
  have hcm : (cm != cm) = false := by simp
  have hgt : (gt != gt) = false := by simp
  go_wp2_with fail
  go_region_held3 (fun w' => Kp 0 0 w4 w')
    (first
      | exact (Kp.refl 0 0 _).drew
      | exact hk8)
    ((first
      | (go_at_call 15
         refine (HRJ.out _ (by first | exact hk8 | exact (Kp.refl 0 0 _).drew)).mono ?_
         rintro e w8 ⟨o8, c8, rfl, hv8, hk8⟩)
      | (go_at_call 14
         refine (HSM.out _ _ _ hk8 hv8).mono ?_
         rintro e w8 ⟨rfl, hk8⟩)
      | (go_at_call 16
         refine (HC1.out _ hk8).mono ?_
         rintro e w8 ⟨rfl, hk8⟩)
      | (go_at_call 17
         refine (HC2.out _ hk8).mono ?_
         rintro e w8 ⟨rfl, hk8⟩)
      | (go_at_call 18
         refine (HG1.out _ hk8).mono ?_
         rintro e w8 ⟨rfl, hk8⟩)
      | (go_at_call 19
         refine (HG2.out _ hk8).mono ?_
         rintro e w8 ⟨rfl, hk8⟩)))
  have HK8 := Lib.hid (HK4.out.trans hk8)
  have HQK := Lib.hid (HQ4.out.kp.trans hk8)
  clear hk8 hv8 HRJ HSM HC1 HC2 HG1 HG2
  go_wp2_with fail
  have HJ8 : Hid (OwnI .i64 3 w2.heap.size w7.heap.size w8 (.slice jo jl.length cj) jl) := HJO.out.keep0 HQK.out
  refine (spoilI_any _ jl w8 HJ8.out (by omega)).mono ?_
  rintro e w9 ⟨rfl, hk⟩
  have HX9 : Hid (RdI .i64 w.heap.size w1.heap.size w9 (.slice xo (a.length + 5) cx) (a ++ marksI 5)) := (HX3.out.keep0 HQK.out).keep hk fun g h1 h2 => .inl (by have := HS12.out; omega)
  have HY9 : Hid (RdI .i64 w1.heap.size w2.heap.size w9 (.slice yo (b.length + 5) cy) (b ++ marksI 5)) := (HY3.out.keep0 HQK.out).keep hk fun g h1 h2 => .inl (by have := HS12.out; omega)
  have HA9 : Hid (RdI .i64 l1 w.heap.size w9 (.slice ao a.length ca) a) := (HA.out.there.keep0 HK8.out).keep hk fun g h1 h2 => .inl (by have := HS12.out; omega)
  have HB9 : Hid (RdI .i64 l2 w.heap.size w9 (.slice bo b.length cb) b) := (HB.out.there.keep0 HK8.out).keep hk fun g h1 h2 => .inl (by have := HS12.out; omega)
  have HK9 : Hid (Kp 0 0 w w9) := HK8.out.step hk fun g h1 h2 => .inl (by have := HS12.out; omega)
  clear hk
  go_wp2_with fail
  refine (keptI_any _ _ _ a HX9.out HA9.out (by omega)).mono ?_
  rintro e w10 ⟨rfl, hk⟩
  have HY10 := Lib.hid (HY9.out.keep0 hk)
  have HB10 := Lib.hid (HB9.out.keep0 hk)
  have HK10 := Lib.hid (HK9.out.trans hk)
  clear hk
  go_wp2_with fail
  refine (keptI_any _ _ _ b HY10.out HB10.out (by omega)).mono ?_
  rintro e w11 ⟨rfl, hk⟩
  have HK11 := Lib.hid (HK10.out.trans hk)
  clear hk
  go_wp2_with fail
  refine (works_any HC HJ HS _).mono ?_
  rintro e w12 ⟨rfl, hk⟩
  have HK12 := Lib.hid (HK11.out.trans hk)
  clear hk
  go_wp2_with fail
  go_returns
  exact ⟨rfl, HK12.out⟩

end Go.Proofs.Ytfijhmlinpjaiaa
