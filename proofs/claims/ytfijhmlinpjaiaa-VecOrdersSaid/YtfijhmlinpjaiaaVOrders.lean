/-
  VecOrders as a contract.
-/
import Derived.Test.YtfijhmlinpjaiaaVMost
import Derived.Deep.QuietTactic
import Derived.Deep.RegionWith
import Derived.Lib.MinMax
namespace Go.Proofs.Ytfijhmlinpjaiaa
open Go.RowKit

theorem turned_eq (a b : List Int) : ∃ H : Nat, V.cmp a b = (H : Int) ∧ H ≤ 3 ∧ V.cmp b a = ([0, 2, 1, 3] : List Int).getD H 0 ∧ (V.leB a b = decide (H = 0 ∨ H = 1)) := by
  rcases V.cmp_cases a b with ⟨h, h1, h2⟩ | ⟨h, h1, h2⟩ | ⟨h, h1, h2⟩ | ⟨h, h1, h2⟩
  · exact ⟨0, h, by decide, V.cmp_same h2 h1, by simp [V.leB_iff.2 h1]⟩
  · exact ⟨1, h, by decide, V.cmp_more h2 h1, by simp [V.leB_iff.2 h1]⟩
  · exact ⟨2, h, by decide, V.cmp_less h2 h1, by simp [V.leB_false.2 h1]⟩
  · exact ⟨3, h, by decide, V.cmp_apart h2 h1, by simp [V.leB_false.2 h1]⟩

set_option maxRecDepth 100000 in
set_option maxHeartbeats 4000000 in
theorem vorders_any (HG : GetOk) (HC : CmpOk) (HJ : JoinOk) (HS : SumOk) {l1 h1 l2 h2 l3 h3 : Nat} (a b c : List Int) (w : World) (va vb vc : Value) (ha : RdI .i64 l1 h1 w va a) (hb : RdI .i64 l2 h2 w vb b) (hc : RdI .i64 l3 h3 w vc c) (ia : V.I64 a) (ib : V.I64 b) (ic : V.I64 c) :
    Calls Try.prog 5 #[va, vb, vc] w fun e w' => e = .returned (.bool true) ∧ Kp 0 0 w w' := by
  have HA := Lib.hid ha
  have HB := Lib.hid hb
  have HCC := Lib.hid hc
  have IA := Lib.hid ia
  have IB := Lib.hid ib
  have IC := Lib.hid ic
  obtain ⟨ao, ca, rfl, ha1, ha2, _⟩ := ha.open
  obtain ⟨bo, cb, rfl, hb1, hb2, _⟩ := hb.open
  obtain ⟨co, cc, rfl, hc1, hc2, _⟩ := hc.open
  clear ha hb hc ia ib ic
  by_cases h2a : 200 < a.length
  · go_enter Try.func5, Try.ntmps5
    go_wp2_with fail
    refine (works_any HC HJ HS w).mono ?_
    rintro e w1 ⟨rfl, hk⟩
    go_wp2_with fail
    go_returns
    exact ⟨rfl, hk⟩
  by_cases h2b : 200 < b.length
  · go_enter Try.func5, Try.ntmps5
    go_wp2_with fail
    refine (works_any HC HJ HS w).mono ?_
    rintro e w1 ⟨rfl, hk⟩
    go_wp2_with fail
    go_returns
    exact ⟨rfl, hk⟩
  by_cases h2c : 200 < c.length
  · go_enter Try.func5, Try.ntmps5
    go_wp2_with fail
    refine (works_any HC HJ HS w).mono ?_
    rintro e w1 ⟨rfl, hk⟩
    go_wp2_with fail
    go_returns
    exact ⟨rfl, hk⟩
  obtain ⟨H, eH, hH, eT, eX⟩ := turned_eq a b
  have hz : V.leB a b = true → V.leB b c = true → V.leB a c = true := fun h1 h2 => V.leB_iff.2 (V.le_trans (V.leB_iff.1 h1) (V.leB_iff.1 h2))
  go_enter Try.func5, Try.ntmps5
  go_wp2_with fail
  have d1 : decide ((200 : Int) < (a.length : Int)) = false := decide_eq_false (by omega)
  have d2 : decide ((200 : Int) < (b.length : Int)) = false := decide_eq_false (by omega)
  have d3 : decide ((200 : Int) < (c.length : Int)) = false := decide_eq_false (by omega)
  try rw [d1, d2, d3]
  clear d1 d2 d3
  have HK1 : Hid (Kp 0 0 w (w.alloc (.cells #[.int .i64 0, .int .i64 2, .int .i64 1, .int .i64 3] 3))) := (Kp.refl _ _ _).alloc _
  have cT : (w.alloc (.cells #[.int .i64 0, .int .i64 2, .int .i64 1, .int .i64 3] 3)).cell? ⟨w.heap.size, H, none⟩ = some (.int .i64 (([0, 2, 1, 3] : List Int).getD H 0)) := by
    have : H = 0 ∨ H = 1 ∨ H = 2 ∨ H = 3 := by omega
    rcases this with rfl | rfl | rfl | rfl <;> simp
  generalize w.alloc (.cells #[.int .i64 0, .int .i64 2, .int .i64 1, .int .i64 3] 3) = w1 at HK1 cT ⊢
  generalize w.heap.size = pt at cT ⊢
  have hm := HC _ _ _ _ a b w1 _ _ (HA.out.keep0 HK1.out) (HB.out.keep0 HK1.out) IA.out IB.out (by omega) (by omega)
  rw [eH] at hm
  refine hm.mono ?_
  clear hm
  rintro e w2 ⟨rfl, hq⟩
  have hk := hq.kp
  have cT := hk.cell cT (.inr (Nat.zero_le _))
  have HK2 := Lib.hid (HK1.out.trans hk)
  clear hk hq
  generalize ([0, 2, 1, 3] : List Int).getD H 0 = TT at *
  have H0 : (0 : Int) ≤ (H : Int) := Int.natCast_nonneg _
  have H3 : (H : Int) ≤ 3 := by omega
  have H4 : (H : Int) < 4 := by omega
  have htt : (TT != TT) = false := by simp
  have HBA : Hid (∀ n, Calls Try.prog 16 #[.slice bo b.length cb, .slice ao a.length ca] (w2.drewN n) fun e w' => e = .returned (.int .i64 TT) ∧ ∃ m, w' = (w2.drewN n).drewN m) := fun n => by
    have h := HC _ _ _ _ b a (w2.drewN n) _ _ (HB.out.keep0 (HK2.out.drewN n)) (HA.out.keep0 (HK2.out.drewN n)) IB.out IA.out (by omega) (by omega)
    rw [eT] at h
    exact h
  have HAA : Hid (∀ n, Calls Try.prog 16 #[.slice ao a.length ca, .slice ao a.length ca] (w2.drewN n) fun e w' => e = .returned (.int .i64 0) ∧ ∃ m, w' = (w2.drewN n).drewN m) := fun n => by
    have h := HC _ _ _ _ a a (w2.drewN n) _ _ (HA.out.keep0 (HK2.out.drewN n)) (HA.out.keep0 (HK2.out.drewN n)) IA.out IA.out (by omega) (by omega)
    rw [V.cmp_self] at h
    exact h
  have MAB : Hid (∀ n, Calls Try.prog 22 #[.slice ao a.length ca, .slice bo b.length cb] (w2.drewN n) fun e w' => e = .returned (.bool (V.leB a b)) ∧ ∃ m, w' = (w2.drewN n).drewN m) := fun n =>
    atMost_any HC a b (w2.drewN n) _ _ (HA.out.keep0 (HK2.out.drewN n)) (HB.out.keep0 (HK2.out.drewN n)) IA.out IB.out (by omega) (by omega)
  have MBC : Hid (∀ n, Calls Try.prog 22 #[.slice bo b.length cb, .slice co c.length cc] (w2.drewN n) fun e w' => e = .returned (.bool (V.leB b c)) ∧ ∃ m, w' = (w2.drewN n).drewN m) := fun n =>
    atMost_any HC b c (w2.drewN n) _ _ (HB.out.keep0 (HK2.out.drewN n)) (HCC.out.keep0 (HK2.out.drewN n)) IB.out IC.out (by omega) (by omega)
  have MAC : Hid (∀ n, Calls Try.prog 22 #[.slice ao a.length ca, .slice co c.length cc] (w2.drewN n) fun e w' => e = .returned (.bool (V.leB a c)) ∧ ∃ m, w' = (w2.drewN n).drewN m) := fun n =>
    atMost_any HC a c (w2.drewN n) _ _ (HA.out.keep0 (HK2.out.drewN n)) (HCC.out.keep0 (HK2.out.drewN n)) IA.out IC.out (by omega) (by omega)
  have HSM : Hid (H = 0 → ∀ i, V.ent a i = V.ent b i) := fun h i => by
    have := V.cmp_cases a b
    have h1 : V.le a b ∧ V.le b a := by
      rcases this with h2 | h2 | h2 | h2 <;> first | exact h2.2 | (exfalso; omega)
    have := h1.1 i
    have := h1.2 i
    omega
  have HLS : Hid (H = 1 → ∀ i, V.ent a i ≤ V.ent b i) := fun h i => by
    have := V.cmp_cases a b
    have h1 : V.le a b := by
      rcases this with h2 | h2 | h2 | h2 <;> first | exact h2.2.1 | (exfalso; omega)
    exact h1 i
  have hmax : ∀ (ts : Array TypeId) (ty : TypeId) (W : World), (Builtin.max_ ts ty #[.int .i64 (a.length : Int), .int .i64 (b.length : Int)]).run Try.prog W = .ok (.int .i64 ((max a.length b.length : Nat) : Int)) W := fun ts ty W => by
    rw [Lib.run_max_ints]
    congr 2
    omega
  have hM : max a.length b.length ≤ 200 := by omega
  generalize max a.length b.length = M at *
  have HGA : Hid (∀ (i : Nat) W, i < M → Kp 0 0 w W → Calls Try.prog 18 #[.slice ao a.length ca, .int .i64 (i : Int)] W fun e w' => e = .returned (.int .i64 (V.ent a i)) ∧ Kp 0 0 w w') := fun i W hi hW => by
    have h := HG _ _ a (i : Int) W _ (HA.out.keep0 hW) IA.out ⟨by omega, by omega⟩ (by omega)
    rw [V.get_nat] at h
    exact h.mono fun e w' h => ⟨h.1, hW.trans h.2.kp⟩
  have HGB : Hid (∀ (i : Nat) W, i < M → Kp 0 0 w W → Calls Try.prog 18 #[.slice bo b.length cb, .int .i64 (i : Int)] W fun e w' => e = .returned (.int .i64 (V.ent b i)) ∧ Kp 0 0 w w') := fun i W hi hW => by
    have h := HG _ _ b (i : Int) W _ (HB.out.keep0 hW) IB.out ⟨by omega, by omega⟩ (by omega)
    rw [V.get_nat] at h
    exact h.mono fun e w' h => ⟨h.1, hW.trans h.2.kp⟩
  have hhh : H = 0 ∨ H = 1 ∨ (H ≠ 0 ∧ H ≠ 1) := by omega
  have HHH := Lib.hid hhh
  clear hhh
  clear eH eT eX
  generalize V.leB a b = x at *
  generalize V.leB b c = y at *
  generalize V.leB a c = z at *
  have hxyz : x = false ∨ (x = true ∧ y = false) ∨ (x = true ∧ y = true ∧ z = true) := by
    cases x <;> cases y <;> simp_all
  clear hz
  rcases hxyz with rfl | ⟨rfl, rfl⟩ | ⟨rfl, rfl, rfl⟩
  all_goals
    go_wp2_with fail
    go_quiet ((first
      | (go_at_call_of 16 bo; refine Calls.quiet_of (HBA.out _))
      | (go_at_call_of 16 ao; refine Calls.quiet_of (HAA.out _))
      | (go_at_call_of 22 ao; go_at_call_of 22 bo; refine Calls.quiet_of (MAB.out _))
      | (go_at_call_of 22 bo; refine Calls.quiet_of (MBC.out _))
      | (go_at_call_of 22 ao; refine Calls.quiet_of (MAC.out _))))
    have HK3 : Hid (Kp 0 0 w (w2.drewN nq)) := HK2.out.drewN _
    go_wp2_with fail
    go_loopw [9] (fun i wr => ∃ k : Nat, k ≤ M ∧ i = .int .i64 k ∧ Kp 0 0 w wr) (fun i _ => M - (intOf i).toNat)
    case atStart => exact ⟨0, Nat.zero_le _, rfl, HK3.out⟩
    case round =>
      obtain ⟨k, hk, rfl, hkp⟩ := hrel
      have HKP := Lib.hid hkp
      clear hkp
      by_cases hlt : k < M
      · rcases HHH.out with h0 | h1 | ⟨h0, h1⟩
        · have e0 : ((H : Int) == 0) = true := by rw [h0]; rfl
          have e1 : ((H : Int) == 1) = false := by rw [h0]; rfl
          have HE := Lib.hid (HSM.out h0 k)
          clear h0
          go_wp2_with fail
          refine (HGA.out k _ hlt HKP.out).mono ?_
          rintro e w4 ⟨rfl, hk4⟩
          have HK4 := Lib.hid hk4
          clear hk4
          go_wp2_with fail
          refine (HGB.out k _ hlt HK4.out).mono ?_
          rintro e w5 ⟨rfl, hk5⟩
          have HK5 := Lib.hid hk5
          clear hk5
          rw [HE.out]
          generalize V.ent b k = z5
          have hzz : (z5 != z5) = false := by simp
          go_wp2_with fail
          go_roundw
          case rel => exact ⟨k + 1, by omega, by go_num, HK5.out⟩
          case measure => simp [intOf]; omega
        · have e0 : ((H : Int) == 0) = false := by rw [h1]; rfl
          have e1 : ((H : Int) == 1) = true := by rw [h1]; rfl
          have HE := Lib.hid (HLS.out h1 k)
          clear h1
          go_wp2_with fail
          refine (HGA.out k _ hlt HKP.out).mono ?_
          rintro e w4 ⟨rfl, hk4⟩
          have HK4 := Lib.hid hk4
          clear hk4
          go_wp2_with fail
          refine (HGB.out k _ hlt HK4.out).mono ?_
          rintro e w5 ⟨rfl, hk5⟩
          have HK5 := Lib.hid hk5
          clear hk5
          have hle := HE.out
          generalize V.ent b k = z5 at hle ⊢
          generalize V.ent a k = z4 at hle ⊢
          have hnl : ¬ z5 < z4 := by omega
          go_wp2_with fail
          go_roundw
          case rel => exact ⟨k + 1, by omega, by go_num, HK5.out⟩
          case measure => simp [intOf]; omega
        · have e0 : ((H : Int) == 0) = false := beq_eq_false_iff_ne.2 (by omega)
          have e1 : ((H : Int) == 1) = false := beq_eq_false_iff_ne.2 (by omega)
          clear h0 h1
          go_wp2_with fail
          go_roundw
          case rel => exact ⟨k + 1, by omega, by go_num, HKP.out⟩
          case measure => simp [intOf]; omega
      · obtain rfl : k = M := by omega
        go_wp2_with fail
        refine (works_any HC HJ HS _).mono ?_
        rintro e w6 ⟨rfl, hk6⟩
        have HK6 := Lib.hid (HKP.out.trans hk6)
        clear hk6
        go_wp2_with fail
        go_returns
        exact ⟨rfl, HK6.out⟩

end Go.Proofs.Ytfijhmlinpjaiaa
