/-
  VecSums as a contract.
-/
import Derived.Test.YtfijhmlinpjaiaaVMost
namespace Go.Proofs.Ytfijhmlinpjaiaa
open Go.RowKit

set_option maxRecDepth 100000 in
set_option maxHeartbeats 1500000 in
theorem vsums_any (HC : CmpOk) (HJ : JoinOk) (HS : SumOk) {l1 h1 l2 h2 : Nat} (a b : List Int) (w : World) (va vb : Value) (ha : RdI .i64 l1 h1 w va a) (hb : RdI .i64 l2 h2 w vb b) (ia : V.I64 a) (ib : V.I64 b) :
    Calls Try.prog 6 #[va, vb] w fun e w' => e = .returned (.bool true) ∧ Kp 0 0 w w' := by
  have HA := Lib.hid ha
  have HB := Lib.hid hb
  have IA := Lib.hid ia
  have IB := Lib.hid ib
  obtain ⟨ao, ca, rfl, ha1, ha2, _⟩ := ha.open
  obtain ⟨bo, cb, rfl, hb1, hb2, _⟩ := hb.open
  clear ha hb ia ib
  by_cases h20 : 200 < a.length
  · go_enter Try.func6, Try.ntmps6
    go_wp2_with fail
    refine (works_any HC HJ HS w).mono ?_
    rintro e w1 ⟨rfl, hk⟩
    go_wp2_with fail
    go_returns
    exact ⟨rfl, hk⟩
  by_cases h21 : 200 < b.length
  · go_enter Try.func6, Try.ntmps6
    go_wp2_with fail
    refine (works_any HC HJ HS w).mono ?_
    rintro e w1 ⟨rfl, hk⟩
    go_wp2_with fail
    go_returns
    exact ⟨rfl, hk⟩
  have hjl : (V.join a b).length ≤ 200 := by rw [V.join_len]; omega
  have IJ : Hid (V.I64 (V.join a b)) := V.join_i64 IA.out IB.out
  have IA2 : Hid (V.I64 (a ++ [0, -5])) := fun x hx => by
    rcases List.mem_append.1 hx with h | h
    · exact IA.out x h
    · simp at h
      omega
  have EA : Hid (V.sum (a ++ [0, -5]) = V.sum a) := V.sum_append (by simp)
  have hA0 := V.sum_range a
  -- what the three sums are to one another
  have EJ : Hid ((V.sum (V.join a b)).2 = true → (V.sum a).2 = true ∧ (V.sum b).2 = true ∧ (V.sum a).1 ≤ (V.sum (V.join a b)).1 ∧ (V.sum b).1 ≤ (V.sum (V.join a b)).1) := fun h => by
    have h1 := V.all_le (V.join_left a b)
    have h2 := V.all_le (V.join_right a b)
    have h3 : V.all (V.join a b) ≤ 9223372036854775807 := by
      by_cases hx : V.all (V.join a b) ≤ 9223372036854775807
      · exact hx
      · rw [V.sum_no hx] at h; cases h
    rw [V.sum_yes h3, V.sum_yes (l := a) (by omega), V.sum_yes (l := b) (by omega)]
    exact ⟨rfl, rfl, h1, h2⟩
  have EN : Hid ((V.sum a).2 = false → (V.sum a).1 = 0) := fun h => by
    by_cases hx : V.all a ≤ 9223372036854775807
    · rw [V.sum_yes hx] at h; cases h
    · rw [V.sum_no hx]
  have EL : Hid ((V.sum a).2 = true → (V.sum b).2 = true → V.cmp a b = 1 → (V.sum a).1 < (V.sum b).1) := fun h1 h2 h3 => by
    rcases V.cmp_cases a b with h | h | h | h
    · omega
    · have hl := V.all_lt h.2.1 h.2.2
      by_cases hx : V.all a ≤ 9223372036854775807
      · by_cases hy : V.all b ≤ 9223372036854775807
        · rw [V.sum_yes hx, V.sum_yes hy]
          exact hl
        · rw [V.sum_no hy] at h2; cases h2
      · rw [V.sum_no hx] at h1; cases h1
    · omega
    · omega
  go_enter Try.func6, Try.ntmps6
  go_wp2_with fail
  have d1 : decide ((200 : Int) < (a.length : Int)) = false := decide_eq_false (by omega)
  have d2 : decide ((200 : Int) < (b.length : Int)) = false := decide_eq_false (by omega)
  try rw [d1, d2]
  clear d1 d2
  refine (HS _ _ a w _ HA.out IA.out (by omega)).mono ?_
  rintro e w1 ⟨rfl, hq⟩
  have HK1 := Lib.hid hq.kp
  clear hq
  go_wp2_with fail
  refine (HS _ _ b w1 _ (HB.out.keep0 HK1.out) IB.out (by omega)).mono ?_
  rintro e w2 ⟨rfl, hq⟩
  have HK2 := Lib.hid (HK1.out.trans hq.kp)
  clear hq
  go_wp2_with fail
  refine (join_rd HJ a b _ _ _ (HA.out.keep0 HK2.out) (HB.out.keep0 HK2.out) IA.out IB.out (by omega) (by omega)).mono ?_
  rintro e w3 ⟨⟨jo, cj, rfl, hv⟩, hk⟩
  have HJ3 := Lib.hid hv
  have HK3 := Lib.hid (HK2.out.trans hk)
  obtain ⟨_, _, he, hj1, hj2, _⟩ := hv.open
  cases he
  clear hv hk
  go_wp2_with fail
  refine (HS _ _ (V.join a b) w3 _ HJ3.out IJ.out (by omega)).mono ?_
  rintro e w4 ⟨rfl, hq⟩
  have HK4 := Lib.hid (HK3.out.trans hq.kp)
  clear hq
  generalize V.sum (V.join a b) = sj at *
  generalize V.sum a = sa at *
  generalize V.sum b = sb at *
  obtain ⟨j, r⟩ := sj
  obtain ⟨x, p⟩ := sa
  obtain ⟨y, q⟩ := sb
  simp only at EJ EN EL hA0
  have HCM : Hid (∀ W, Kp 0 0 w W → Calls Try.prog 16 #[.slice ao a.length ca, .slice bo b.length cb] W fun e w' => e = .returned (.int .i64 (V.cmp a b)) ∧ Kp 0 0 W w') := fun W hW => (HC _ _ _ _ a b W _ _ (HA.out.keep0 hW) (HB.out.keep0 hW) IA.out IB.out (by omega) (by omega)).mono fun e w' h => ⟨h.1, h.2.kp⟩
  generalize V.cmp a b = cm at *
  have hcase : (r = true ∧ p = true ∧ q = true ∧ x ≤ j ∧ y ≤ j) ∨ (r = false ∧ p = true ∧ q = true) ∨ (r = false ∧ p = true ∧ q = false) ∨ (r = false ∧ p = false ∧ x = 0) := by
    have h1 := EJ.out
    have h2 := EN.out
    cases r <;> cases p <;> cases q <;> simp_all
  have hx0 : ¬ x < 0 := by omega
  have hxx : (x == x) = true := by simp
  have hxn : (x != x) = false := by simp
  clear EJ EN hA0
  rcases hcase with ⟨rfl, rfl, rfl, hj1', hj2'⟩ | ⟨rfl, rfl, rfl⟩ | ⟨rfl, rfl, rfl⟩ | ⟨rfl, rfl, rfl⟩
  · have hn1 : ¬ j < x := by omega
    have hn2 : ¬ j < y := by omega
    clear hj1' hj2'
    go_wp2_with fail
    refine (HCM.out _ HK4.out).mono ?_
    rintro e w5 ⟨rfl, hk⟩
    have HK5 := Lib.hid (HK4.out.trans hk)
    clear hk
    by_cases hc : cm = 1
    · have hc1 : (cm == 1) = true := beq_iff_eq.2 hc
      have hl := EL.out (by first | rfl | trivial) (by first | rfl | trivial) hc
      have hn3 : ¬ y ≤ x := by omega
      clear hl hc
      go_wp2_with fail
      refine (copyI_any w5 _ a (HA.out.keep0 HK5.out) (by omega)).mono ?_
      rintro e wc ⟨vc, rfl, hown, hk⟩
      have HKC := Lib.hid (HK5.out.trans hk)
      have HOC := Lib.hid (hown.wide HK5.out.size (Nat.le_refl _)).1
      clear hown hk
      obtain ⟨oc, ccap, rfl, _, _, _⟩ := (OwnI.of_rowN HOC.out rfl).rd.open
      have HL2 : Hid (RdI .i64 wc.heap.size (wc.heap.size + 1) (wc.alloc (.cells #[.int .i64 0, .int .i64 (-5)] 3)) (.slice (some ⟨wc.heap.size, 0, none⟩) 2 2) [0, -5]) := lit_i wc [0, -5] (by decide)
      have hsz := HKC.out.size
      have hown := HOC.out
      go_wp2_with (at_builtin; refine wpList_app rfl _ _ 22 rfl w.heap.size 3 .i64 8 Try.underlying22 info_int _ a.length (a.map (.int .i64)) rfl (hown.alloc _) _ rfl [0, -5] HL2.out ?c3 ?c4 ?c5 ?_)
      case c3 => simp; unfold maxLen; omega
      case c4 => simp; omega
      case c5 => simp; omega
      intro vd wd hown' hg
      have HKD : Hid (Kp 0 0 w wd) := (HKC.out.alloc _).grown hg fun g hj => .inl ((hown.lt g hj).1)
      have HOD : Hid (OwnI .i64 3 w.heap.size wd.heap.size wd vd (a ++ [0, -5])) := OwnI.of_rowN (n := a.length + 2) (by rw [List.map_append]; exact hown') (by simp)
      clear hown hown' hg hsz
      obtain ⟨od, cd, rfl, _, _, _⟩ := HOD.out.rd.open
      have hl2 : (a ++ [0, -5]).length = a.length + 2 := by simp
      rw [hl2] at HOD ⊢
      go_wp2_with fail
      have hm := HS _ _ (a ++ [0, -5]) wd _ HOD.out.rd IA2.out (by simp; omega)
      rw [EA.out] at hm
      refine hm.mono ?_
      clear hm
      rintro e we ⟨rfl, hq⟩
      have HKE := Lib.hid (HKD.out.trans hq.kp)
      clear hq
      go_wp2_with fail
      refine (works_any HC HJ HS we).mono ?_
      rintro e wf ⟨rfl, hk⟩
      have HKF := Lib.hid (HKE.out.trans hk)
      clear hk
      go_wp2_with fail
      go_returns
      exact ⟨rfl, HKF.out⟩
    · have hc1 : (cm == 1) = false := beq_eq_false_iff_ne.2 hc
      clear hc
      go_wp2_with fail
      refine (copyI_any w5 _ a (HA.out.keep0 HK5.out) (by omega)).mono ?_
      rintro e wc ⟨vc, rfl, hown, hk⟩
      have HKC := Lib.hid (HK5.out.trans hk)
      have HOC := Lib.hid (hown.wide HK5.out.size (Nat.le_refl _)).1
      clear hown hk
      obtain ⟨oc, ccap, rfl, _, _, _⟩ := (OwnI.of_rowN HOC.out rfl).rd.open
      have HL2 : Hid (RdI .i64 wc.heap.size (wc.heap.size + 1) (wc.alloc (.cells #[.int .i64 0, .int .i64 (-5)] 3)) (.slice (some ⟨wc.heap.size, 0, none⟩) 2 2) [0, -5]) := lit_i wc [0, -5] (by decide)
      have hsz := HKC.out.size
      have hown := HOC.out
      go_wp2_with (at_builtin; refine wpList_app rfl _ _ 22 rfl w.heap.size 3 .i64 8 Try.underlying22 info_int _ a.length (a.map (.int .i64)) rfl (hown.alloc _) _ rfl [0, -5] HL2.out ?c3 ?c4 ?c5 ?_)
      case c3 => simp; unfold maxLen; omega
      case c4 => simp; omega
      case c5 => simp; omega
      intro vd wd hown' hg
      have HKD : Hid (Kp 0 0 w wd) := (HKC.out.alloc _).grown hg fun g hj => .inl ((hown.lt g hj).1)
      have HOD : Hid (OwnI .i64 3 w.heap.size wd.heap.size wd vd (a ++ [0, -5])) := OwnI.of_rowN (n := a.length + 2) (by rw [List.map_append]; exact hown') (by simp)
      clear hown hown' hg hsz
      obtain ⟨od, cd, rfl, _, _, _⟩ := HOD.out.rd.open
      have hl2 : (a ++ [0, -5]).length = a.length + 2 := by simp
      rw [hl2] at HOD ⊢
      go_wp2_with fail
      have hm := HS _ _ (a ++ [0, -5]) wd _ HOD.out.rd IA2.out (by simp; omega)
      rw [EA.out] at hm
      refine hm.mono ?_
      clear hm
      rintro e we ⟨rfl, hq⟩
      have HKE := Lib.hid (HKD.out.trans hq.kp)
      clear hq
      go_wp2_with fail
      refine (works_any HC HJ HS we).mono ?_
      rintro e wf ⟨rfl, hk⟩
      have HKF := Lib.hid (HKE.out.trans hk)
      clear hk
      go_wp2_with fail
      go_returns
      exact ⟨rfl, HKF.out⟩
  · go_wp2_with fail
    refine (HCM.out _ HK4.out).mono ?_
    rintro e w5 ⟨rfl, hk⟩
    have HK5 := Lib.hid (HK4.out.trans hk)
    clear hk
    by_cases hc : cm = 1
    · have hc1 : (cm == 1) = true := beq_iff_eq.2 hc
      have hl := EL.out (by first | rfl | trivial) (by first | rfl | trivial) hc
      have hn3 : ¬ y ≤ x := by omega
      clear hl hc
      go_wp2_with fail
      refine (copyI_any w5 _ a (HA.out.keep0 HK5.out) (by omega)).mono ?_
      rintro e wc ⟨vc, rfl, hown, hk⟩
      have HKC := Lib.hid (HK5.out.trans hk)
      have HOC := Lib.hid (hown.wide HK5.out.size (Nat.le_refl _)).1
      clear hown hk
      obtain ⟨oc, ccap, rfl, _, _, _⟩ := (OwnI.of_rowN HOC.out rfl).rd.open
      have HL2 : Hid (RdI .i64 wc.heap.size (wc.heap.size + 1) (wc.alloc (.cells #[.int .i64 0, .int .i64 (-5)] 3)) (.slice (some ⟨wc.heap.size, 0, none⟩) 2 2) [0, -5]) := lit_i wc [0, -5] (by decide)
      have hsz := HKC.out.size
      have hown := HOC.out
      go_wp2_with (at_builtin; refine wpList_app rfl _ _ 22 rfl w.heap.size 3 .i64 8 Try.underlying22 info_int _ a.length (a.map (.int .i64)) rfl (hown.alloc _) _ rfl [0, -5] HL2.out ?c3 ?c4 ?c5 ?_)
      case c3 => simp; unfold maxLen; omega
      case c4 => simp; omega
      case c5 => simp; omega
      intro vd wd hown' hg
      have HKD : Hid (Kp 0 0 w wd) := (HKC.out.alloc _).grown hg fun g hj => .inl ((hown.lt g hj).1)
      have HOD : Hid (OwnI .i64 3 w.heap.size wd.heap.size wd vd (a ++ [0, -5])) := OwnI.of_rowN (n := a.length + 2) (by rw [List.map_append]; exact hown') (by simp)
      clear hown hown' hg hsz
      obtain ⟨od, cd, rfl, _, _, _⟩ := HOD.out.rd.open
      have hl2 : (a ++ [0, -5]).length = a.length + 2 := by simp
      rw [hl2] at HOD ⊢
      go_wp2_with fail
      have hm := HS _ _ (a ++ [0, -5]) wd _ HOD.out.rd IA2.out (by simp; omega)
      rw [EA.out] at hm
      refine hm.mono ?_
      clear hm
      rintro e we ⟨rfl, hq⟩
      have HKE := Lib.hid (HKD.out.trans hq.kp)
      clear hq
      go_wp2_with fail
      refine (works_any HC HJ HS we).mono ?_
      rintro e wf ⟨rfl, hk⟩
      have HKF := Lib.hid (HKE.out.trans hk)
      clear hk
      go_wp2_with fail
      go_returns
      exact ⟨rfl, HKF.out⟩
    · have hc1 : (cm == 1) = false := beq_eq_false_iff_ne.2 hc
      clear hc
      go_wp2_with fail
      refine (copyI_any w5 _ a (HA.out.keep0 HK5.out) (by omega)).mono ?_
      rintro e wc ⟨vc, rfl, hown, hk⟩
      have HKC := Lib.hid (HK5.out.trans hk)
      have HOC := Lib.hid (hown.wide HK5.out.size (Nat.le_refl _)).1
      clear hown hk
      obtain ⟨oc, ccap, rfl, _, _, _⟩ := (OwnI.of_rowN HOC.out rfl).rd.open
      have HL2 : Hid (RdI .i64 wc.heap.size (wc.heap.size + 1) (wc.alloc (.cells #[.int .i64 0, .int .i64 (-5)] 3)) (.slice (some ⟨wc.heap.size, 0, none⟩) 2 2) [0, -5]) := lit_i wc [0, -5] (by decide)
      have hsz := HKC.out.size
      have hown := HOC.out
      go_wp2_with (at_builtin; refine wpList_app rfl _ _ 22 rfl w.heap.size 3 .i64 8 Try.underlying22 info_int _ a.length (a.map (.int .i64)) rfl (hown.alloc _) _ rfl [0, -5] HL2.out ?c3 ?c4 ?c5 ?_)
      case c3 => simp; unfold maxLen; omega
      case c4 => simp; omega
      case c5 => simp; omega
      intro vd wd hown' hg
      have HKD : Hid (Kp 0 0 w wd) := (HKC.out.alloc _).grown hg fun g hj => .inl ((hown.lt g hj).1)
      have HOD : Hid (OwnI .i64 3 w.heap.size wd.heap.size wd vd (a ++ [0, -5])) := OwnI.of_rowN (n := a.length + 2) (by rw [List.map_append]; exact hown') (by simp)
      clear hown hown' hg hsz
      obtain ⟨od, cd, rfl, _, _, _⟩ := HOD.out.rd.open
      have hl2 : (a ++ [0, -5]).length = a.length + 2 := by simp
      rw [hl2] at HOD ⊢
      go_wp2_with fail
      have hm := HS _ _ (a ++ [0, -5]) wd _ HOD.out.rd IA2.out (by simp; omega)
      rw [EA.out] at hm
      refine hm.mono ?_
      clear hm
      rintro e we ⟨rfl, hq⟩
      have HKE := Lib.hid (HKD.out.trans hq.kp)
      clear hq
      go_wp2_with fail
      refine (works_any HC HJ HS we).mono ?_
      rintro e wf ⟨rfl, hk⟩
      have HKF := Lib.hid (HKE.out.trans hk)
      clear hk
      go_wp2_with fail
      go_returns
      exact ⟨rfl, HKF.out⟩
  · go_wp2_with fail
    refine (copyI_any w4 _ a (HA.out.keep0 HK4.out) (by omega)).mono ?_
    rintro e wc ⟨vc, rfl, hown, hk⟩
    have HKC := Lib.hid (HK4.out.trans hk)
    have HOC := Lib.hid (hown.wide HK4.out.size (Nat.le_refl _)).1
    clear hown hk
    obtain ⟨oc, ccap, rfl, _, _, _⟩ := (OwnI.of_rowN HOC.out rfl).rd.open
    have HL2 : Hid (RdI .i64 wc.heap.size (wc.heap.size + 1) (wc.alloc (.cells #[.int .i64 0, .int .i64 (-5)] 3)) (.slice (some ⟨wc.heap.size, 0, none⟩) 2 2) [0, -5]) := lit_i wc [0, -5] (by decide)
    have hsz := HKC.out.size
    have hown := HOC.out
    go_wp2_with (at_builtin; refine wpList_app rfl _ _ 22 rfl w.heap.size 3 .i64 8 Try.underlying22 info_int _ a.length (a.map (.int .i64)) rfl (hown.alloc _) _ rfl [0, -5] HL2.out ?c3 ?c4 ?c5 ?_)
    case c3 => simp; unfold maxLen; omega
    case c4 => simp; omega
    case c5 => simp; omega
    intro vd wd hown' hg
    have HKD : Hid (Kp 0 0 w wd) := (HKC.out.alloc _).grown hg fun g hj => .inl ((hown.lt g hj).1)
    have HOD : Hid (OwnI .i64 3 w.heap.size wd.heap.size wd vd (a ++ [0, -5])) := OwnI.of_rowN (n := a.length + 2) (by rw [List.map_append]; exact hown') (by simp)
    clear hown hown' hg hsz
    obtain ⟨od, cd, rfl, _, _, _⟩ := HOD.out.rd.open
    have hl2 : (a ++ [0, -5]).length = a.length + 2 := by simp
    rw [hl2] at HOD ⊢
    go_wp2_with fail
    have hm := HS _ _ (a ++ [0, -5]) wd _ HOD.out.rd IA2.out (by simp; omega)
    rw [EA.out] at hm
    refine hm.mono ?_
    clear hm
    rintro e we ⟨rfl, hq⟩
    have HKE := Lib.hid (HKD.out.trans hq.kp)
    clear hq
    go_wp2_with fail
    refine (works_any HC HJ HS we).mono ?_
    rintro e wf ⟨rfl, hk⟩
    have HKF := Lib.hid (HKE.out.trans hk)
    clear hk
    go_wp2_with fail
    go_returns
    exact ⟨rfl, HKF.out⟩
  · go_wp2_with fail
    refine (copyI_any w4 _ a (HA.out.keep0 HK4.out) (by omega)).mono ?_
    rintro e wc ⟨vc, rfl, hown, hk⟩
    have HKC := Lib.hid (HK4.out.trans hk)
    have HOC := Lib.hid (hown.wide HK4.out.size (Nat.le_refl _)).1
    clear hown hk
    obtain ⟨oc, ccap, rfl, _, _, _⟩ := (OwnI.of_rowN HOC.out rfl).rd.open
    have HL2 : Hid (RdI .i64 wc.heap.size (wc.heap.size + 1) (wc.alloc (.cells #[.int .i64 0, .int .i64 (-5)] 3)) (.slice (some ⟨wc.heap.size, 0, none⟩) 2 2) [0, -5]) := lit_i wc [0, -5] (by decide)
    have hsz := HKC.out.size
    have hown := HOC.out
    go_wp2_with (at_builtin; refine wpList_app rfl _ _ 22 rfl w.heap.size 3 .i64 8 Try.underlying22 info_int _ a.length (a.map (.int .i64)) rfl (hown.alloc _) _ rfl [0, -5] HL2.out ?c3 ?c4 ?c5 ?_)
    case c3 => simp; unfold maxLen; omega
    case c4 => simp; omega
    case c5 => simp; omega
    intro vd wd hown' hg
    have HKD : Hid (Kp 0 0 w wd) := (HKC.out.alloc _).grown hg fun g hj => .inl ((hown.lt g hj).1)
    have HOD : Hid (OwnI .i64 3 w.heap.size wd.heap.size wd vd (a ++ [0, -5])) := OwnI.of_rowN (n := a.length + 2) (by rw [List.map_append]; exact hown') (by simp)
    clear hown hown' hg hsz
    obtain ⟨od, cd, rfl, _, _, _⟩ := HOD.out.rd.open
    have hl2 : (a ++ [0, -5]).length = a.length + 2 := by simp
    rw [hl2] at HOD ⊢
    go_wp2_with fail
    have hm := HS _ _ (a ++ [0, -5]) wd _ HOD.out.rd IA2.out (by simp; omega)
    rw [EA.out] at hm
    refine hm.mono ?_
    clear hm
    rintro e we ⟨rfl, hq⟩
    have HKE := Lib.hid (HKD.out.trans hq.kp)
    clear hq
    go_wp2_with fail
    refine (works_any HC HJ HS we).mono ?_
    rintro e wf ⟨rfl, hk⟩
    have HKF := Lib.hid (HKE.out.trans hk)
    clear hk
    go_wp2_with fail
    go_returns
    exact ⟨rfl, HKF.out⟩

end Go.Proofs.Ytfijhmlinpjaiaa
