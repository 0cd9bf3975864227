/-
  VecEntries as a contract.
-/
import Derived.Test.YtfijhmlinpjaiaaVMost
import Derived.Test.YtfijhmlinpjaiaaVRef2
import Derived.Lib.MinMax
namespace Go.Proofs.Ytfijhmlinpjaiaa
open Go.RowKit

set_option maxRecDepth 100000 in
set_option maxHeartbeats 2000000 in
theorem ventries_any (HG : GetOk) (HC : CmpOk) (HJ : JoinOk) (HS : SumOk) {l1 h1 l2 h2 : Nat} (a b : List Int) (o : Int) (w : World) (va vb : Value) (ha : RdI .i64 l1 h1 w va a) (hb : RdI .i64 l2 h2 w vb b) (ia : V.I64 a) (ib : V.I64 b) (ho : -9223372036854775808 ≤ o ∧ o ≤ 9223372036854775807) :
    Calls Try.prog 8 #[va, vb, .int .i64 o] w fun e w' => e = .returned (.bool true) ∧ Kp 0 0 w w' := by
  have HA := Lib.hid ha
  have HB := Lib.hid hb
  have IA := Lib.hid ia
  have IB := Lib.hid ib
  have HOO := Lib.hid ho
  obtain ⟨ao, ca, rfl, ha1, ha2, _⟩ := ha.open
  obtain ⟨bo, cb, rfl, hb1, hb2, _⟩ := hb.open
  clear ha hb ia ib ho
  by_cases h20 : 200 < a.length
  · go_enter Try.func8, Try.ntmps8
    go_wp2_with fail
    refine (works_any HC HJ HS w).mono ?_
    rintro e w1 ⟨rfl, hk⟩
    go_wp2_with fail
    go_returns
    exact ⟨rfl, hk⟩
  by_cases h21 : 200 < b.length
  · go_enter Try.func8, Try.ntmps8
    go_wp2_with fail
    refine (works_any HC HJ HS w).mono ?_
    rintro e w1 ⟨rfl, hk⟩
    go_wp2_with fail
    go_returns
    exact ⟨rfl, hk⟩
  have hjl : (V.join a b).length ≤ 200 := by rw [V.join_len]; omega
  have IJ : Hid (V.I64 (V.join a b)) := V.join_i64 IA.out IB.out
  obtain ⟨i0, hi, hz0, hz1, hz2⟩ := info_parts info_int
  have HGA : Hid (∀ (i : Nat) W, i < a.length + 2 → Kp 0 0 w W → Calls Try.prog 18 #[.slice ao a.length ca, .int .i64 (i : Int)] W fun e w' => e = .returned (.int .i64 (V.ent a i)) ∧ Kp 0 0 W w') := fun i W hi hW => by
    have h := HG _ _ a (i : Int) W _ (HA.out.keep0 hW) IA.out ⟨by omega, by omega⟩ (by omega)
    rw [V.get_nat] at h
    exact h.mono fun e w' h => ⟨h.1, h.2.kp⟩
  have hmax : ∀ (ts : Array TypeId) (ty : TypeId) (W : World), (Builtin.max_ ts ty #[.int .i64 (V.get a o), .int .i64 (V.get b o)]).run Try.prog W = .ok (.int .i64 (V.get (V.join a b) o)) W := fun ts ty W => by
    rw [Lib.run_max_ints, V.get_join]
  go_enter Try.func8, Try.ntmps8
  go_wp2_with fail
  have d1 : decide ((200 : Int) < (a.length : Int)) = false := decide_eq_false (by omega)
  have d2 : decide ((200 : Int) < (b.length : Int)) = false := decide_eq_false (by omega)
  try rw [d1, d2, Bool.or_false]
  clear d1 d2
  go_loopw [7, 8] (fun v' i wr => ∃ k : Nat, k ≤ a.length + 2 ∧ i = .int .i64 k ∧ wr.ownsRow w.heap.size 3 1 v' k ((V.ents a k).map (.int .i64)) ∧ Kp 0 0 w wr) (fun _ i _ => a.length + 2 - (intOf i).toNat)
  case atStart => exact ⟨0, Nat.zero_le _, rfl, World.ownsRow_nil _ _ _ _, Kp.refl _ _ _⟩
  case round =>
    obtain ⟨k, hk, rfl, hown, hkp⟩ := hrel
    have HO := Lib.hid hown
    have HKP := Lib.hid hkp
    clear hown hkp
    by_cases hlt : k < a.length + 2
    · have HSN := Lib.hid (V.ents_snoc a k)
      have HGK := Lib.hid (HGA.out k)
      generalize V.ent a k = x at *
      go_wp2_with fail
      refine (HGK.out _ hlt HKP.out).mono ?_
      rintro e w2 ⟨rfl, hk2⟩
      have HK2 := Lib.hid (HKP.out.trans hk2)
      have hown := ownsRow_keepI HO.out hk2
      have hsz := HK2.out.size
      clear hk2
      go_wp2_with (at_builtin; refine wpList_append_own _ rfl _ _ 22 rfl w.heap.size 3 i0 (.int .i64 0) 1 8 Try.underlying22 hi hz0 hz1 hz2 rfl (by decide) _ _ _ rfl (hown.alloc _) ⟨w2.heap.size, 0, none⟩ 1 1 [.int .i64 x] rfl rfl (cell_one _ _ _) (by simp [Value.oneCell']) ?c3 ?c4 ?c5 ?_)
      case c3 => unfold maxLen; omega
      case c4 => omega
      case c5 => simp; omega
      intro v' w5 hown' hg _
      have HK5 : Hid (Kp 0 0 w w5) := (HK2.out.alloc _).grown hg fun j hj => .inl ((hown.lt j hj).1)
      have HO5 := Lib.hid hown'
      clear hown' hg hown
      go_wp2_with fail
      go_roundw
      case rel =>
        refine ⟨k + 1, by omega, by go_num, ?_, HK5.out⟩
        have ho := HO5.out
        rw [HSN.out, List.map_append]
        simpa using ho
      case measure => simp [intOf]; omega
    · obtain rfl : k = a.length + 2 := by omega
      have EX : Hid (V.sum (V.ents a (a.length + 2)) = V.sum a) := V.sum_same (V.ents_le1 (by omega)) (V.ents_le2 (by omega))
      have EC1 : Hid (V.cmp (V.ents a (a.length + 2)) a = 0) := V.cmp_same (V.ents_le1 (by omega)) (V.ents_le2 (by omega))
      have EC2 : Hid (V.cmp (V.ents a (a.length + 2)) b = V.cmp a b) := V.cmp_congr (V.ents_ent (by omega)) (fun _ => rfl)
      have IX : Hid (V.I64 (V.ents a (a.length + 2))) := fun y hy => by
        obtain ⟨i, _, rfl⟩ := List.mem_map.1 hy
        have := V.ent_le IA.out i
        have := V.ent_nonneg a i
        omega
      have hxl : (V.ents a (a.length + 2)).length = a.length + 2 := V.ents_len _ _
      have HX : Hid (RdI .i64 w.heap.size wr.heap.size wr u7 (V.ents a (a.length + 2))) := (OwnI.of_rowN HO.out hxl).rd
      generalize V.ents a (a.length + 2) = xs at *
      obtain ⟨xo, cx, rfl, hx1, hx2, _⟩ := HX.out.open
      rw [hxl] at HX hx1
      rw [hxl]
      clear HO
      go_wp2_with fail
      refine (HS _ _ a _ _ (HA.out.keep0 HKP.out) IA.out (by omega)).mono ?_
      rintro e w3 ⟨rfl, hq⟩
      have HK3 := Lib.hid (HKP.out.trans hq.kp)
      have HX3 := Lib.hid (HX.out.keep0 hq.kp)
      clear hq
      go_wp2_with fail
      have hm := HS _ _ xs _ _ HX3.out IX.out (by omega)
      rw [EX.out] at hm
      refine hm.mono ?_
      clear hm
      rintro e w4 ⟨rfl, hq⟩
      have HK4 := Lib.hid (HK3.out.trans hq.kp)
      have HX4 := Lib.hid (HX3.out.keep0 hq.kp)
      clear hq
      generalize V.sum a = sa
      obtain ⟨n, is⟩ := sa
      go_wp2_with fail
      refine (join_rd HJ a b _ _ _ (HA.out.keep0 HK4.out) (HB.out.keep0 HK4.out) IA.out IB.out (by omega) (by omega)).mono ?_
      rintro e w5 ⟨⟨jo, cj, rfl, hv⟩, hk5⟩
      have HJ5 := Lib.hid hv
      obtain ⟨_, _, he, hj1, hj2, _⟩ := hv.open
      cases he
      have HK5 := Lib.hid (HK4.out.trans hk5)
      have HX5 := Lib.hid (HX4.out.keep0 hk5)
      clear hk5 hv
      go_wp2_with fail
      refine (HG _ _ (V.join a b) o _ _ HJ5.out IJ.out HOO.out (by omega)).mono ?_
      rintro e w6 ⟨rfl, hq⟩
      have HK6 := Lib.hid (HK5.out.trans hq.kp)
      have HX6 := Lib.hid (HX5.out.keep0 hq.kp)
      clear hq
      go_wp2_with fail
      refine (HG _ _ a o _ _ (HA.out.keep0 HK6.out) IA.out HOO.out (by omega)).mono ?_
      rintro e w7 ⟨rfl, hq⟩
      have HK7 := Lib.hid (HK6.out.trans hq.kp)
      have HX7 := Lib.hid (HX6.out.keep0 hq.kp)
      clear hq
      go_wp2_with fail
      refine (HG _ _ b o _ _ (HB.out.keep0 HK7.out) IB.out HOO.out (by omega)).mono ?_
      rintro e w8 ⟨rfl, hq⟩
      have HK8 := Lib.hid (HK7.out.trans hq.kp)
      have HX8 := Lib.hid (HX7.out.keep0 hq.kp)
      clear hq
      generalize V.get (V.join a b) o = gj at *
      have hgj : (gj == gj) = true := by simp
      have hnn : (n == n) = true := by simp
      have hii : (is == is) = true := by simp
      go_wp2_with fail
      have hm := HC _ _ _ _ xs a w8 _ _ HX8.out (HA.out.keep0 HK8.out) IX.out IA.out (by omega) (by omega)
      rw [EC1.out] at hm
      refine hm.mono ?_
      clear hm
      rintro e w9 ⟨rfl, hq⟩
      have HK9 := Lib.hid (HK8.out.trans hq.kp)
      have HX9 := Lib.hid (HX8.out.keep0 hq.kp)
      clear hq
      go_wp2_with fail
      have hm := HC _ _ _ _ xs b w9 _ _ HX9.out (HB.out.keep0 HK9.out) IX.out IB.out (by omega) (by omega)
      rw [EC2.out] at hm
      refine hm.mono ?_
      clear hm
      rintro e w10 ⟨rfl, hq⟩
      have HK10 := Lib.hid (HK9.out.trans hq.kp)
      clear hq
      go_wp2_with fail
      refine (HC _ _ _ _ a b w10 _ _ (HA.out.keep0 HK10.out) (HB.out.keep0 HK10.out) IA.out IB.out (by omega) (by omega)).mono ?_
      rintro e w11 ⟨rfl, hq⟩
      have HK11 := Lib.hid (HK10.out.trans hq.kp)
      clear hq
      generalize V.cmp a b = cm
      have hcm : (cm == cm) = true := by simp
      go_wp2_with fail
      refine (works_any HC HJ HS _).mono ?_
      rintro e w12 ⟨rfl, hk⟩
      have HK12 := Lib.hid (HK11.out.trans hk)
      clear hk
      go_wp2_with fail
      go_returns
      exact ⟨rfl, HK12.out⟩

end Go.Proofs.Ytfijhmlinpjaiaa
