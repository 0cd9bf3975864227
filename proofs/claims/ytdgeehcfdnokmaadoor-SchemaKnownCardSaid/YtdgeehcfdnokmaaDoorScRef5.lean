/-
  The document's answer for package schema: Fits.
-/
import Derived.Test.YtdgeehcfdnokmaaDoorScRef4
namespace Go.Proofs.YtdgeehcfdnokmaaDoor
open Go.RowKit

set_option maxRecDepth 100000 in
set_option maxHeartbeats 4000000 in
theorem refSFits_any {S : Nat → Prop} (d : Dc) (t f op arg : Int) (w : World) (tv pv : Value) (hd : RdD w S tv pv d) (hsm : ∀ T ∈ d.ts, ∀ F ∈ T, F.ms.length ≤ 1000000) :
    Calls Tryd.prog 16 #[.agg #[tv, pv], .int .i64 t, .int .i64 f, .int .i64 op, .int .i64 arg] w fun r w' => r = .returned (.int .i64 (Sc.fits d t f op arg)) ∧ Kp 0 0 w w' := by
  have HW1 : Hid (Kp 0 0 w (w.alloc (.cells #[tv, pv] 25))) := (Kp.refl _ _ _).alloc _
  have HD := Lib.hid (hd.keep0 HW1.out)
  obtain ⟨to, tc, rfl, ht1, ht2, _⟩ := hd.t.open
  obtain ⟨po, pc, rfl, hp1, hp2, _⟩ := hd.p.open
  clear hd
  cases hfi : Sc.field d t f with
  | none =>
    have HF : Hid (Sc.fits d t f op arg = 8) := by
      show _ = _
      unfold Sc.fits
      rw [hfi]
    go_enter Tryd.func16, Tryd.ntmps16
    go_wp2_with fail
    generalize w.alloc (.cells #[.slice to d.ts.length tc, .slice po d.ps.length pc] 25) = w1 at *
    refine (refSField_none d t f w1 _ _ HD.out hfi).mono ?_
    rintro r w3 ⟨rfl, hk3⟩
    unfold fieldV
    go_wp2_with fail
    go_returns
    rw [HF.out]
    exact ⟨rfl, HW1.out.trans (hk3.alloc _)⟩
  | some X =>
    obtain ⟨n, m, T, rfl, rfl, hT, hX⟩ := Sc.field_inv hfi
    have HF : Hid (Sc.fits d n m op arg = if op = 1 then (if X.k ≠ 1 then 2 else if arg = 0 then 1 else 0)
      else if op = 2 then (if X.k ≠ 2 then 2 else 0)
      else if op = 3 ∨ op = 4 then (if X.k ≠ 3 then 2 else 0)
      else if op = 5 then (if X.k ≠ 4 then 2 else if arg < 0 ∨ (X.ms.length : Int) ≤ arg then 1 else 0)
      else 2) := by
      show _ = _
      unfold Sc.fits
      rw [hfi]
    have HM := Lib.hid (hsm T (List.mem_of_getElem? hT) X (List.mem_of_getElem? hX))
    have HT := Lib.hid hT
    have HX := Lib.hid hX
    clear hT hX hfi hsm
    generalize Sc.fits d n m op arg = R at *
    go_enter Tryd.func16, Tryd.ntmps16
    go_wp2_with fail
    generalize w.alloc (.cells #[.slice to d.ts.length tc, .slice po d.ps.length pc] 25) = w1 at *
    refine (refSField_some d n m T X w1 _ _ HD.out HT.out HX.out HM.out).mono ?_
    rintro r w3 ⟨mv, rfl, hmv, hk3⟩
    unfold fieldV
    obtain ⟨mo, mc, rfl, _, _, _⟩ := (hmv.rd (T := fun _ => True) mvE_good (fun _ _ _ => trivial) (fun _ _ => trivial)).open
    have HK3 := Lib.hid (HW1.out.trans (hk3.alloc (.cells #[.int .i64 X.k, .int .i64 X.p, .bool X.b, .slice mo X.ms.length mc] 33)))
    clear hmv hk3 HD HT HX
    generalize hl : (X.ms.length : Int) = L at *
    by_cases o1 : op = 1
    · subst o1
      rw [if_pos rfl] at HF
      by_cases k1 : X.k = 1
      · have e1 : (X.k != 1) = false := by rw [k1]; rfl
        rw [if_neg (by omega)] at HF
        by_cases a0 : arg = 0
        · have e2 : (arg == 0) = true := by rw [a0]; rfl
          rw [if_pos a0] at HF
          clear k1 a0
          go_wp2_with fail
          go_returns
          rw [HF.out]
          exact ⟨rfl, HK3.out⟩
        · have e2 : (arg == 0) = false := by simpa using a0
          rw [if_neg a0] at HF
          clear k1 a0
          go_wp2_with fail
          go_returns
          rw [HF.out]
          exact ⟨rfl, HK3.out⟩
      · have e1 : (X.k != 1) = true := by simpa using k1
        rw [if_pos k1] at HF
        clear k1
        go_wp2_with fail
        go_returns
        rw [HF.out]
        exact ⟨rfl, HK3.out⟩
    have n1 : (op == 1) = false := by simpa using o1
    rw [if_neg o1] at HF
    by_cases o2 : op = 2
    · subst o2
      clear o1 n1
      rw [if_pos rfl] at HF
      by_cases k1 : X.k = 2
      · have e1 : (X.k != 2) = false := by rw [k1]; rfl
        rw [if_neg (by omega)] at HF
        clear k1
        go_wp2_with fail
        go_returns
        rw [HF.out]
        exact ⟨rfl, HK3.out⟩
      · have e1 : (X.k != 2) = true := by simpa using k1
        rw [if_pos k1] at HF
        clear k1
        go_wp2_with fail
        go_returns
        rw [HF.out]
        exact ⟨rfl, HK3.out⟩
    have n2 : (op == 2) = false := by simpa using o2
    rw [if_neg o2] at HF
    by_cases o3 : op = 3 ∨ op = 4
    · rw [if_pos o3] at HF
      have hk : (X.k = 3 ∧ R = 0) ∨ (X.k ≠ 3 ∧ R = 2) := by
        have := HF.out
        by_cases k1 : X.k = 3
        · rw [if_neg (by omega)] at this
          exact .inl ⟨k1, this⟩
        · rw [if_pos k1] at this
          exact .inr ⟨k1, this⟩
      clear HF o1 o2 n1 n2
      rcases hk with ⟨k1, rfl⟩ | ⟨k1, rfl⟩
      · have e1 : (X.k != 3) = false := by rw [k1]; rfl
        clear k1
        rcases o3 with rfl | rfl
        all_goals
          go_wp2_with fail
          go_returns
          exact ⟨rfl, HK3.out⟩
      · have e1 : (X.k != 3) = true := by simpa using k1
        clear k1
        rcases o3 with rfl | rfl
        all_goals
          go_wp2_with fail
          go_returns
          exact ⟨rfl, HK3.out⟩
    rw [if_neg o3] at HF
    have n3 : (op == 3) = false := by
      have : op ≠ 3 := fun h => o3 (.inl h)
      simpa using this
    have n4 : (op == 4) = false := by
      have : op ≠ 4 := fun h => o3 (.inr h)
      simpa using this
    by_cases o5 : op = 5
    · subst o5
      clear o1 n1 o2 n2 o3 n3 n4
      rw [if_pos rfl] at HF
      by_cases k1 : X.k = 4
      · have e1 : (X.k != 4) = false := by rw [k1]; rfl
        rw [if_neg (by omega)] at HF
        clear k1
        by_cases a0 : arg < 0
        · rw [if_pos (.inl a0)] at HF
          go_wp2_with fail
          go_returns
          rw [HF.out]
          exact ⟨rfl, HK3.out⟩
        have a1 : decide (arg < 0) = false := decide_eq_false a0
        by_cases a2 : L ≤ arg
        · rw [if_pos (.inr a2)] at HF
          clear a0
          go_wp2_with fail
          go_returns
          rw [HF.out]
          exact ⟨rfl, HK3.out⟩
        have a3 : decide (L ≤ arg) = false := decide_eq_false a2
        rw [if_neg (by omega)] at HF
        clear a0 a2
        go_wp2_with fail
        go_returns
        rw [HF.out]
        exact ⟨rfl, HK3.out⟩
      · have e1 : (X.k != 4) = true := by simpa using k1
        rw [if_pos k1] at HF
        clear k1
        go_wp2_with fail
        go_returns
        rw [HF.out]
        exact ⟨rfl, HK3.out⟩
    have n5 : (op == 5) = false := by simpa using o5
    rw [if_neg o5] at HF
    clear o1 o2 o3 o5
    go_wp2_with fail
    go_returns
    rw [HF.out]
    exact ⟨rfl, HK3.out⟩

end Go.Proofs.YtdgeehcfdnokmaaDoor
