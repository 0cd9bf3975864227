/-
  The document's answer for package event: Check.
-/
import Derived.Test.YtnboeagallkooaaEv2
import Derived.Test.YtnboeagallkooaaKICopy
import Derived.Test.YtnboeagallkooaaRef4I
import Derived.Handy
import Derived.PlainAid
import Derived.Deep.QuietTactic
namespace Go.Proofs.Ytnboeagallkooaa
open Go.RowKit

/-- An event, as a value. -/
def evV (e : Evt) (dv : Value) : Value := .agg #[.int .i64 e.o, .int .i64 e.s, .int .i64 e.l, dv, .int .i64 e.t, .int .i64 e.a, .int .i64 e.f, .int .i64 e.p, .int .i64 e.r, .int .i64 e.k]

/-- What Check tells, case by case. -/
theorem chk_arg {e : Evt} {n : Int} (h : e.o < 0 ∨ n ≤ e.o ∨ e.s < 1 ∨ e.l < 1 ∨ e.a < 0 ∨ e.k < 0 ∨ (e.d.length : Int) ≠ n) : Ev.check e n = 1 := by unfold Ev.check; rw [if_pos h]
theorem chk_neg {e : Evt} {n : Int} (h : ¬ (e.o < 0 ∨ n ≤ e.o ∨ e.s < 1 ∨ e.l < 1 ∨ e.a < 0 ∨ e.k < 0 ∨ (e.d.length : Int) ≠ n)) {i : Nat} (hi : i < e.d.length) (hx : e.d.getD i 0 < 0) : Ev.check e n = 1 := by
  unfold Ev.check
  rw [if_neg h, if_pos ⟨e.d.getD i 0, by simp [List.getD, hi], hx⟩]
theorem chk_order {e : Evt} {n : Int} (h : ¬ (e.o < 0 ∨ n ≤ e.o ∨ e.s < 1 ∨ e.l < 1 ∨ e.a < 0 ∨ e.k < 0 ∨ (e.d.length : Int) ≠ n)) (h2 : ∀ i, i < e.d.length → 0 ≤ e.d.getD i 0) :
    Ev.check e n = if e.d.getD e.o.toNat 0 ≠ e.s - 1 then 9 else if e.p < 1 ∨ 5 < e.p then 2 else if e.t < 0 ∨ 7 < e.t ∨ e.f < 0 ∨ 7 < e.f then 8 else 0 := by
  unfold Ev.check
  rw [if_neg h, if_neg]
  rintro ⟨x, hx, h0⟩
  obtain ⟨i, hi, rfl⟩ := List.mem_iff_getElem.1 hx
  have := h2 i hi
  simp [List.getD, hi] at this
  omega

set_option maxRecDepth 100000 in
set_option maxHeartbeats 4000000 in
theorem refCheck_any {l1 h1 : Nat} (e : Evt) (n : Int) (w : World) (dv : Value) (hd : RdI .i64 l1 h1 w dv e.d) (he : Ev.Fits e) :
    Calls Try.prog 11 #[evV e dv, .int .i64 n] w fun r w' => r = .returned (.int .i64 (Ev.check e n)) ∧ Kp 0 0 w w' := by
  obtain ⟨ao, c, rfl, hb1, hb2, hcl⟩ := hd.open
  have HCL := Lib.hid hcl
  have hs := he.s
  unfold Ev.I64 at hs
  clear hd hcl he
  unfold evV
  by_cases hA : e.o < 0 ∨ n ≤ e.o ∨ e.s < 1 ∨ e.l < 1 ∨ e.a < 0 ∨ e.k < 0 ∨ (e.d.length : Int) ≠ n
  · have HP := Lib.hid (chk_arg hA)
    have HA := Lib.hid hA
    clear hA
    by_cases a7 : (e.d.length : Int) = n
    · subst a7
      have a8 : ((e.d.length : Int) != (e.d.length : Int)) = false := by simp
      go_enter Try.func11, Try.ntmps11
      go_wp2_with fail
      all_goals
        first
        | (go_returns
           rw [HP.out]
           exact ⟨rfl, (Kp.refl _ _ _).alloc _⟩)
        | (exfalso
           have := HA.out
           omega)
    · have a8 : ((e.d.length : Int) != n) = true := bne_iff_ne.2 a7
      go_enter Try.func11, Try.ntmps11
      go_wp2_with fail
      all_goals
        go_returns
        rw [HP.out]
        exact ⟨rfl, (Kp.refl _ _ _).alloc _⟩
  have HN := Lib.hid hA
  have a1 : ¬ e.o < 0 := fun h => hA (.inl h)
  have a2 : ¬ n ≤ e.o := fun h => hA (.inr (.inl h))
  have a3 : ¬ e.s < 1 := fun h => hA (.inr (.inr (.inl h)))
  have a4 : ¬ e.l < 1 := fun h => hA (.inr (.inr (.inr (.inl h))))
  have a5 : ¬ e.a < 0 := fun h => hA (.inr (.inr (.inr (.inr (.inl h)))))
  have a6 : ¬ e.k < 0 := fun h => hA (.inr (.inr (.inr (.inr (.inr (.inl h))))))
  have a7 : (e.d.length : Int) = n := by
    by_cases h : (e.d.length : Int) = n
    · exact h
    · exact absurd (.inr (.inr (.inr (.inr (.inr (.inr h)))))) hA
  clear hA
  subst a7
  have a8 : ((e.d.length : Int) != (e.d.length : Int)) = false := by simp
  go_enter Try.func11, Try.ntmps11
  go_wp2_with fail
  have HKA : Hid (Kp 0 0 w (w.alloc (.cells #[.int .i64 e.o, .int .i64 e.s, .int .i64 e.l, .slice ao e.d.length c, .int .i64 e.t, .int .i64 e.a, .int .i64 e.f, .int .i64 e.p, .int .i64 e.r, .int .i64 e.k] 26))) := (Kp.refl _ _ _).alloc _
  have HCE : Hid (∀ j v, #[Value.int .i64 e.o, .int .i64 e.s, .int .i64 e.l, .slice ao e.d.length c, .int .i64 e.t, .int .i64 e.a, .int .i64 e.f, .int .i64 e.p, .int .i64 e.r, .int .i64 e.k][j]? = some v → (w.alloc (.cells #[.int .i64 e.o, .int .i64 e.s, .int .i64 e.l, .slice ao e.d.length c, .int .i64 e.t, .int .i64 e.a, .int .i64 e.f, .int .i64 e.p, .int .i64 e.r, .int .i64 e.k] 26)).cell? ⟨w.heap.size, j, none⟩ = some v) := fun j v hv => by
    simp only [World.cell?, heap_alloc_new]
    simpa using hv
  generalize w.alloc (.cells #[.int .i64 e.o, .int .i64 e.s, .int .i64 e.l, .slice ao e.d.length c, .int .i64 e.t, .int .i64 e.a, .int .i64 e.f, .int .i64 e.p, .int .i64 e.r, .int .i64 e.k] 26) = wa at HKA HCE ⊢
  generalize w.heap.size = pf at HCE ⊢
  go_loopw [5] (fun i wr => ∃ k : Nat, k ≤ e.d.length ∧ i = .int .i64 k ∧ Hid (∀ j, j < k → 0 ≤ e.d.getD j 0) ∧ Kp 0 0 wa wr) (fun i _ => e.d.length - (intOf i).toNat)
  case atStart => exact ⟨0, Nat.zero_le _, rfl, fun j hj => by omega, Kp.refl _ _ _⟩
  case round =>
    obtain ⟨k, hk, rfl, HALL, hkp⟩ := hrel
    have HKP := Lib.hid hkp
    have f3 := hkp.cell (HCE.out 3 _ rfl) (.inr (Nat.zero_le _))
    by_cases hlt : k < e.d.length
    · obtain ⟨b1, o1, rfl, _, _, hc1⟩ := HCL.out (by omega)
      have c1 := (HKA.out.trans hkp).cell (hc1 k hlt) (.inr (Nat.zero_le _))
      have HNG := Lib.hid (chk_neg (e := e) (n := (e.d.length : Int)) HN.out hlt)
      have HST : Hid (0 ≤ e.d.getD k 0 → ∀ j, j < k + 1 → 0 ≤ e.d.getD j 0) := fun h j hj => by
        by_cases hjk : j = k
        · rw [hjk]; exact h
        · exact HALL.out j (by omega)
      have k0 : (0 : Int) ≤ (k : Int) := Int.natCast_nonneg _
      have k1 : (k : Int) < (e.d.length : Int) := by omega
      clear hc1 hkp
      generalize e.d.getD k 0 = x at c1 HNG HST
      by_cases hx : x < 0
      · have HP := Lib.hid (HNG.out hx)
        go_wp2_with fail
        go_returns
        rw [HP.out]
        exact ⟨rfl, HKA.out.trans HKP.out⟩
      · have HF := Lib.hid (HST.out (by omega))
        go_wp2_with fail
        go_roundw
        case rel => exact ⟨k + 1, by omega, by go_num, HF, HKP.out⟩
        case measure => simp [intOf]; omega
    · obtain rfl : k = e.d.length := by omega
      have HO := Lib.hid (chk_order (e := e) (n := (e.d.length : Int)) HN.out HALL.out)
      obtain ⟨O, hO⟩ : ∃ O : Nat, e.o = (O : Int) := ⟨e.o.toNat, by omega⟩
      have hOl : O < e.d.length := by omega
      obtain ⟨b1, o1, rfl, _, _, hc1⟩ := HCL.out (by omega)
      have c1 := (HKA.out.trans hkp).cell (hc1 O hOl) (.inr (Nat.zero_le _))
      have f0 := hkp.cell (HCE.out 0 _ rfl) (.inr (Nat.zero_le _))
      have f1 := hkp.cell (HCE.out 1 _ rfl) (.inr (Nat.zero_le _))
      have f4 := hkp.cell (HCE.out 4 _ rfl) (.inr (Nat.zero_le _))
      have f6 := hkp.cell (HCE.out 6 _ rfl) (.inr (Nat.zero_le _))
      have f7 := hkp.cell (HCE.out 7 _ rfl) (.inr (Nat.zero_le _))
      rw [hO] at f0
      rw [hO, Int.toNat_natCast] at HO
      have O0 : (0 : Int) ≤ (O : Int) := Int.natCast_nonneg _
      have O1 : (O : Int) < (e.d.length : Int) := by omega
      clear hc1 hkp
      generalize e.d.getD O 0 = x at c1 HO
      have hw : IntKind.i64.wrap (e.s - 1) = e.s - 1 := by rw [PlainAid.i64_is]; unfold wrap64; omega
      by_cases hx : x = e.s - 1
      · have hb : (x != e.s - 1) = false := by simp [hx]
        rw [if_neg (fun h => h hx)] at HO
        clear hx
        by_cases hp : e.p < 1 ∨ 5 < e.p
        · have HP := Lib.hid (HO.out.trans (if_pos hp))
          rcases hp with hp | hp
          · go_wp2_with fail
            go_quiet (fail)
            go_wp2_with fail
            go_returns
            rw [HP.out]
            exact ⟨rfl, (HKA.out.trans HKP.out).drewN _⟩
          · go_wp2_with fail
            go_quiet (fail)
            go_wp2_with fail
            go_returns
            rw [HP.out]
            exact ⟨rfl, (HKA.out.trans HKP.out).drewN _⟩
        have hp1 : ¬ e.p < 1 := fun h => hp (.inl h)
        have hp2 : ¬ 5 < e.p := fun h => hp (.inr h)
        rw [if_neg hp] at HO
        clear hp
        by_cases ht : e.t < 0 ∨ 7 < e.t ∨ e.f < 0 ∨ 7 < e.f
        · have HP := Lib.hid (HO.out.trans (if_pos ht))
          rcases ht with ht | ht | ht | ht
          · go_wp2_with fail
            go_quiet (fail)
            go_wp2_with fail
            go_returns
            rw [HP.out]
            exact ⟨rfl, (HKA.out.trans HKP.out).drewN _⟩
          · have ht0 : ¬ e.t < 0 := by omega
            go_wp2_with fail
            go_quiet (fail)
            go_wp2_with fail
            go_returns
            rw [HP.out]
            exact ⟨rfl, (HKA.out.trans HKP.out).drewN _⟩
          · by_cases h1 : e.t < 0
            · go_wp2_with fail
              go_quiet (fail)
              go_wp2_with fail
              go_returns
              rw [HP.out]
              exact ⟨rfl, (HKA.out.trans HKP.out).drewN _⟩
            by_cases h2 : 7 < e.t
            · go_wp2_with fail
              go_quiet (fail)
              go_wp2_with fail
              go_returns
              rw [HP.out]
              exact ⟨rfl, (HKA.out.trans HKP.out).drewN _⟩
            · go_wp2_with fail
              go_quiet (fail)
              go_wp2_with fail
              go_returns
              rw [HP.out]
              exact ⟨rfl, (HKA.out.trans HKP.out).drewN _⟩
          · have hf0 : ¬ e.f < 0 := by omega
            by_cases h1 : e.t < 0
            · go_wp2_with fail
              go_quiet (fail)
              go_wp2_with fail
              go_returns
              rw [HP.out]
              exact ⟨rfl, (HKA.out.trans HKP.out).drewN _⟩
            by_cases h2 : 7 < e.t
            · go_wp2_with fail
              go_quiet (fail)
              go_wp2_with fail
              go_returns
              rw [HP.out]
              exact ⟨rfl, (HKA.out.trans HKP.out).drewN _⟩
            · go_wp2_with fail
              go_quiet (fail)
              go_wp2_with fail
              go_returns
              rw [HP.out]
              exact ⟨rfl, (HKA.out.trans HKP.out).drewN _⟩
        have ht1 : ¬ e.t < 0 := fun h => ht (.inl h)
        have ht2 : ¬ 7 < e.t := fun h => ht (.inr (.inl h))
        have ht3 : ¬ e.f < 0 := fun h => ht (.inr (.inr (.inl h)))
        have ht4 : ¬ 7 < e.f := fun h => ht (.inr (.inr (.inr h)))
        have HP := Lib.hid (HO.out.trans (if_neg ht))
        clear ht
        go_wp2_with fail
        go_quiet (fail)
        go_wp2_with fail
        go_returns
        rw [HP.out]
        exact ⟨rfl, (HKA.out.trans HKP.out).drewN _⟩
      · have hb : (x != e.s - 1) = true := bne_iff_ne.2 hx
        have HP : Hid (Ev.check e (e.d.length : Int) = 9) := by
          show _ = _
          rw [HO.out, if_pos hx]
        clear hx
        go_wp2_with fail
        go_quiet (fail)
        go_wp2_with fail
        go_returns
        rw [HP.out]
        exact ⟨rfl, (HKA.out.trans HKP.out).drewN _⟩

end Go.Proofs.Ytnboeagallkooaa
