/-
  The document's answer for package vec: Get, covers, Cmp, Join, Sum.
-/
import Derived.Test.YtfijhmlinpjaiaaV
import Derived.Test.YtfijhmlinpjaiaaKitI
import Derived.Handy
namespace Go.Proofs.Ytfijhmlinpjaiaa
open Go.RowKit

/-- Nothing turns; at most some draws were made. -/
def Qt (w w' : World) : Prop := ∃ m, w' = w.drewN m
theorem Qt.refl (w : World) : Qt w w := ⟨0, rfl⟩
theorem Qt.trans {a b c : World} (h : Qt a b) (k : Qt b c) : Qt a c := by
  obtain ⟨m, rfl⟩ := h
  obtain ⟨n, rfl⟩ := k
  exact ⟨m + n, World.drewN_drewN _ _ _⟩
theorem Qt.drewN {a b : World} (h : Qt a b) (n : Nat) : Qt a (b.drewN n) := h.trans ⟨n, rfl⟩
theorem Qt.kp {a b : World} (h : Qt a b) : Kp 0 0 a b := by
  obtain ⟨m, rfl⟩ := h
  exact (Kp.refl _ _ _).drewN m
theorem Calls.kp_of_qt {P : Program} {f : FuncId} {args : Array Value} {w : World} {Q : Ending → Prop} (h : Calls P f args w fun e w' => Q e ∧ Qt w w') : Calls P f args w fun e w' => Q e ∧ Kp 0 0 w w' := h.mono fun _ _ h => ⟨h.1, h.2.kp⟩

set_option maxHeartbeats 1000000 in
theorem refGet_any {l1 h1 : Nat} (l : List Int) (o : Int) (w : World) (v : Value) (hl : RdI .i64 l1 h1 w v l) :
    Calls Try.prog 19 #[v, .int .i64 o] w fun e w' => e = .returned (.int .i64 (V.get l o)) ∧ Qt w w' := by
  obtain ⟨ao, c, rfl, hb1, hb2, hcl⟩ := hl.open
  have HCL := Lib.hid hcl
  clear hl hcl
  by_cases h0 : o < 0
  · have HP := Lib.hid (V.get_neg (l := l) h0)
    go_enter Try.func19, Try.ntmps19
    go_wp2_with fail
    try (go_quiet (fail); go_wp2_with fail)
    go_returns
    rw [HP.out]
    exact ⟨rfl, by first | exact Qt.refl _ | exact ⟨_, rfl⟩⟩
  obtain ⟨i, rfl⟩ := Int.eq_ofNat_of_zero_le (Int.not_lt.1 h0)
  have HP := Lib.hid (V.get_nat l i)
  have i0 : (0 : Int) ≤ (i : Int) := Int.natCast_nonneg _
  by_cases hlt : i < l.length
  · obtain ⟨b1, o1, rfl, _, _, hc1⟩ := HCL.out (by omega)
    have c1 := hc1 i hlt
    have HE : Hid (V.ent l i = max (l.getD i 0) 0) := rfl
    have i1 : (i : Int) < (l.length : Int) := by omega
    clear hc1
    generalize l.getD i 0 = x at c1 HE
    by_cases hx : 0 < x
    · have HV : Hid (V.get l (i : Int) = x) := by
        show _ = _
        rw [HP.out, HE.out]
        omega
      go_enter Try.func19, Try.ntmps19
      go_wp2_with fail
      try (go_quiet (fail); go_wp2_with fail)
      go_returns
      rw [HV.out]
      exact ⟨rfl, by first | exact Qt.refl _ | exact ⟨_, rfl⟩⟩
    · have HV : Hid (V.get l (i : Int) = 0) := by
        show _ = _
        rw [HP.out, HE.out]
        omega
      go_enter Try.func19, Try.ntmps19
      go_wp2_with fail
      try (go_quiet (fail); go_wp2_with fail)
      go_returns
      rw [HV.out]
      exact ⟨rfl, by first | exact Qt.refl _ | exact ⟨_, rfl⟩⟩
  · have HV : Hid (V.get l (i : Int) = 0) := by
      show _ = _
      rw [HP.out]
      exact V.ent_out (by omega)
    have i1 : ¬ (i : Int) < (l.length : Int) := by omega
    go_enter Try.func19, Try.ntmps19
    go_wp2_with fail
    try (go_quiet (fail); go_wp2_with fail)
    go_returns
    rw [HV.out]
    exact ⟨rfl, by first | exact Qt.refl _ | exact ⟨_, rfl⟩⟩

theorem refGet_nat {l1 h1 : Nat} (l : List Int) (i : Nat) (w : World) (v : Value) (hl : RdI .i64 l1 h1 w v l) :
    Calls Try.prog 19 #[v, .int .i64 (i : Int)] w fun e w' => e = .returned (.int .i64 (V.ent l i)) ∧ Qt w w' := by
  have := refGet_any l (i : Int) w v hl
  rwa [V.get_nat] at this

/-- A quiet world: what reads, reads. -/
theorem RdI.qt {K : IntKind} {lo hi : Nat} {w w' : World} {v : Value} {l : List Int} (h : RdI K lo hi w v l) (k : Qt w w') : RdI K lo hi w' v l := h.keep0 k.kp

theorem leB_step {a b : List Int} {k : Nat} (h : ∀ j, j < k → V.ent b j ≤ V.ent a j) (hk : V.ent b k ≤ V.ent a k) : ∀ j, j < k + 1 → V.ent b j ≤ V.ent a j := fun j hj => by
  by_cases he : j = k
  · rw [he]; exact hk
  · exact h j (by omega)

theorem leB_no {a b : List Int} {k : Nat} (h : V.ent a k < V.ent b k) : V.leB b a = false := V.leB_false.2 fun hle => by
  have := hle k
  omega
theorem leB_yes {a b : List Int} (h : ∀ j, j < b.length → V.ent b j ≤ V.ent a j) : V.leB b a = true := V.leB_iff.2 fun j => by
  by_cases hj : j < b.length
  · exact h j hj
  · rw [V.ent_out (Nat.le_of_not_lt hj)]
    exact V.ent_nonneg _ _

set_option maxHeartbeats 1000000 in
theorem refCovers_any {l1 h1 l2 h2 : Nat} (a b : List Int) (w : World) (va vb : Value) (ha : RdI .i64 l1 h1 w va a) (hb : RdI .i64 l2 h2 w vb b) :
    Calls Try.prog 25 #[va, vb] w fun e w' => e = .returned (.bool (V.leB b a)) ∧ Qt w w' := by
  have HA : Hid (∀ (i : Nat) W, Qt w W → Calls Try.prog 19 #[va, .int .i64 (i : Int)] W fun e w' => e = .returned (.int .i64 (V.ent a i)) ∧ Qt W w') := fun i W hW => refGet_nat a i W va (ha.qt hW)
  have HB : Hid (∀ (i : Nat) W, Qt w W → Calls Try.prog 19 #[vb, .int .i64 (i : Int)] W fun e w' => e = .returned (.int .i64 (V.ent b i)) ∧ Qt W w') := fun i W hW => refGet_nat b i W vb (hb.qt hW)
  obtain ⟨ao, ca, rfl, ha1, ha2, _⟩ := ha.open
  obtain ⟨bo, cb, rfl, hb1, hb2, _⟩ := hb.open
  clear ha hb
  go_enter Try.func25, Try.ntmps25
  go_wp2_with fail
  go_loopw [5] (fun i wr => ∃ k : Nat, k ≤ b.length ∧ i = .int .i64 k ∧ Hid (∀ j, j < k → V.ent b j ≤ V.ent a j) ∧ Qt w wr) (fun i _ => b.length - (intOf i).toNat)
  case atStart => exact ⟨0, Nat.zero_le _, rfl, fun j hj => by omega, Qt.refl _⟩
  case round =>
    obtain ⟨k, hk, rfl, HALL, hq⟩ := hrel
    have HQ := Lib.hid hq
    by_cases hlt : k < b.length
    · have HST := Lib.hid (leB_step (a := a) (b := b) (k := k) HALL.out)
      have HNO := Lib.hid (leB_no (a := a) (b := b) (k := k))
      have HAK := Lib.hid (HA.out k)
      have HBK := Lib.hid (HB.out k)
      generalize V.ent a k = x at *
      generalize V.ent b k = y at *
      clear hq
      go_wp2_with fail
      refine (HBK.out _ HQ.out).mono ?_
      rintro e w2 ⟨rfl, hq⟩
      have HQ2 := Lib.hid (HQ.out.trans hq)
      clear hq
      go_wp2_with fail
      refine (HAK.out _ HQ2.out).mono ?_
      rintro e w3 ⟨rfl, hq⟩
      have HQ3 := Lib.hid (HQ2.out.trans hq)
      clear hq
      by_cases hxy : x < y
      · have HF := Lib.hid (HNO.out hxy)
        go_wp2_with fail
        go_returns
        rw [HF.out]
        exact ⟨rfl, HQ3.out⟩
      · have HF := Lib.hid (HST.out (by omega))
        go_wp2_with fail
        go_roundw
        case rel => exact ⟨k + 1, by omega, by go_num, HF, HQ3.out⟩
        case measure => simp [intOf]; omega
    · obtain rfl : k = b.length := by omega
      have HF := Lib.hid (leB_yes HALL.out)
      go_wp2_with fail
      go_returns
      rw [HF.out]
      exact ⟨rfl, hq⟩

end Go.Proofs.Ytfijhmlinpjaiaa
