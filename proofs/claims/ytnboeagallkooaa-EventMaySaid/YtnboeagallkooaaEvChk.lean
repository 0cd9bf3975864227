/-
  The landed Check keeps the document; its inner functions.
-/
import Derived.Test.YtnboeagallkooaaEvRef
import Derived.Test.YtnboeagallkooaaRep
namespace Go.Proofs.Ytnboeagallkooaa
open Go.RowKit

/-- below: from 0 to the end. -/
theorem below_yes (a b : Int) (w : World) (h0 : 0 ≤ a) (h1 : a < b) : Calls Try.prog 22 #[.int .i64 a, .int .i64 b] w fun r w' => r = .returned (.bool true) ∧ w' = w := by
  go_enter Try.func22, Try.ntmps22
  go_wp2_with fail
  go_returns
  exact ⟨rfl, rfl⟩

theorem below_no (a b : Int) (w : World) (h : a < 0 ∨ b ≤ a) : Calls Try.prog 22 #[.int .i64 a, .int .i64 b] w fun r w' => r = .returned (.bool false) ∧ w' = w := by
  by_cases h0 : a < 0
  · have h2 : ¬ 0 ≤ a := by omega
    go_enter Try.func22, Try.ntmps22
    go_wp2_with fail
    go_returns
    exact ⟨rfl, rfl⟩
  · have h2 : 0 ≤ a := by omega
    have h3 : ¬ a < b := by omega
    go_enter Try.func22, Try.ntmps22
    go_wp2_with fail
    go_returns
    exact ⟨rfl, rfl⟩

theorem neg_any (a : Int) (b : Bool) (w : World) (h : decide (a < 0) = b) : Calls Try.prog 35 #[.int .i64 a] w fun r w' => r = .returned (.bool b) ∧ w' = w := by
  subst h
  by_cases h0 : a < 0
  · go_enter Try.func35, Try.ntmps35
    go_wp2_with fail
    go_returns
    exact ⟨by simp [h0], rfl⟩
  · go_enter Try.func35, Try.ntmps35
    go_wp2_with fail
    go_returns
    exact ⟨by simp [h0], rfl⟩

set_option maxHeartbeats 1000000 in
/-- slices.IndexFunc over 'negative': the first place where a number is below 0, or -1. -/
theorem index_neg {l1 h1 : Nat} (l : List Int) (w : World) (v : Value) (hv : RdI .i64 l1 h1 w v l) :
    Calls Try.prog 47 #[v, .func (.func 35) #[] #[]] w fun r w' => ∃ x : Int, r = .returned (.int .i64 x) ∧ w' = w ∧ ((x = -1 ∧ ∀ j, j < l.length → 0 ≤ l.getD j 0) ∨ (0 ≤ x ∧ ∃ j, j < l.length ∧ l.getD j 0 < 0)) := by
  obtain ⟨ao, c, rfl, _, _, hcl⟩ := hv.open
  have HCL := Lib.hid hcl
  clear hv hcl
  go_enter Try.func47, Try.ntmps47
  go_wp2_with fail
  go_loopw [5, 8] (fun _ i wr => ∃ k : Nat, k ≤ l.length ∧ i = .int .i64 k ∧ Hid (∀ j, j < k → 0 ≤ l.getD j 0) ∧ Eqw w wr) (fun _ i _ => l.length - (intOf i).toNat)
  case atStart => exact ⟨0, Nat.zero_le _, rfl, fun j hj => by omega, rfl⟩
  case round =>
    obtain ⟨k, hk, rfl, HALL, hq⟩ := hrel
    have hq' : wr = w := hq.symm
    subst hq'
    by_cases hlt : k < l.length
    · obtain ⟨b1, o1, rfl, _, _, hc1⟩ := HCL.out (by omega)
      have c1 := hc1 k hlt
      have HST : Hid (0 ≤ l.getD k 0 → ∀ j, j < k + 1 → 0 ≤ l.getD j 0) := fun h j hj => by
        by_cases hjk : j = k
        · rw [hjk]; exact h
        · exact HALL.out j (by omega)
      have HBAD : Hid (l.getD k 0 < 0 → ∃ j, j < l.length ∧ l.getD j 0 < 0) := fun h => ⟨k, hlt, h⟩
      clear hc1
      generalize l.getD k 0 = x at c1 HST HBAD
      by_cases hx : x < 0
      · go_wp2_with fail
        refine (neg_any x true _ (by simp [hx])).mono ?_
        rintro r w2 ⟨rfl, rfl⟩
        go_wp2_with fail
        go_returns
        exact ⟨k, rfl, rfl, .inr ⟨by omega, HBAD.out hx⟩⟩
      · go_wp2_with fail
        refine (neg_any x false _ (by simp [hx])).mono ?_
        rintro r w2 ⟨rfl, rfl⟩
        go_wp2_with fail
        go_roundw
        case rel => exact ⟨k + 1, by omega, by go_num, HST.out (by omega), rfl⟩
        case measure => simp [intOf]; omega
    · obtain rfl : k = l.length := by omega
      go_wp2_with fail
      go_returns
      exact ⟨-1, rfl, rfl, .inl ⟨rfl, HALL.out⟩⟩

/-- What is told of whether a number is below 0. -/
def SomeNeg (l : List Int) (w : World) (r : Ending) (w' : World) : Prop := ∃ b : Bool, r = .returned (.bool b) ∧ w' = w ∧ ((b = false ∧ ∀ j, j < l.length → 0 ≤ l.getD j 0) ∨ (b = true ∧ ∃ j, j < l.length ∧ l.getD j 0 < 0))

theorem some_neg {l1 h1 : Nat} (l : List Int) (w : World) (v : Value) (hv : RdI .i64 l1 h1 w v l) :
    Calls Try.prog 34 #[v, .func (.func 35) #[] #[]] w (SomeNeg l w) := by
  have HV := Lib.hid hv
  obtain ⟨ao, c, rfl, _, _, _⟩ := hv.open
  clear hv
  go_enter Try.func34, Try.ntmps34
  go_wp2_with fail
  refine (index_neg l w _ HV.out).mono ?_
  rintro r w2 ⟨x, rfl, rfl, hx⟩
  rcases hx with ⟨rfl, hx⟩ | ⟨h0, hx⟩
  · have HX := Lib.hid hx
    clear hx
    go_wp2_with fail
    go_returns
    exact ⟨_, rfl, rfl, .inl ⟨rfl, HX.out⟩⟩
  · have HX := Lib.hid hx
    clear hx
    go_wp2_with fail
    go_returns
    exact ⟨_, rfl, rfl, .inr ⟨rfl, HX.out⟩⟩

/-- What is asked of the numbers. -/
def Arg (e : Evt) (n : Int) : Prop := e.o < 0 ∨ n ≤ e.o ∨ e.s < 1 ∨ e.l < 1 ∨ e.a < 0 ∨ e.k < 0 ∨ (e.d.length : Int) ≠ n

/-- What is told of an event's numbers. -/
def Place (e : Evt) (n : Int) (w : World) (r : Ending) (w' : World) : Prop := ∃ b : Bool, r = .returned (.bool b) ∧ Kp 0 0 w w' ∧ ((b = true ∧ ¬ Arg e n ∧ ∀ j, j < e.d.length → 0 ≤ e.d.getD j 0) ∨ (b = false ∧ (Arg e n ∨ ∃ j, j < e.d.length ∧ e.d.getD j 0 < 0)))

set_option maxRecDepth 100000 in
set_option maxHeartbeats 4000000 in
theorem place_any {l1 h1 : Nat} (e : Evt) (n : Int) (w : World) (dv : Value) (hd : RdI .i64 l1 h1 w dv e.d) :
    Calls Try.prog 21 #[evV e dv, .int .i64 n] w (Place e n w) := by
  have HD := Lib.hid hd
  obtain ⟨ao, c, rfl, hb1, hb2, _⟩ := hd.open
  clear hd
  unfold evV
  have HKA : Hid (Kp 0 0 w (w.alloc (.cells #[Value.int .i64 e.o, .int .i64 e.s, .int .i64 e.l, .slice ao e.d.length c, .int .i64 e.t, .int .i64 e.a, .int .i64 e.f, .int .i64 e.p, .int .i64 e.r, .int .i64 e.k] 26))) := (Kp.refl _ _ _).alloc _
  by_cases h1 : e.o < 0 ∨ n ≤ e.o
  · have HA : Hid (Arg e n) := h1.elim (fun h => .inl h) (fun h => .inr (.inl h))
    go_enter Try.func21, Try.ntmps21
    go_wp2_with (go_at_call 22; refine (below_no _ _ _ h1).mono ?_; rintro r w2 ⟨rfl, rfl⟩)
    go_returns
    exact ⟨_, rfl, HKA.out, .inr ⟨rfl, .inl HA.out⟩⟩
  have h1a : ¬ e.o < 0 := fun h => h1 (.inl h)
  have h1b : ¬ n ≤ e.o := fun h => h1 (.inr h)
  clear h1
  by_cases h2 : e.s < 1
  · have HA : Hid (Arg e n) := .inr (.inr (.inl h2))
    go_enter Try.func21, Try.ntmps21
    go_wp2_with (go_at_call 22; refine (below_yes _ _ _ (by omega) (by omega)).mono ?_; rintro r w2 ⟨rfl, rfl⟩)
    go_returns
    exact ⟨_, rfl, HKA.out, .inr ⟨rfl, .inl HA.out⟩⟩
  by_cases h3 : e.l < 1
  · have HA : Hid (Arg e n) := .inr (.inr (.inr (.inl h3)))
    go_enter Try.func21, Try.ntmps21
    go_wp2_with (go_at_call 22; refine (below_yes _ _ _ (by omega) (by omega)).mono ?_; rintro r w2 ⟨rfl, rfl⟩)
    go_returns
    exact ⟨_, rfl, HKA.out, .inr ⟨rfl, .inl HA.out⟩⟩
  by_cases h4 : e.a < 0
  · have HA : Hid (Arg e n) := .inr (.inr (.inr (.inr (.inl h4))))
    go_enter Try.func21, Try.ntmps21
    go_wp2_with (go_at_call 22; refine (below_yes _ _ _ (by omega) (by omega)).mono ?_; rintro r w2 ⟨rfl, rfl⟩)
    go_returns
    exact ⟨_, rfl, HKA.out, .inr ⟨rfl, .inl HA.out⟩⟩
  by_cases h5 : e.k < 0
  · have HA : Hid (Arg e n) := .inr (.inr (.inr (.inr (.inr (.inl h5)))))
    go_enter Try.func21, Try.ntmps21
    go_wp2_with (go_at_call 22; refine (below_yes _ _ _ (by omega) (by omega)).mono ?_; rintro r w2 ⟨rfl, rfl⟩)
    go_returns
    exact ⟨_, rfl, HKA.out, .inr ⟨rfl, .inl HA.out⟩⟩
  by_cases h6 : ¬ (e.d.length : Int) = n
  · have HA : Hid (Arg e n) := .inr (.inr (.inr (.inr (.inr (.inr h6)))))
    have h6b : ((e.d.length : Int) == n) = false := by simp [h6]
    go_enter Try.func21, Try.ntmps21
    go_wp2_with (go_at_call 22; refine (below_yes _ _ _ (by omega) (by omega)).mono ?_; rintro r w2 ⟨rfl, rfl⟩)
    go_returns
    exact ⟨_, rfl, HKA.out, .inr ⟨rfl, .inl HA.out⟩⟩
  have h6 : (e.d.length : Int) = n := Decidable.not_not.1 h6
  subst h6
  have h6b : ((e.d.length : Int) == (e.d.length : Int)) = true := by simp
  have HN : Hid (¬ Arg e (e.d.length : Int)) := by
    show ¬ _
    unfold Arg
    omega
  have HS : Hid (∀ W, Kp 0 0 w W → Calls Try.prog 34 #[.slice ao e.d.length c, .func (.func 35) #[] #[]] W (SomeNeg e.d W)) := fun W hW => some_neg e.d W _ (HD.out.keep0 hW)
  go_enter Try.func21, Try.ntmps21
  go_wp2_with (go_at_call 22; refine (below_yes _ _ _ (by omega) (by omega)).mono ?_; rintro r w2 ⟨rfl, rfl⟩)
  refine (HS.out _ HKA.out).mono ?_
  rintro r w2 ⟨b, rfl, rfl, hx⟩
  rcases hx with ⟨rfl, hx⟩ | ⟨rfl, hx⟩
  · have HX := Lib.hid hx
    clear hx
    go_wp2_with fail
    go_returns
    exact ⟨_, rfl, HKA.out, .inl ⟨rfl, HN.out, HX.out⟩⟩
  · have HX := Lib.hid hx
    clear hx
    go_wp2_with fail
    go_returns
    exact ⟨_, rfl, HKA.out, .inr ⟨rfl, .inr HX.out⟩⟩

end Go.Proofs.Ytnboeagallkooaa
