/-
  The contracts of package quaysidekit's functions on lists of numbers: compared.
-/
import Derived.Test.YtnboeagallkooaaProg
import Derived.Test.YtnboeagallkooaaLib
import Derived.Deep.QuietTactic
namespace Go.Proofs.Ytnboeagallkooaa
open Go.RowKit

theorem info_int : (Try.prog.info? 3).map (fun i => (i.zero, i.size, i.bytes)) = some (some (.int .i64 0), 1, 8) := by kernel_rfl

/-- Are two lists the same? -/
def eqI (a b : List Int) : Bool := decide (a = b)
theorem eqI_self (a : List Int) : eqI a a = true := by simp [eqI]
theorem eqI_of_ne {a b : List Int} (h : a ≠ b) : eqI a b = false := by simp [eqI, h]
theorem eqI_iff {a b : List Int} : eqI a b = true ↔ a = b := by simp [eqI]

theorem sameI_ne {l1 h1 l2 h2 : Nat} (w : World) (va vb : Value) (la lb : List Int) (ha : RdI .i64 l1 h1 w va la) (hb : RdI .i64 l2 h2 w vb lb) (hne : la.length ≠ lb.length) :
    Calls Try.prog 23 #[va, vb] w fun e w' => e = .returned (.bool false) ∧ Kp 0 0 w w' := by
  obtain ⟨ao, ca, rfl, ha1, ha2, ha3⟩ := ha.open
  obtain ⟨bo, cb, rfl, hb1, hb2, hb3⟩ := hb.open
  have hd : ((la.length : Int) == (lb.length : Int)) = false := beq_eq_false_iff_ne.2 (by omega)
  go_enter Try.func23, Try.ntmps23
  go_wp2
  go_ret
  exact ⟨rfl, Kp.refl _ _ _⟩

theorem sameI_go {l1 h1 l2 h2 : Nat} (w : World) (va vb : Value) (la lb : List Int) (ha : RdI .i64 l1 h1 w va la) (hb : RdI .i64 l2 h2 w vb lb) (he : la.length = lb.length) :
    Calls Try.prog 23 #[va, vb] w fun e w' => e = .returned (.bool (eqI la lb)) ∧ Kp 0 0 w w' := by
  obtain ⟨ao, ca, rfl, ha1, ha2, ha3⟩ := ha.open
  obtain ⟨bo, cb, rfl, hb1, hb2, hb3⟩ := hb.open
  have H := Lib.hid he
  have HE : Hid (∀ x y : Int, ∀ k : Nat, k < la.length → la.getD k 0 = x → lb.getD k 0 = y → (x != y) = true → eqI la lb = false) := by
    intro x y k hk hx hy hxy
    refine eqI_of_ne fun e => ?_
    rw [← e, hx] at hy
    simp [hy] at hxy
  have HF : Hid ((∀ j, j < la.length → la.getD j 0 = lb.getD j 0) → eqI la lb = true) := by
    intro h
    refine eqI_iff.2 (List.ext_getElem he fun j hj1 hj2 => ?_)
    have := h j hj1
    simpa [List.getD, hj1, hj2] using this
  have hmax : la.length ≤ 9223372036854775807 := by omega
  clear ha1 ha2 hb1 hb2
  rw [← he]
  clear he
  go_enter Try.func23, Try.ntmps23
  go_wp2
  go_loopw [5] (fun i wr => ∃ k : Nat, k ≤ la.length ∧ i = .int .i64 k ∧ (∀ j, j < k → la.getD j 0 = lb.getD j 0) ∧ Kp 0 0 w wr) (fun i _ => la.length - (intOf i).toNat)
  case atStart => exact ⟨0, Nat.zero_le _, rfl, by omega, Kp.refl _ _ _⟩
  case round =>
    obtain ⟨k, hk, rfl, hall, hbel⟩ := hrel
    have HA := Lib.hid hall
    clear hall
    by_cases hlt : k < la.length
    · obtain ⟨b1, o1, rfl, _, _, hc1⟩ := ha3 (by omega)
      obtain ⟨b2, o2, rfl, _, _, hc2⟩ := hb3 (by have := H.out; omega)
      have c1 := hbel.cell (hc1 k hlt) (.inr (Nat.zero_le _))
      have c2 := hbel.cell (hc2 k (by have := H.out; omega)) (.inr (Nat.zero_le _))
      clear hc1 hc2
      generalize hx : la.getD k 0 = x at c1
      generalize hy : lb.getD k 0 = y at c2
      have HX := Lib.hid hx
      have HY := Lib.hid hy
      clear hx hy
      go_wp2
      go_quiet (fail)
      go_wp2
      · have hne : (x != y) = true := by assumption
        have hfin : eqI la lb = false := HE.out x y k hlt HX.out HY.out hne
        rw [hfin]
        go_ret
        exact ⟨rfl, hbel.drewN _⟩
      · go_roundw
        case rel =>
          have hne : (x != y) = false := by assumption
          refine ⟨k + 1, by omega, by go_num, fun j hj => ?_, hbel.drewN _⟩
          by_cases hjk : j = k
          · subst hjk
            rw [HX.out, HY.out]
            simpa using hne
          · exact HA.out j (by omega)
        case measure => simp [intOf]; omega
    · have hfin : eqI la lb = true := HF.out fun j hj => HA.out j (by omega)
      go_wp2
      rw [hfin]
      go_ret
      exact ⟨rfl, hbel⟩

/-- SameInts: are two lists of numbers the same? -/
theorem sameI_any {l1 h1 l2 h2 : Nat} (w : World) (va vb : Value) (la lb : List Int) (ha : RdI .i64 l1 h1 w va la) (hb : RdI .i64 l2 h2 w vb lb) :
    Calls Try.prog 23 #[va, vb] w fun e w' => e = .returned (.bool (eqI la lb)) ∧ Kp 0 0 w w' := by
  by_cases he : la.length = lb.length
  · exact sameI_go w va vb la lb ha hb he
  · have hf : eqI la lb = false := eqI_of_ne fun e => he (by rw [e])
    rw [hf]
    exact sameI_ne w va vb la lb ha hb he

theorem sameI_yes {l1 h1 l2 h2 : Nat} (w : World) (va vb : Value) (l : List Int) (ha : RdI .i64 l1 h1 w va l) (hb : RdI .i64 l2 h2 w vb l) :
    Calls Try.prog 23 #[va, vb] w fun e w' => e = .returned (.bool true) ∧ Kp 0 0 w w' := by
  have := sameI_any w va vb l l ha hb
  rwa [eqI_self] at this

end Go.Proofs.Ytnboeagallkooaa
