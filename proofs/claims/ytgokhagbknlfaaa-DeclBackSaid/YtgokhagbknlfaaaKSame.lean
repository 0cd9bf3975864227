/-
  The contracts of the functions of package quaysidekit that the statements of this seat call: lists of bytes compared.
-/
import Derived.Test.YtgokhagbknlfaaaProg
import Derived.Test.YtgokhagbknlfaaaLib
namespace Go.Proofs.Ytgokhagbknlfaaa
open Go.RowKit

theorem info_u8 : (Try.prog.info? 5).map (fun i => (i.zero, i.size, i.bytes)) = some (some (.int .u8 0), 1, 1) := by kernel_rfl

/-- Are two lists the same? -/
def eqB (a b : List Int) : Bool := decide (a = b)
theorem eqB_self (a : List Int) : eqB a a = true := by simp [eqB]
theorem eqB_of_ne {a b : List Int} (h : a ≠ b) : eqB a b = false := by simp [eqB, h]
theorem eqB_iff {a b : List Int} : eqB a b = true ↔ a = b := by simp [eqB]

theorem same_ne {l1 h1 l2 h2 : Nat} (w : World) (va vb : Value) (la lb : List Int) (ha : RdI .u8 l1 h1 w va la) (hb : RdI .u8 l2 h2 w vb lb) (hne : la.length ≠ lb.length) :
    Calls Try.prog 12 #[va, vb] w fun e w' => e = .returned (.bool false) ∧ Kp 0 0 w w' := by
  obtain ⟨ao, ca, rfl, ha1, ha2, ha3⟩ := ha.open
  obtain ⟨bo, cb, rfl, hb1, hb2, hb3⟩ := hb.open
  have hd : ((la.length : Int) == (lb.length : Int)) = false := beq_eq_false_iff_ne.2 (by omega)
  go_enter Try.func12, Try.ntmps12
  go_wp2
  go_ret
  exact ⟨rfl, Kp.refl _ _ _⟩

theorem same_go {l1 h1 l2 h2 : Nat} (w : World) (va vb : Value) (la lb : List Int) (ha : RdI .u8 l1 h1 w va la) (hb : RdI .u8 l2 h2 w vb lb) (he : la.length = lb.length) :
    Calls Try.prog 12 #[va, vb] w fun e w' => e = .returned (.bool (eqB la lb)) ∧ Kp 0 0 w w' := by
  obtain ⟨ao, ca, rfl, ha1, ha2, ha3⟩ := ha.open
  obtain ⟨bo, cb, rfl, hb1, hb2, hb3⟩ := hb.open
  have H := Lib.hid he
  have HE : Hid (∀ x y : Int, ∀ k : Nat, k < la.length → la.getD k 0 = x → lb.getD k 0 = y → (x != y) = true → eqB la lb = false) := by
    intro x y k hk hx hy hxy
    refine eqB_of_ne fun e => ?_
    rw [← e, hx] at hy
    simp [hy] at hxy
  have HF : Hid ((∀ j, j < la.length → la.getD j 0 = lb.getD j 0) → eqB la lb = true) := by
    intro h
    refine eqB_iff.2 (List.ext_getElem he fun j hj1 hj2 => ?_)
    have := h j hj1
    simpa [List.getD, hj1, hj2] using this
  have hmax : la.length ≤ 9223372036854775807 := by omega
  clear ha1 ha2 hb1 hb2
  rw [← he]
  clear he
  go_enter Try.func12, Try.ntmps12
  go_wp2
  go_loopw [5] (fun i wr => ∃ k : Nat, k ≤ la.length ∧ i = .int .i64 k ∧ (∀ j, j < k → la.getD j 0 = lb.getD j 0) ∧ Kp 0 0 w wr) (fun i _ => la.length - (intOf i).toNat)
  case atStart => exact ⟨0, Nat.zero_le _, rfl, by omega, Kp.refl _ _ _⟩
  case round =>
    obtain ⟨k, hk, rfl, hall, hbel⟩ := hrel
    have HA := Lib.hid hall
    clear hall
    by_cases hlt : k < la.length
    · obtain ⟨b1, o1, rfl, _, _, hc1⟩ := ha3 (by omega)
      obtain ⟨b2, o2, rfl, _, _, hc2⟩ := hb3 (by have := H.out; omega)
      have c1 := hbel.cell (hc1 k hlt) (.inr (Nat.zero_le _))
      have c2 := hbel.cell (hc2 k (by have := H.out; omega)) (.inr (Nat.zero_le _))
      clear hc1 hc2
      generalize hx : la.getD k 0 = x at c1
      generalize hy : lb.getD k 0 = y at c2
      have HX := Lib.hid hx
      have HY := Lib.hid hy
      clear hx hy
      go_wp2
      go_quiet (fail)
      go_wp2
      · have hne : (x != y) = true := by assumption
        have hfin : eqB la lb = false := HE.out x y k hlt HX.out HY.out hne
        rw [hfin]
        go_ret
        exact ⟨rfl, hbel.drewN _⟩
      · go_roundw
        case rel =>
          have hne : (x != y) = false := by assumption
          refine ⟨k + 1, by omega, by go_num, fun j hj => ?_, hbel.drewN _⟩
          by_cases hjk : j = k
          · subst hjk
            rw [HX.out, HY.out]
            simpa using hne
          · exact HA.out j (by omega)
        case measure => simp [intOf]; omega
    · have hfin : eqB la lb = true := HF.out fun j hj => HA.out j (by omega)
      go_wp2
      rw [hfin]
      go_ret
      exact ⟨rfl, hbel⟩

/-- SameBytes: are two lists of bytes the same? -/
theorem same_any {l1 h1 l2 h2 : Nat} (w : World) (va vb : Value) (la lb : List Int) (ha : RdI .u8 l1 h1 w va la) (hb : RdI .u8 l2 h2 w vb lb) :
    Calls Try.prog 12 #[va, vb] w fun e w' => e = .returned (.bool (eqB la lb)) ∧ Kp 0 0 w w' := by
  by_cases he : la.length = lb.length
  · exact same_go w va vb la lb ha hb he
  · have hf : eqB la lb = false := eqB_of_ne fun e => he (by rw [e])
    rw [hf]
    exact same_ne w va vb la lb ha hb he

theorem same_yes {l1 h1 l2 h2 : Nat} (w : World) (va vb : Value) (l : List Int) (ha : RdI .u8 l1 h1 w va l) (hb : RdI .u8 l2 h2 w vb l) :
    Calls Try.prog 12 #[va, vb] w fun e w' => e = .returned (.bool true) ∧ Kp 0 0 w w' := by
  have := same_any w va vb l l ha hb
  rwa [eqB_self] at this

theorem take_snoc_getD {l : List Int} {k : Nat} (h : k < l.length) : l.take (k + 1) = l.take k ++ [l.getD k 0] := by
  rw [List.take_succ_eq_append_getElem h]
  simp [List.getD, h]

end Go.Proofs.Ytgokhagbknlfaaa
