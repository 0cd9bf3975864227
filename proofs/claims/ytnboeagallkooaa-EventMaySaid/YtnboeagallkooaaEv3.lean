/-
  Events, plainly: an event that may be, with one thing of it out of its place.
-/
import Derived.Test.YtnboeagallkooaaEvRef
namespace Go.Proofs.Ytnboeagallkooaa
namespace Ev

/-- What it means that an event may be. -/
structure May (e : Evt) (n : Int) : Prop where
  o0 : 0 ≤ e.o
  on : e.o < n
  s1 : 1 ≤ e.s
  l1 : 1 ≤ e.l
  a0 : 0 ≤ e.a
  k0 : 0 ≤ e.k
  dn : (e.d.length : Int) = n
  d0 : ∀ i, i < e.d.length → 0 ≤ e.d.getD i 0
  ds : e.d.getD e.o.toNat 0 = e.s - 1
  p1 : 1 ≤ e.p ∧ e.p ≤ 5
  t1 : 0 ≤ e.t ∧ e.t ≤ 7
  f1 : 0 ≤ e.f ∧ e.f ≤ 7

theorem may_of {e : Evt} {n : Int} (h : check e n = 0) : May e n := by
  by_cases h1 : e.o < 0 ∨ n ≤ e.o ∨ e.s < 1 ∨ e.l < 1 ∨ e.a < 0 ∨ e.k < 0 ∨ (e.d.length : Int) ≠ n
  · rw [chk_arg h1] at h; cases h
  by_cases h2 : ∀ i, i < e.d.length → 0 ≤ e.d.getD i 0
  · have hc := chk_order h1 h2
    rw [h] at hc
    by_cases h3 : e.d.getD e.o.toNat 0 ≠ e.s - 1
    · rw [if_pos h3] at hc; cases hc
    rw [if_neg h3] at hc
    by_cases h4 : e.p < 1 ∨ 5 < e.p
    · rw [if_pos h4] at hc; cases hc
    rw [if_neg h4] at hc
    by_cases h5 : e.t < 0 ∨ 7 < e.t ∨ e.f < 0 ∨ 7 < e.f
    · rw [if_pos h5] at hc; cases hc
    exact ⟨by omega, by omega, by omega, by omega, by omega, by omega, by omega, h2, by omega, by omega, by omega, by omega⟩
  · exfalso
    simp only [Classical.not_forall, Int.not_le] at h2
    obtain ⟨i, hi, hx⟩ := h2
    rw [chk_neg h1 hi hx] at h
    cases h

theorem May.ok {e : Evt} {n : Int} (h : May e n) : ¬ (e.o < 0 ∨ n ≤ e.o ∨ e.s < 1 ∨ e.l < 1 ∨ e.a < 0 ∨ e.k < 0 ∨ (e.d.length : Int) ≠ n) := by
  have := h.o0; have := h.on; have := h.s1; have := h.l1; have := h.a0; have := h.k0; have := h.dn
  omega

theorem may_len {e : Evt} {n m : Int} (h : May e n) (hm : m ≠ n) : check e m = 1 := chk_arg (by
  have := h.dn
  omega)

theorem may_p {e : Evt} {n : Int} (h : May e n) : check { e with p := 6 } n = 2 := by
  have hc := chk_order (e := { e with p := 6 }) (n := n) h.ok h.d0
  rw [hc, if_neg (fun c => c h.ds), if_pos (.inr (by show (5 : Int) < 6; decide))]

theorem may_t {e : Evt} {n : Int} (h : May e n) : check { e with t := 8 } n = 8 := by
  have hc := chk_order (e := { e with t := 8 }) (n := n) h.ok h.d0
  have hp := h.p1
  rw [hc, if_neg (fun c => c h.ds), if_neg (by show ¬ (e.p < 1 ∨ 5 < e.p); omega), if_pos (.inr (.inl (by show (7 : Int) < 8; decide)))]

theorem may_f {e : Evt} {n : Int} (h : May e n) : check { e with f := -1 } n = 8 := by
  have hc := chk_order (e := { e with f := -1 }) (n := n) h.ok h.d0
  have hp := h.p1
  rw [hc, if_neg (fun c => c h.ds), if_neg (by show ¬ (e.p < 1 ∨ 5 < e.p); omega), if_pos (.inr (.inr (.inl (by show (-1 : Int) < 0; decide))))]

theorem may_l {e : Evt} {n : Int} (_h : May e n) : check { e with l := 0 } n = 1 := chk_arg (.inr (.inr (.inr (.inl (by show (0 : Int) < 1; decide)))))

theorem getD_set_ne {l : List Int} {i j : Nat} {x : Int} (h : i ≠ j) : (l.set i x).getD j 0 = l.getD j 0 := by
  simp [List.getD, h]
theorem getD_set_eq {l : List Int} {i : Nat} {x : Int} (h : i < l.length) : (l.set i x).getD i 0 = x := by
  simp [List.getD, h]

theorem may_d {e : Evt} {n : Int} (h : May e n) : check { e with d := e.d.set e.o.toNat e.s } n = 9 := by
  have hO : e.o.toNat < e.d.length := by
    have := h.o0; have := h.on; have := h.dn
    omega
  have hok : ¬ (({ e with d := e.d.set e.o.toNat e.s } : Evt).o < 0 ∨ n ≤ ({ e with d := e.d.set e.o.toNat e.s } : Evt).o ∨ ({ e with d := e.d.set e.o.toNat e.s } : Evt).s < 1 ∨ ({ e with d := e.d.set e.o.toNat e.s } : Evt).l < 1 ∨ ({ e with d := e.d.set e.o.toNat e.s } : Evt).a < 0 ∨ ({ e with d := e.d.set e.o.toNat e.s } : Evt).k < 0 ∨ ((({ e with d := e.d.set e.o.toNat e.s } : Evt).d.length : Nat) : Int) ≠ n) := by
    simp only [List.length_set]
    exact h.ok
  have hc := chk_order hok (fun i hi => by
    simp only [List.length_set] at hi ⊢
    by_cases he : e.o.toNat = i
    · subst he
      rw [getD_set_eq hO]
      have := h.s1
      omega
    · rw [getD_set_ne he]
      exact h.d0 i hi)
  rw [hc, if_pos]
  show (e.d.set e.o.toNat e.s).getD e.o.toNat 0 ≠ e.s - 1
  rw [getD_set_eq hO]
  omega

theorem may_g {e : Evt} {n : Int} (h : May e n) {i : Nat} (hi : i < e.d.length) : check { e with d := e.d.set i (-1) } n = 1 := by
  have hok : ¬ (({ e with d := e.d.set i (-1) } : Evt).o < 0 ∨ n ≤ ({ e with d := e.d.set i (-1) } : Evt).o ∨ ({ e with d := e.d.set i (-1) } : Evt).s < 1 ∨ ({ e with d := e.d.set i (-1) } : Evt).l < 1 ∨ ({ e with d := e.d.set i (-1) } : Evt).a < 0 ∨ ({ e with d := e.d.set i (-1) } : Evt).k < 0 ∨ ((({ e with d := e.d.set i (-1) } : Evt).d.length : Nat) : Int) ≠ n) := by
    simp only [List.length_set]
    exact h.ok
  exact chk_neg hok (i := i) (by simp only [List.length_set]; exact hi) (by
    show (e.d.set i (-1)).getD i 0 < 0
    rw [getD_set_eq hi]
    decide)

end Ev
end Go.Proofs.Ytnboeagallkooaa
