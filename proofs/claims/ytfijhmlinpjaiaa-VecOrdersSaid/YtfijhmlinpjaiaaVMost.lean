/-
  The contract of the statements' atMost: is a vector Same as another one, or Less?
-/
import Derived.Test.YtfijhmlinpjaiaaVWorks
namespace Go.Proofs.Ytfijhmlinpjaiaa
open Go.RowKit

set_option maxHeartbeats 1000000 in
theorem atMost_any (HC : CmpOk) {l1 h1 l2 h2 : Nat} (a b : List Int) (w : World) (va vb : Value) (ha : RdI .i64 l1 h1 w va a) (hb : RdI .i64 l2 h2 w vb b) (ia : V.I64 a) (ib : V.I64 b) (la : a.length ≤ 1000000) (lb : b.length ≤ 1000000) :
    Calls Try.prog 22 #[va, vb] w fun e w' => e = .returned (.bool (V.leB a b)) ∧ Qt w w' := by
  have H := Lib.hid (HC _ _ _ _ a b w va vb ha hb ia ib la lb)
  have HE := Lib.hid (V.atMost_eq a b)
  have hcs := V.cmp_cases a b
  obtain ⟨ao, ca, rfl, _, _, _⟩ := ha.open
  obtain ⟨bo, cb, rfl, _, _, _⟩ := hb.open
  clear ha hb ia ib
  have HM : Hid (V.atMost a b = decide (V.cmp a b = 0 ∨ V.cmp a b = 1)) := rfl
  generalize V.leB a b = m at HE ⊢
  generalize V.cmp a b = r at *
  have hr : r = 0 ∨ r = 1 ∨ r = 2 ∨ r = 3 := by omega
  have HMM : Hid (m = decide (r = 0 ∨ r = 1)) := HE.out.symm.trans HM.out
  clear hcs HE HM
  rcases hr with rfl | rfl | rfl | rfl
  all_goals
    go_enter Try.func22, Try.ntmps22
    go_wp2_with fail
    refine H.out.mono ?_
    rintro e w1 ⟨rfl, hq⟩
    have HQ := Lib.hid hq
    clear hq
    go_wp2_with fail
    go_returns
    rw [HMM.out]
    exact ⟨by simp, HQ.out⟩

/-- Join, as a slice that reads. -/
theorem join_rd (HJ : JoinOk) {l1 h1 l2 h2 : Nat} (p q : List Int) (w : World) (vp vq : Value) (hp : RdI .i64 l1 h1 w vp p) (hq : RdI .i64 l2 h2 w vq q) (ip : V.I64 p) (iq : V.I64 q) (lp : p.length ≤ 1000000) (lq : q.length ≤ 1000000) :
    Calls Try.prog 11 #[vp, vq] w fun e w' => (∃ o c, e = .returned (.slice o (V.join p q).length c) ∧ RdI .i64 0 w'.heap.size w' (.slice o (V.join p q).length c) (V.join p q)) ∧ Kp 0 0 w w' :=
  (HJ _ _ _ _ p q w vp vq hp hq ip iq lp lq).mono fun e w' h => by
    obtain ⟨v, he, ho, hk⟩ := h
    obtain ⟨o, c, rfl, _, _, _⟩ := ho.rd.open
    exact ⟨⟨o, c, he, ho.rd.wide (Nat.zero_le _) (Nat.le_refl _)⟩, hk⟩

end Go.Proofs.Ytfijhmlinpjaiaa
