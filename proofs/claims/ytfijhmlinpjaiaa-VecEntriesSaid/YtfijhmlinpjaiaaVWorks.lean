/-
  The chapter's vectors come out right, where Get, Cmp, Join and Sum keep the document.
-/
import Derived.Test.YtfijhmlinpjaiaaVSpec
namespace Go.Proofs.Ytfijhmlinpjaiaa
open Go.RowKit

theorem lit_i (w : World) (zs : List Int) (h : zs.length ≤ 1000) : RdI .i64 w.heap.size (w.heap.size + 1) (w.alloc (.cells (zs.map (.int .i64)).toArray 3)) (.slice (some ⟨w.heap.size, 0, none⟩) zs.length zs.length) zs :=
  lit_rd .i64 3 w zs (by unfold maxLen; omega)

theorem i64_dec {l : List Int} (h : l.all (fun x => decide (-9223372036854775808 ≤ x ∧ x ≤ 9223372036854775807)) = true) : V.I64 l := fun x hx => of_decide_eq_true (List.all_eq_true.1 h x hx)

/-- Sum of a literal. -/
theorem sum_lit (HS : SumOk) (zs : List Int) (r : Int × Bool) (w : World) (h1 : (decide (zs.length ≤ 1000) && zs.all fun x => decide (-9223372036854775808 ≤ x ∧ x ≤ 9223372036854775807)) = true) (hr : V.sum zs = r) :
    Calls Try.prog 12 #[.slice (some ⟨w.heap.size, 0, none⟩) zs.length zs.length] (w.alloc (.cells (zs.map (.int .i64)).toArray 3)) fun e w' => e = .returned (.tuple #[.int .i64 r.1, .bool r.2]) ∧ Kp 0 0 w w' := by
  rw [Bool.and_eq_true, decide_eq_true_iff] at h1
  have := HS _ _ zs _ _ (lit_i w zs h1.1) (i64_dec h1.2) (by omega)
  rw [hr] at this
  exact this.mono fun e w' h => ⟨h.1, ((Kp.refl _ _ _).alloc _).trans h.2.kp⟩

theorem two_lits (w : World) (p q : List Int) (hp : p.length ≤ 1000) (hq : q.length ≤ 1000) :
    RdI .i64 w.heap.size (w.heap.size + 1) ((w.alloc (.cells (p.map (.int .i64)).toArray 3)).alloc (.cells (q.map (.int .i64)).toArray 3)) (.slice (some ⟨w.heap.size, 0, none⟩) p.length p.length) p ∧
    RdI .i64 (w.heap.size + 1) (w.heap.size + 1 + 1) ((w.alloc (.cells (p.map (.int .i64)).toArray 3)).alloc (.cells (q.map (.int .i64)).toArray 3)) (.slice (some ⟨w.heap.size + 1, 0, none⟩) q.length q.length) q ∧
    Kp 0 0 w ((w.alloc (.cells (p.map (.int .i64)).toArray 3)).alloc (.cells (q.map (.int .i64)).toArray 3)) := by
  refine ⟨(lit_i w p hp).keep0 ((Kp.refl _ _ _).alloc _), ?_, ((Kp.refl _ _ _).alloc _).alloc _⟩
  have h := lit_i (w.alloc (.cells (p.map (.int .i64)).toArray 3)) q hq
  have hs : (w.alloc (.cells (p.map (.int .i64)).toArray 3)).heap.size = w.heap.size + 1 := by simp
  rwa [hs] at h

/-- May this be a literal? -/
def litOk (zs : List Int) : Bool := decide (zs.length ≤ 1000) && zs.all fun x => decide (-9223372036854775808 ≤ x ∧ x ≤ 9223372036854775807)
theorem litOk_len {zs : List Int} (h : litOk zs = true) : zs.length ≤ 1000 := by
  unfold litOk at h
  rw [Bool.and_eq_true, decide_eq_true_iff] at h
  exact h.1
theorem litOk_i64 {zs : List Int} (h : litOk zs = true) : V.I64 zs := by
  unfold litOk at h
  rw [Bool.and_eq_true] at h
  exact i64_dec h.2

/-- Cmp of two literals. -/
theorem cmp_lits (HC : CmpOk) (p q : List Int) (r : Int) (w : World) (h1 : litOk p = true) (h2 : litOk q = true) (hr : V.cmp p q = r) :
    Calls Try.prog 16 #[.slice (some ⟨w.heap.size, 0, none⟩) p.length p.length, .slice (some ⟨w.heap.size + 1, 0, none⟩) q.length q.length] ((w.alloc (.cells (p.map (.int .i64)).toArray 3)).alloc (.cells (q.map (.int .i64)).toArray 3)) fun e w' => e = .returned (.int .i64 r) ∧ Kp 0 0 w w' := by
  have l1 := litOk_len h1
  have l2 := litOk_len h2
  obtain ⟨r1, r2, k⟩ := two_lits w p q l1 l2
  have := HC _ _ _ _ p q _ _ _ r1 r2 (litOk_i64 h1) (litOk_i64 h2) (by omega) (by omega)
  rw [hr] at this
  exact this.mono fun e w' h => ⟨h.1, k.trans h.2.kp⟩

/-- Join of two literals. -/
theorem join_lits (HJ : JoinOk) (p q r : List Int) (w : World) (h1 : litOk p = true) (h2 : litOk q = true) (hr : V.join p q = r) :
    Calls Try.prog 11 #[.slice (some ⟨w.heap.size, 0, none⟩) p.length p.length, .slice (some ⟨w.heap.size + 1, 0, none⟩) q.length q.length] ((w.alloc (.cells (p.map (.int .i64)).toArray 3)).alloc (.cells (q.map (.int .i64)).toArray 3)) fun e w' => (∃ v, e = .returned v ∧ RdI .i64 0 w'.heap.size w' v r) ∧ Kp 0 0 w w' := by
  have l1 := litOk_len h1
  have l2 := litOk_len h2
  obtain ⟨r1, r2, k⟩ := two_lits w p q l1 l2
  have := HJ _ _ _ _ p q _ _ _ r1 r2 (litOk_i64 h1) (litOk_i64 h2) (by omega) (by omega)
  rw [hr] at this
  exact this.mono fun e w' h => by
    obtain ⟨v, he, ho, hk⟩ := h
    exact ⟨⟨v, he, ho.rd.wide (Nat.zero_le _) (Nat.le_refl _)⟩, k.trans hk⟩

set_option maxRecDepth 100000 in
set_option maxHeartbeats 2000000 in
theorem works_any (HC : CmpOk) (HJ : JoinOk) (HS : SumOk) (w : World) : Calls Try.prog 9 #[] w fun e w' => e = .returned (.bool true) ∧ Kp 0 0 w w' := by
  go_enter Try.func9, Try.ntmps9
  go_wp2_with fail
  refine (sum_lit HS [1, -7, 2] (3, true) w (by decide) (by decide)).mono ?_
  rintro e w1 ⟨rfl, hk⟩
  have HK1 := Lib.hid hk
  clear hk
  go_wp2_with fail
  refine (sum_lit HS [4611686018427387904, 4611686018427387904] (0, false) w1 (by decide) (by decide)).mono ?_
  rintro e w2 ⟨rfl, hk⟩
  have HK2 := Lib.hid (HK1.out.trans hk)
  clear hk
  go_wp2_with fail
  refine (cmp_lits HC [1, 2] [1, 2, 0] 0 w2 (by decide) (by decide) (by decide)).mono ?_
  rintro e w3 ⟨rfl, hk⟩
  have HK3 := Lib.hid (HK2.out.trans hk)
  clear hk
  go_wp2_with fail
  refine (cmp_lits HC [1, 2] [1, 3] 1 w3 (by decide) (by decide) (by decide)).mono ?_
  rintro e w4 ⟨rfl, hk⟩
  have HK4 := Lib.hid (HK3.out.trans hk)
  clear hk
  go_wp2_with fail
  refine (cmp_lits HC [1, 2] [2, 1] 3 w4 (by decide) (by decide) (by decide)).mono ?_
  rintro e w5 ⟨rfl, hk⟩
  have HK5 := Lib.hid (HK4.out.trans hk)
  clear hk
  go_wp2_with fail
  refine (join_lits HJ [1, 5] [2, -3, 4] [2, 5, 4] w5 (by decide) (by decide) (by decide)).mono ?_
  rintro e w6 ⟨⟨v6, rfl, hv6⟩, hk⟩
  have HK6 := Lib.hid (HK5.out.trans hk)
  have HV6 := Lib.hid hv6
  obtain ⟨a6, c6, rfl, _, _, _⟩ := hv6.open
  clear hk hv6
  go_wp2_with fail
  refine (sameI_yes _ _ _ [2, 5, 4] (HV6.out.keep0 ((Kp.refl _ _ _).alloc _)) (lit_i w6 [2, 5, 4] (by decide))).mono ?_
  rintro e w7 ⟨rfl, hk⟩
  have HK7 := Lib.hid ((HK6.out.alloc _).trans hk)
  clear hk
  go_wp2_with fail
  go_returns
  exact ⟨rfl, HK7.out⟩

end Go.Proofs.Ytfijhmlinpjaiaa
