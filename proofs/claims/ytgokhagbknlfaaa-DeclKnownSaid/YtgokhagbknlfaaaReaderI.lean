/-
  The contracts of package pack's exported read methods: Int, Count, Blob, Done.
-/
import Derived.Test.YtgokhagbknlfaaaCatchI
namespace Go.Proofs.Ytgokhagbknlfaaa
open Go.RowKit
set_option maxRecDepth 100000

theorem rint_any {p lo : Nat} (l : List Int) (er : Int) (w : World) (h : Rdr p lo w l er) (hb : ∀ y ∈ l, 0 ≤ y ∧ y < 256) :
    Calls Try.prog 49 #[.pointer (some ⟨p, 0, none⟩)] w fun e w' => e = .returned (.int .i64 (Pk.rdInt l er).1) ∧ Rdr p lo w' (Pk.rdInt l er).2.1 (Pk.rdInt l er).2.2 ∧ Kp p (p + 1) w w' := by
  have hmf := makeF
  have H := Lib.hid h
  clear h
  by_cases he : er = 0
  · subst he
    have HX : Hid (∀ e w', Reads p lo w l (Pk.num l) e w' → ∃ x, e = .returned (.int .i64 x) ∧ x = (Pk.rdInt l 0).1 ∧ Rdr p lo w' (Pk.rdInt l 0).2.1 (Pk.rdInt l 0).2.2 ∧ Kp p (p + 1) w w') := fun e w' h => ⟨_, h.1, rfl, h.2⟩
    go_enter Try.func49, Try.ntmps49
    go_wp2_with fail
    refine (attempt_num l w H.out hb).mono ?_
    intro e w1 hR
    obtain ⟨x, rfl, hx, hr, hk⟩ := HX.out e w1 hR
    have HR := Lib.hid (And.intro hx (And.intro hr hk))
    clear hR hx hr hk
    go_wp2_with fail
    go_ret
    exact ⟨by rw [← HR.out.1]; rfl, HR.out.2⟩
  · have HX : Hid (Pk.rdInt l er = (0, l, er)) := by show _ = _; unfold Pk.rdInt; rw [if_neg he]
    go_enter Try.func49, Try.ntmps49
    go_wp2_with fail
    refine (attempt_done _ l er w H.out he).mono ?_
    rintro e w1 ⟨rfl, hk⟩
    have HK := Lib.hid hk
    clear hk
    go_wp2_with fail
    go_ret
    rw [HX.out]
    exact ⟨rfl, H.out.keep0 HK.out, HK.out.any⟩

theorem rcount_any {p lo : Nat} (most : Int) (l : List Int) (er : Int) (w : World) (h : Rdr p lo w l er) (hb : ∀ y ∈ l, 0 ≤ y ∧ y < 256) :
    Calls Try.prog 46 #[.pointer (some ⟨p, 0, none⟩), .int .i64 most] w fun e w' => e = .returned (.int .i64 (Pk.rdCnt most l er).1) ∧ Rdr p lo w' (Pk.rdCnt most l er).2.1 (Pk.rdCnt most l er).2.2 ∧ Kp p (p + 1) w w' := by
  have hmf := makeF
  have hp := h.lt
  have H := Lib.hid h
  clear h
  have hk0 : Kp 0 0 w ((w.alloc (.cells #[.pointer (some ⟨p, 0, none⟩)] 60)).alloc (.cells #[.int .i64 most] 3)) := ((Kp.refl 0 0 w).alloc _).alloc _
  have hb0 : ((w.alloc (.cells #[.pointer (some ⟨p, 0, none⟩)] 60)).alloc (.cells #[.int .i64 most] 3)).cell? ⟨w.heap.size, 0, none⟩ = some (.pointer (some ⟨p, 0, none⟩)) := by simp [go_sem]
  have hs0 : ((w.alloc (.cells #[.pointer (some ⟨p, 0, none⟩)] 60)).alloc (.cells #[.int .i64 most] 3)).cell? ⟨w.heap.size + 1, 0, none⟩ = some (.int .i64 most) := by simp [go_sem]
  have HK0 := Lib.hid hk0
  by_cases he : er = 0
  · subst he
    have HX : Hid (∀ W e w', Kp 0 0 w W → Reads p lo W l (Pk.cnt most l) e w' → ∃ x, e = .returned (.int .i64 x) ∧ x = (Pk.rdCnt most l 0).1 ∧ Rdr p lo w' (Pk.rdCnt most l 0).2.1 (Pk.rdCnt most l 0).2.2 ∧ Kp p (p + 1) w w') := fun W e w' hk h => ⟨_, h.1, rfl, h.2.1, hk.any.trans h.2.2⟩
    have HC := Lib.hid (fun w1 (hk : Kp 0 0 _ w1) => count_lit (p := p) (lo := lo) (b1 := w.heap.size) (b2 := w.heap.size + 1) most l w1 ((H.out.keep0 hk0).keep0 hk) hb (hk.cell hb0 (.inr (Nat.zero_le _))) (hk.cell hs0 (.inr (Nat.zero_le _))))
    clear hb0 hs0 hk0
    go_enter Try.func46, Try.ntmps46
    go_wp2_with fail
    refine (attempt_lit (b1 := w.heap.size) (b2 := w.heap.size + 1) l (Pk.cnt most l) _ (H.out.keep0 HK0.out) HC.out).mono ?_
    intro e w1 hR
    obtain ⟨x, rfl, hx, hr, hk⟩ := HX.out _ e w1 HK0.out hR
    have HR := Lib.hid (And.intro hx (And.intro hr hk))
    clear hR hx hr hk
    go_wp2_with fail
    go_ret
    exact ⟨by rw [← HR.out.1]; rfl, HR.out.2⟩
  · have HX : Hid (Pk.rdCnt most l er = (0, l, er)) := by show _ = _; unfold Pk.rdCnt; rw [if_neg he]
    clear hb0 hs0 hk0
    go_enter Try.func46, Try.ntmps46
    go_wp2_with fail
    refine (attempt_done _ l er _ (H.out.keep0 HK0.out) he).mono ?_
    rintro e w1 ⟨rfl, hk⟩
    have HK := Lib.hid (HK0.out.trans hk)
    clear hk
    go_wp2_with fail
    go_ret
    rw [HX.out]
    exact ⟨rfl, H.out.keep0 HK.out, HK.out.any⟩

theorem done_any {p lo : Nat} (l : List Int) (er : Int) (w : World) (h : Rdr p lo w l er) :
    Calls Try.prog 32 #[.pointer (some ⟨p, 0, none⟩)] w fun e w' => e = .returned (.int .i64 (Pk.dne l er)) ∧ w = w' := by
  obtain ⟨v, hh, hr⟩ := h
  obtain ⟨ao, c, rfl, hlc, hc63, _⟩ := hr.open
  obtain ⟨c0, c1, f0, f1⟩ := cell_two hh
  clear hr hh
  by_cases he : er = 0
  · subst he
    by_cases hl : l.length = 0
    · have hl0 : l = [] := List.eq_nil_of_length_eq_zero hl
      subst hl0
      go_enter Try.func32, Try.ntmps32
      go_wp2
      go_ret
      exact ⟨rfl, rfl⟩
    · have HX : Hid (Pk.dne l 0 = 5) := by
        show _ = _
        unfold Pk.dne
        rw [if_pos ⟨rfl, fun e => hl (by rw [e]; rfl)⟩]
      have hl' : 0 < l.length := by omega
      go_enter Try.func32, Try.ntmps32
      go_wp2
      go_ret
      rw [HX.out]
      exact ⟨rfl, rfl⟩
  · have HX : Hid (Pk.dne l er = er) := by
      show _ = _
      unfold Pk.dne
      rw [if_neg (fun h => he h.1)]
    have he' : (er == 0) = false := by simpa using he
    go_enter Try.func32, Try.ntmps32
    go_wp2
    go_ret
    rw [HX.out]
    exact ⟨rfl, rfl⟩

end Go.Proofs.Ytgokhagbknlfaaa
