/-
  The contracts of package pack's Reader, the second part: count, blob; the calls that end a panic inside.
-/
import Derived.Test.YtgokhagbknlfaaaReadI
import Derived.RegionTactic
import Derived.ChangeAlike
namespace Go.Proofs.Ytgokhagbknlfaaa
open Go.RowKit
set_option maxRecDepth 100000

theorem count_any {p lo : Nat} (most : Int) (l : List Int) (w : World) (h : Rdr p lo w l 0) (hb : ∀ y ∈ l, 0 ≤ y ∧ y < 256) :
    Calls Try.prog 60 #[.pointer (some ⟨p, 0, none⟩), .int .i64 most] w (Got (.int .i64) p lo w l (Pk.cnt most l)) := by
  have HN : Hid (Pk.cnt most l = if (Pk.num l).2.2 = 0 ∧ ((Pk.num l).1 < 0 ∨ most < (Pk.num l).1) then (0, 0, 3) else Pk.num l) := rfl
  go_enter Try.func60, Try.ntmps60
  go_wp2_with fail
  refine (num_any l w h hb).mono ?_
  generalize Pk.num l = r at HN ⊢
  obtain ⟨n, k, er⟩ := r
  rintro e w1 ⟨hk, ⟨h0, rfl, hr⟩ | ⟨h0, rfl, hr⟩⟩
  · have HK := Lib.hid hk
    have HR := Lib.hid hr
    have H0 : Hid (er = 0) := h0
    clear hk hr h0
    by_cases h1 : n < 0
    · have HC : Hid (Pk.cnt most l = (0, 0, 3)) := by show _ = _; rw [HN.out, if_pos ⟨H0.out, .inl h1⟩]
      go_wp2_with fail
      refine ⟨rfl, ?_⟩
      rw [HC.out]
      exact ⟨HK.out, .inr ⟨by decide, rfl, _, HR.out⟩⟩
    · by_cases h2 : most < n
      · have HC : Hid (Pk.cnt most l = (0, 0, 3)) := by show _ = _; rw [HN.out, if_pos ⟨H0.out, .inr h2⟩]
        go_wp2_with fail
        refine ⟨rfl, ?_⟩
        rw [HC.out]
        exact ⟨HK.out, .inr ⟨by decide, rfl, _, HR.out⟩⟩
      · have HC : Hid (Pk.cnt most l = (n, k, er)) := by show _ = _; rw [HN.out, if_neg (fun hc => hc.2.elim h1 h2)]
        go_wp2_with fail
        go_ret
        rw [HC.out]
        exact ⟨HK.out, .inl ⟨H0.out, rfl, HR.out⟩⟩
  · have HC : Hid (Pk.cnt most l = (n, k, er)) := by show _ = _; rw [HN.out, if_neg (fun hc => h0 hc.1)]
    have HK := Lib.hid hk
    have HR := Lib.hid hr
    have H0 : Hid (er ≠ 0) := h0
    clear hk hr h0
    go_wp2_with fail
    refine ⟨rfl, ?_⟩
    rw [HC.out]
    exact ⟨HK.out, .inr ⟨H0.out, rfl, HR.out⟩⟩

theorem cnt_range {m : Int} {l : List Int} (h : (Pk.cnt m l).2.2 = 0) : 0 ≤ (Pk.cnt m l).1 ∧ (Pk.cnt m l).1 ≤ m := by
  unfold Pk.cnt at h ⊢
  split at h
  · cases h
  · rename_i hc
    rw [if_neg hc]
    omega

/-- Count's own function literal. -/
theorem count_lit {p lo b1 b2 : Nat} (most : Int) (l : List Int) (w : World) (h : Rdr p lo w l 0) (hb : ∀ y ∈ l, 0 ≤ y ∧ y < 256) (h1 : w.cell? ⟨b1, 0, none⟩ = some (.pointer (some ⟨p, 0, none⟩))) (h2 : w.cell? ⟨b2, 0, none⟩ = some (.int .i64 most)) :
    Calls Try.prog 59 #[.pointer (some ⟨b1, 0, none⟩), .pointer (some ⟨b2, 0, none⟩)] w (Got (.int .i64) p lo w l (Pk.cnt most l)) := by
  have HA := Lib.hid (count_any most l w h hb)
  generalize Pk.cnt most l = r at HA ⊢
  obtain ⟨n, k, er⟩ := r
  go_enter Try.func59, Try.ntmps59
  go_wp2_with fail
  refine HA.out.mono ?_
  rintro e w1 ⟨hk, ⟨h0, rfl, hr⟩ | ⟨h0, rfl, hr⟩⟩
  · have HK := Lib.hid hk
    have HR := Lib.hid hr
    have H0 : Hid (er = 0) := h0
    clear hk hr h0
    go_wp2_with fail
    go_ret
    exact ⟨HK.out, .inl ⟨H0.out, rfl, HR.out⟩⟩
  · have HK := Lib.hid hk
    have HR := Lib.hid hr
    have H0 : Hid (er ≠ 0) := h0
    clear hk hr h0
    go_wp2_with fail
    exact ⟨rfl, HK.out, .inr ⟨H0.out, rfl, HR.out⟩⟩

end Go.Proofs.Ytgokhagbknlfaaa
