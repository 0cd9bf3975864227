/-
  The contract of package quaysidekit's Pick.
-/
import Derived.Test.YtgokhagbknlfaaaProg
import Derived.Test.YtgokhagbknlfaaaLib
namespace Go.Proofs.Ytgokhagbknlfaaa
open Go.RowKit

theorem tmod_neg {k n : Int} (hk : k < 0) (hn : 1 ≤ n) : (k % n = 0 ∧ k.tmod n = 0) ∨ (0 < k % n ∧ k % n < n ∧ k.tmod n = k % n - n) := by
  have h1 := Int.emod_nonneg k (show n ≠ 0 by omega)
  have h2 := Int.emod_lt_of_pos k (show 0 < n by omega)
  rw [Int.tmod_eq_emod]
  by_cases hd : n ∣ k
  · left
    have := Int.emod_eq_zero_of_dvd hd
    simp [hd, this]
  · right
    have h3 : k % n ≠ 0 := fun e => hd (Int.dvd_of_emod_eq_zero e)
    refine ⟨by omega, h2, ?_⟩
    rw [if_neg (by omega)]
    omega

/-- The rest that is picked by any number. -/
def pick (k n : Int) : Int := if n < 1 then 0 else k % n

theorem pick_any (k n : Int) (w : World) (h1 : -9223372036854775808 ≤ k) (h2 : k ≤ 9223372036854775807) (h3 : n ≤ 9223372036854775807) :
    Calls Try.prog 16 #[.int .i64 k, .int .i64 n] w fun e w' => e = .returned (.int .i64 (pick k n)) ∧ w = w' := by
  by_cases hn : n < 1
  · have HX : Hid (pick k n = 0) := by show _ = _; unfold pick; rw [if_pos hn]
    go_enter Try.func16, Try.ntmps16
    go_wp2
    go_ret
    rw [HX.out]
    exact ⟨rfl, rfl⟩
  · have HX : Hid (pick k n = k % n) := by show _ = _; unfold pick; rw [if_neg hn]
    by_cases hk : 0 ≤ k
    · have h0 := Int.emod_nonneg k (show n ≠ 0 by omega)
      go_enter Try.func16, Try.ntmps16
      go_wp2
      go_ret
      rw [HX.out]
      exact ⟨rfl, rfl⟩
    · rcases tmod_neg (k := k) (n := n) (by omega) (by omega) with ⟨ha, hb⟩ | ⟨ha, hb, hc⟩
      · have HA := Lib.hid ha
        clear ha
        go_enter Try.func16, Try.ntmps16
        go_wp2
        go_ret
        rw [HX.out, HA.out]
        exact ⟨rfl, rfl⟩
      · have HC : Hid (k.tmod n + n = k % n) := by show _ = _; omega
        have hd : k.tmod n < 0 := by omega
        have he : -9223372036854775808 ≤ k.tmod n := by omega
        clear hc
        go_enter Try.func16, Try.ntmps16
        go_wp2
        go_ret
        rw [HX.out, ← HC.out]
        exact ⟨rfl, rfl⟩

theorem pick_three (k : Int) : pick k 3 = 0 ∨ pick k 3 = 1 ∨ pick k 3 = 2 := by
  unfold pick
  rw [if_neg (by decide)]
  omega

theorem pick_range {k n : Int} (h : 1 ≤ n) : 0 ≤ pick k n ∧ pick k n < n := by
  unfold pick
  rw [if_neg (by omega)]
  exact ⟨Int.emod_nonneg k (by omega), Int.emod_lt_of_pos k (by omega)⟩

end Go.Proofs.Ytgokhagbknlfaaa
