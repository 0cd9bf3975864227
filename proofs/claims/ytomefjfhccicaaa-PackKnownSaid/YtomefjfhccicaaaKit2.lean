/-
  The contracts of package quaysidekit, more: SpoilBytes, Pick.
-/
import Derived.Test.YtomefjfhccicaaaKit
namespace Go.Proofs.Ytomefjfhccicaaa
open Go.RowKit

theorem cell_row {w : World} {g : Nat} {cur : Array Value} {e : TypeId} (h : w.heap[g]? = some (.cells cur e (0, 0))) {k : Nat} (hk : k < cur.size) :
    w.cell? ⟨g, k, none⟩ = some (cur.getD k undef) ∧ w.frozen? ⟨g, k, none⟩ = false := by
  simp [World.cell?, World.frozen?, h, hk]

theorem set_row {w : World} {g : Nat} {cur : Array Value} {e : TypeId} (h : w.heap[g]? = some (.cells cur e (0, 0))) (k : Nat) (u : Value) :
    (w.setCell ⟨g, k, none⟩ u).heap[g]? = some (.cells (cur.setIfInBounds k u) e (0, 0)) := by
  simp [World.setCell, Array.getElem?_modify, h]

/-- SpoilBytes: only the row that it is given turns. -/
theorem spoil_any {lo hi : Nat} (v : Value) (l : List Int) (w : World) (h : OwnI .u8 5 lo hi w v l) (hl : l.length ≤ 140737488351232) :
    Calls Try.prog 17 #[v] w fun e w' => e = .returned (.tuple #[]) ∧ Kp lo hi w w' := by
  obtain ⟨⟨h1, h2⟩, h3⟩ := h
  rcases h2 with ⟨rfl, hn⟩ | ⟨g, cap, cur, rfl, hb, hg, hn, hc, hs, ht⟩
  · rw [hn] at *
    go_enter Try.func17, Try.ntmps17
    go_wp2
    refine wp_loop_rounds 1 ?_
    rw [rounds_succ]
    go_wp2
    go_end0
    exact ⟨rfl, Kp.refl _ _ _⟩
  · have hgh := h3 g rfl
    have H1 := Lib.hid hg
    have hcs : l.length ≤ cur.size := by omega
    clear h1 h3 hg ht hs hc
    have hcap : cap = cap := rfl
    generalize hL : l.length = n at *
    go_enter Try.func17, Try.ntmps17
    go_wp2
    go_loopw [2] (fun i wr => ∃ k : Nat, k ≤ n ∧ i = .int .i64 k ∧ (∃ c2, wr.heap[g]? = some (.cells c2 5 (0, 0)) ∧ n ≤ c2.size) ∧ Kp lo hi w wr) (fun i _ => n - (intOf i).toNat)
    case atStart => exact ⟨0, Nat.zero_le _, rfl, ⟨cur, H1.out, hcs⟩, Kp.refl _ _ _⟩
    case round =>
      obtain ⟨k, hk, rfl, ⟨c2, hc2, hn2⟩, hkp⟩ := hrel
      by_cases hlt : k < n
      · obtain ⟨d1, d2⟩ := cell_row hc2 (k := k) (by omega)
        have HS := Lib.hid (set_row hc2 k)
        clear hc2
        generalize c2.getD k undef = x at d1
        go_wp2_with (go_at_call 35; refine (mark_any _ _ (by omega) (by omega)).mono ?_; rintro e w1 ⟨rfl, rfl⟩)
        go_roundw
        case rel =>
          refine ⟨k + 1, by omega, by go_num, ⟨_, HS.out _, by simpa using hn2⟩, hkp.setCell (.inr ⟨hb, hgh⟩) _⟩
        case measure => simp [intOf]; omega
      · go_wp2
        go_end0
        exact ⟨rfl, hkp⟩

theorem tmod_neg {k n : Int} (hk : k < 0) (hn : 1 ≤ n) : (k % n = 0 ∧ k.tmod n = 0) ∨ (0 < k % n ∧ k % n < n ∧ k.tmod n = k % n - n) := by
  have h1 := Int.emod_nonneg k (show n ≠ 0 by omega)
  have h2 := Int.emod_lt_of_pos k (show 0 < n by omega)
  rw [Int.tmod_eq_emod]
  by_cases hd : n ∣ k
  · left
    have := Int.emod_eq_zero_of_dvd hd
    simp [hd, this]
  · right
    have h3 : k % n ≠ 0 := fun e => hd (Int.dvd_of_emod_eq_zero e)
    refine ⟨by omega, h2, ?_⟩
    rw [if_neg (by omega)]
    omega

/-- The rest that is picked by any number. -/
def pick (k n : Int) : Int := if n < 1 then 0 else k % n

theorem pick_any (k n : Int) (w : World) (h1 : -9223372036854775808 ≤ k) (h2 : k ≤ 9223372036854775807) (h3 : n ≤ 9223372036854775807) :
    Calls Try.prog 20 #[.int .i64 k, .int .i64 n] w fun e w' => e = .returned (.int .i64 (pick k n)) ∧ w = w' := by
  by_cases hn : n < 1
  · have HX : Hid (pick k n = 0) := by show _ = _; unfold pick; rw [if_pos hn]
    go_enter Try.func20, Try.ntmps20
    go_wp2
    go_ret
    rw [HX.out]
    exact ⟨rfl, rfl⟩
  · have HX : Hid (pick k n = k % n) := by show _ = _; unfold pick; rw [if_neg hn]
    by_cases hk : 0 ≤ k
    · have h0 := Int.emod_nonneg k (show n ≠ 0 by omega)
      go_enter Try.func20, Try.ntmps20
      go_wp2
      go_ret
      rw [HX.out]
      exact ⟨rfl, rfl⟩
    · rcases tmod_neg (k := k) (n := n) (by omega) (by omega) with ⟨ha, hb⟩ | ⟨ha, hb, hc⟩
      · have HA := Lib.hid ha
        clear ha
        go_enter Try.func20, Try.ntmps20
        go_wp2
        go_ret
        rw [HX.out, HA.out]
        exact ⟨rfl, rfl⟩
      · have HC : Hid (k.tmod n + n = k % n) := by show _ = _; omega
        have hd : k.tmod n < 0 := by omega
        have he : -9223372036854775808 ≤ k.tmod n := by omega
        clear hc
        go_enter Try.func20, Try.ntmps20
        go_wp2
        go_ret
        rw [HX.out, ← HC.out]
        exact ⟨rfl, rfl⟩

theorem pick_three (k : Int) : pick k 3 = 0 ∨ pick k 3 = 1 ∨ pick k 3 = 2 := by
  unfold pick
  rw [if_neg (by decide)]
  omega

theorem pick_range {k n : Int} (h : 1 ≤ n) : 0 ≤ pick k n ∧ pick k n < n := by
  unfold pick
  rw [if_neg (by omega)]
  exact ⟨Int.emod_nonneg k (by omega), Int.emod_lt_of_pos k (by omega)⟩

end Go.Proofs.Ytomefjfhccicaaa
