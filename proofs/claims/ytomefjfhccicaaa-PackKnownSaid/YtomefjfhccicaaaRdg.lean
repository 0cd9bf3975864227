/-
  A slice of readings: what kind each is, and its greatest number.
-/
import Derived.Test.YtomefjfhccicaaaLib
namespace Go.Proofs.Ytomefjfhccicaaa
open Go.RowKit

/-- The cells of a slice of readings. -/
def ClR (hi : Nat) (w : World) (ao : Option Addr) (n : Nat) (K M : Nat → Int) : Prop :=
  0 < n → ∃ b off, ao = some ⟨b, off, none⟩ ∧ b < hi ∧ ∀ i, i < n → w.cell? ⟨b, off + i * 2, none⟩ = some (.int .i64 (K i)) ∧ w.cell? ⟨b, off + i * 2 + 1, none⟩ = some (.int .i64 (M i))

/-- A slice of n readings: kinds K, greatest numbers M. -/
def RdR (hi : Nat) (w : World) (v : Value) (n : Nat) (K M : Nat → Int) : Prop :=
  ∃ ao c, v = .slice ao n c ∧ n ≤ c ∧ c ≤ 9223372036854775807 ∧ ClR hi w ao n K M

/-- Each number is one. -/
def InR (n : Nat) (K M : Nat → Int) : Prop := ∀ i, i < n → (-9223372036854775808 ≤ K i ∧ K i ≤ 9223372036854775807) ∧ (-9223372036854775808 ≤ M i ∧ M i ≤ 9223372036854775807)

theorem ClR.keep {hi lo' hi' : Nat} {w w' : World} {ao : Option Addr} {n : Nat} {K M : Nat → Int} (h : ClR hi w ao n K M) (hk : Kp lo' hi' w w') (hd : ∀ b, b < hi → b < lo' ∨ hi' ≤ b) : ClR hi w' ao n K M := by
  intro h0
  obtain ⟨b, off, e, hb, hc⟩ := h h0
  exact ⟨b, off, e, hb, fun i hi => ⟨hk.cell (hc i hi).1 (hd b hb), hk.cell (hc i hi).2 (hd b hb)⟩⟩

theorem ClR.keep0 {hi : Nat} {w w' : World} {ao : Option Addr} {n : Nat} {K M : Nat → Int} (h : ClR hi w ao n K M) (hk : Kp 0 0 w w') : ClR hi w' ao n K M := h.keep hk fun _ _ => .inr (Nat.zero_le _)

end Go.Proofs.Ytomefjfhccicaaa
