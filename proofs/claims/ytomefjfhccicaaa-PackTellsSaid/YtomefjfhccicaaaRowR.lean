/-
  An argument that is a slice of readings, opened.
-/
import Derived.Test.YtomefjfhccicaaaRow
import Derived.Test.YtomefjfhccicaaaRdg
import Derived.Deep.SlicePairs
namespace Go.Proofs.Ytomefjfhccicaaa
open Go.ChangeShapes Go.WideShapes Go.ChangeAt Go.RowKit Go.Deep

/-- What is known of a slice of readings that came in. -/
def IsRdg (w : World) (a : Option Addr) (len cap : Nat) (z : (Nat → Int) × (Nat → Int)) : Prop :=
  RdR w.heap.size w (.slice a len cap) len z.1 z.2 ∧ InR len z.1 z.2

theorem open_readings {H : Type} {enc : TypeId × Value → H} {W : World} {a : Option Addr} {len cap : Nat} {d : DataW H} {p : List MemPlace} (h : DataW.Trod enc Try.prog W 0 (fun _ => true) true 30 (Value.slice a len cap) d p) : ∃ z, IsRdg W a len cap z := by
  obtain ⟨fuel, hf⟩ := h
  rcases open_slice_pairs Try.underlying30 Try.underlying37 (by kernel_rfl) rfl rfl (by kernel_rfl) (by kernel_rfl) hf with ⟨hcs, _⟩ | ⟨x, l, c, m, n, V0, V1, D0, D1, P0, P1, hcs, _, hl, hm, hmm, _, hcell⟩
  · simp [Value.cells] at hcs
    obtain ⟨rfl, rfl, rfl⟩ := hcs
    exact ⟨(fun _ => 0, fun _ => 0), ⟨none, 0, rfl, Nat.le_refl _, by omega, fun h => absurd h (by omega)⟩, fun i hi => absurd hi (by omega)⟩
  · simp [Value.cells] at hcs
    obtain ⟨rfl, rfl, rfl⟩ := hcs
    have hlm : len ≤ m := by rw [hmm]; split <;> omega
    have each : ∀ i, i < len → ∃ q : Int × Int, W.cell? (x.add (i * 2)) = some (.int .i64 q.1) ∧ W.cell? (x.add (i * 2 + 1)) = some (.int .i64 q.2) ∧ (Lit.int .i64 q.1).wf = true ∧ (Lit.int .i64 q.2).wf = true := by
      intro i hi
      obtain ⟨h0, h1, h2, h3⟩ := hcell i (by omega)
      obtain ⟨n0, e0, _, w0⟩ := DataW.trod_int Try.underlying3 h2
      obtain ⟨n1, e1, _, w1⟩ := DataW.trod_int Try.underlying3 h3
      simp only [List.cons.injEq, and_true] at e0 e1
      exact ⟨(n0, n1), by rw [h0, e0], by rw [h1, e1], w0, w1⟩
    obtain ⟨q, hq⟩ := choose_lt each
    refine ⟨(fun i => (q i).1, fun i => (q i).2), ⟨some x, cap, rfl, hl, by unfold maxLen at hm; omega, fun h0 => ?_⟩, fun i hi => ?_⟩
    · obtain ⟨b, off, spot⟩ := x
      have h0c := (hq 0 h0).1
      have hs : spot = none := by
        cases spot with
        | none => rfl
        | some s =>
          simp only [Nat.zero_mul, Addr.add, if_pos, World.cell?] at h0c
          split at h0c
          · simp at h0c
          · cases h0c
      subst hs
      refine ⟨b, off, rfl, ?_, fun i hi => ?_⟩
      · rw [Addr.add_lit] at h0c
        exact World.block_lt_of_cell? _ _ h0c
      · obtain ⟨g0, g1, _, _⟩ := hq i hi
        rw [Addr.add_lit] at g0 g1
        exact ⟨g0, by rw [Nat.add_assoc]; exact g1⟩
    · obtain ⟨_, _, w0, w1⟩ := hq i hi
      exact ⟨wf_int w0, wf_int w1⟩

end Go.Proofs.Ytomefjfhccicaaa
