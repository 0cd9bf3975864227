/-
  A row of bytes that the call owns, cell by cell: read, written.
-/
import Derived.Test.YtpdkfafnffihjaaDoorInts
namespace Go.Proofs.YtpdkfafnffihjaaDoor
open Go.RowKit

/-- Block g begins with the bytes lx. -/
def Row8 (w : World) (g : Nat) (lx : List Nat) : Prop := ∃ cur : Array Value, w.heap[g]? = some (.cells cur 5 (0, 0)) ∧ ∀ j, j < lx.length → cur[j]? = some (.int .u8 (lx.getD j 0 : Nat))

theorem Row8.cell {w : World} {g : Nat} {lx : List Nat} (h : Row8 w g lx) {k : Nat} (hk : k < lx.length) : w.cell? ⟨g, k, none⟩ = some (.int .u8 (lx.getD k 0 : Nat)) ∧ w.frozen? ⟨g, k, none⟩ = false := by
  obtain ⟨cur, h1, h2⟩ := h
  have := h2 k hk
  exact ⟨by simp [World.cell?, h1, this], by simp [World.frozen?, h1]⟩

theorem Row8.set {w : World} {g : Nat} {lx : List Nat} (h : Row8 w g lx) (k y : Nat) : Row8 (w.setCell ⟨g, k, none⟩ (.int .u8 y)) g (lx.set k y) := by
  obtain ⟨cur, h1, h2⟩ := h
  refine ⟨cur.setIfInBounds k (.int .u8 y), by simp [World.setCell, Array.getElem?_modify, h1], fun j hj => ?_⟩
  rw [List.length_set] at hj
  have hc := h2 j hj
  obtain ⟨hs, _⟩ := Array.getElem?_eq_some_iff.1 hc
  by_cases hjk : k = j
  · subst hjk
    simp [hs, hj, List.getD]
  · rw [Array.getElem?_setIfInBounds_ne hjk, hc]
    simp [List.getD, List.getElem?_set_ne hjk]

theorem Row8.keep {w w' : World} {g lo hi : Nat} {lx : List Nat} (h : Row8 w g lx) (k : Kp lo hi w w') (hg : g < lo ∨ hi ≤ g) : Row8 w' g lx := by
  obtain ⟨cur, h1, h2⟩ := h
  exact ⟨cur, k.heap h1 hg, h2⟩

theorem Row8.rd {w : World} {g cap : Nat} {lx : List Nat} (h : Row8 w g lx) (h1 : lx.length ≤ cap) (h2 : cap ≤ maxLen) : RdI .u8 g (g + 1) w (.slice (some ⟨g, 0, none⟩) lx.length cap) (ints lx) := by
  refine ⟨by simp, some ⟨g, 0, none⟩, cap, by rw [ints_len], by rw [ints_len]; exact h1, h2, (fun h => by cases h), fun j u hu => ⟨g, 0, rfl, Nat.le_refl _, Nat.lt_succ_self _, ?_⟩⟩
  have hj : j < lx.length := by
    have := (List.getElem?_eq_some_iff.1 hu).1
    simpa [ints] using this
  rw [Nat.zero_add, (h.cell hj).1, ← hu]
  simp [ints, List.getD, hj]

/-- A row that was copied, opened. -/
theorem OwnI.row8 {lo hi : Nat} {w : World} {v : Value} {l : List Nat} (h : OwnI .u8 5 lo hi w v (ints l)) (h0 : 0 < l.length) : ∃ g cap, v = .slice (some ⟨g, 0, none⟩) l.length cap ∧ lo ≤ g ∧ g < hi ∧ l.length ≤ cap ∧ cap ≤ maxLen ∧ Row8 w g l := by
  obtain ⟨⟨h1, h2⟩, h3⟩ := h
  rw [ints_len] at h1 h2
  rcases h2 with ⟨rfl, hn⟩ | ⟨g, cap, cur, rfl, hb, hg, hn, hc, hs, ht⟩
  · omega
  · refine ⟨g, cap, rfl, hb, h3 g rfl, hn, hc, cur, hg, fun j hj => ?_⟩
    have e : (cur.toList.take (l.length * 1))[j]? = some (.int .u8 (l.getD j 0 : Nat)) := by
      rw [ht]
      simp [ints, List.getD, hj]
    rw [List.getElem?_take, if_pos (by omega)] at e
    simpa using e

theorem Kp.row8 {lo hi g : Nat} {a w : World} (h : Kp lo hi a w) (hg : a.heap.size ≤ g ∨ (lo ≤ g ∧ g < hi)) (k : Nat) (u : Value) : Kp lo hi a (w.setCell ⟨g, k, none⟩ u) := h.setCell hg u

theorem pow_byte : ∀ j < 8, 2 ^ j < 256 := by decide

end Go.Proofs.YtpdkfafnffihjaaDoor
