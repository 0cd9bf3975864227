/-
  A row that was made, written thing by thing.
-/
import Derived.Test.YtgokhagbknlfaaaDlMany
namespace Go.Proofs.Ytgokhagbknlfaaa
open Go.RowKit
set_option maxRecDepth 100000

/-- The first things of a row of n that was made are written. -/
def RowW {α : Type} (E : Rp α) (k : Nat) (T : TypeId) (w : World) (S : Nat → Prop) (g n : Nat) (l : List α) : Prop :=
  l.length ≤ n ∧ ¬ S g ∧ ∃ cur : Array Value, w.heap[g]? = some (.cells cur T (0, 0)) ∧ cur.size = n * k ∧
    ∀ i x, l[i]? = some x → ∃ xs : List Value, xs.length = k ∧ (∀ j u, xs[j]? = some u → cur[i * k + j]? = some u) ∧ E w S xs x

theorem RowW.made {α : Type} {E : Rp α} {k : Nat} {T : TypeId} {w : World} {S : Nat → Prop} {g n m : Nat} {zs : Array Value} (hg : w.heap[g]? = some (.cells (madeCells zs m) T (0, 0))) (hm : m = n * k) (hS : ¬ S g) : RowW E k T w S g n ([] : List α) :=
  ⟨Nat.zero_le _, hS, _, hg, by simp [madeCells, hm], fun i x h => by simp at h⟩

theorem RowW.lt {α : Type} {E : Rp α} {k : Nat} {T : TypeId} {w : World} {S : Nat → Prop} {g n : Nat} {l : List α} (h : RowW E k T w S g n l) : g < w.heap.size := by
  obtain ⟨_, _, cur, h1, _⟩ := h
  exact heap_lt h1

/-- A step that leaves the row and what its things reach. -/
theorem RowW.keep {α : Type} {E : Rp α} (G : E.Good) {k : Nat} {T : TypeId} {lo hi : Nat} {w w' : World} {S : Nat → Prop} {g n : Nat} {l : List α} (h : RowW E k T w S g n l) (hk : Kp lo hi w w') (hg : g < lo ∨ hi ≤ g) (hs : ∀ b, S b → b < lo ∨ hi ≤ b) : RowW E k T w' S g n l := by
  obtain ⟨h1, h2, cur, h3, h4, h5⟩ := h
  refine ⟨h1, h2, cur, hk.heap h3 hg, h4, fun i x hi => ?_⟩
  obtain ⟨xs, a, b, c⟩ := h5 i x hi
  exact ⟨xs, a, b, G.keep c hk hs⟩

theorem RowW.wide {α : Type} {E : Rp α} (G : E.Good) {k : Nat} {T : TypeId} {w : World} {S S' : Nat → Prop} {g n : Nat} {l : List α} (h : RowW E k T w S g n l) (hs : ∀ b, b < w.heap.size → S b → S' b) (hg : ¬ S' g) : RowW E k T w S' g n l := by
  obtain ⟨h1, _, cur, h3, h4, h5⟩ := h
  refine ⟨h1, hg, cur, h3, h4, fun i x hi => ?_⟩
  obtain ⟨xs, a, b, c⟩ := h5 i x hi
  exact ⟨xs, a, b, G.wide c hs⟩

/-- A block of which only the k cells of one place are written: the others stay. -/
theorem RowW.snoc {α : Type} {E : Rp α} (G : E.Good) {k : Nat} {T : TypeId} {w w' : World} {S : Nat → Prop} {g n m : Nat} {l : List α} {x : α} {ys : List Value} {cur' : Array Value} (h : RowW E k T w S g n l) (hm : l.length = m) (hn : m < n) (hy : ys.length = k)
    (hk : Kp g (g + 1) w w') (hg' : w'.heap[g]? = some (.cells cur' T (0, 0))) (hsz : ∀ cur, w.heap[g]? = some (.cells cur T (0, 0)) → cur'.size = cur.size ∧ ∀ i, i < m * k → cur'[i]? = cur[i]?) (hys : ∀ j u, ys[j]? = some u → cur'[m * k + j]? = some u) (he : E w' S ys x) : RowW E k T w' S g n (l ++ [x]) := by
  obtain ⟨h1, h2, cur, h3, h4, h5⟩ := h
  obtain ⟨z1, z2⟩ := hsz cur h3
  have hs : ∀ b, S b → b < g ∨ g + 1 ≤ b := fun b hb => by
    rcases Nat.lt_trichotomy b g with h | h | h
    · exact .inl h
    · subst h
      exact absurd hb h2
    · exact .inr h
  refine ⟨by rw [List.length_append, List.length_singleton]; omega, h2, cur', hg', by rw [z1, h4], fun i z hi => ?_⟩
  rcases Nat.lt_or_ge i l.length with hl | hl
  · rw [List.getElem?_append_left hl] at hi
    obtain ⟨xs, a, b, c⟩ := h5 i z hi
    refine ⟨xs, a, fun j u hu => ?_, G.keep c hk hs⟩
    have hj : j < k := by
      have := (List.getElem?_eq_some_iff.1 hu).1
      omega
    have hle := Nat.mul_le_mul_right k (show i + 1 ≤ m by omega)
    rw [Nat.add_mul, Nat.one_mul] at hle
    rw [z2 _ (by omega)]
    exact b j u hu
  · obtain rfl : i = m := by
      have := (List.getElem?_eq_some_iff.1 hi).1
      rw [List.length_append, List.length_singleton] at this
      omega
    rw [← hm, List.getElem?_append_right (Nat.le_refl _), Nat.sub_self] at hi
    obtain rfl : x = z := by simpa using hi
    exact ⟨ys, hy, hys, he⟩

/-- A place of the row. -/
theorem RowW.at {α : Type} {E : Rp α} {k : Nat} {T : TypeId} {w : World} {S : Nat → Prop} {g n m : Nat} {l : List α} (h : RowW E k T w S g n l) (_ : l.length = m) (hm : m < n) {j : Nat} (hj : j < k) : ∃ u, w.cell? ⟨g, m * k + j, none⟩ = some u ∧ w.frozen? ⟨g, m * k + j, none⟩ = false := by
  obtain ⟨h1, h2, cur, h3, h4, h5⟩ := h
  have hle := Nat.mul_le_mul_right k (show m + 1 ≤ n from hm)
  rw [Nat.add_mul, Nat.one_mul] at hle
  have hlt : m * k + j < cur.size := by omega
  exact ⟨cur[m * k + j], blk_cell h3 (Array.getElem?_eq_getElem hlt), blk_frozen h3 _⟩

/-- The row is whole. -/
theorem RowW.rd {α : Type} {E : Rp α} (G : E.Good) {k : Nat} {T : TypeId} {w : World} {S R : Nat → Prop} {g n : Nat} {l : List α} (h : RowW E k T w S g n l) (hn : l.length = n) (hs : ∀ b, b < w.heap.size → S b → R b) (hg : R g) (hb : n ≤ 9223372036854775807) : RdS E k w R (.slice (some ⟨g, 0, none⟩) n n) l := by
  obtain ⟨h1, h2, cur, h3, h4, h5⟩ := h
  refine ⟨some ⟨g, 0, none⟩, n, by rw [hn], by omega, hb, (fun h => by cases h), fun _ => ⟨g, 0, rfl, hg, fun i x hi => ?_⟩⟩
  obtain ⟨xs, a, b, c⟩ := h5 i x hi
  refine ⟨xs, a, fun j u hu => ?_, G.wide c hs⟩
  rw [Nat.zero_add]
  exact blk_cell h3 (b j u hu)

/-- What is written into one cell of a block that is a row. -/
theorem set_at {w : World} {g p : Nat} {cur : Array Value} {T : TypeId} (h : w.heap[g]? = some (.cells cur T (0, 0))) (u : Value) : (w.setCell ⟨g, p, none⟩ u).heap[g]? = some (.cells (cur.setIfInBounds p u) T (0, 0)) := blk_set h p u

/-- One thing of one cell is written. -/
theorem RowW.set1 {α : Type} {E : Rp α} (G : E.Good) {T : TypeId} {w : World} {S : Nat → Prop} {g n m : Nat} {l : List α} {x : α} (h : RowW E 1 T w S g n l) (hm : l.length = m) (hn : m < n) (u : Value) (he : E w S [u] x) : RowW E 1 T (w.setCell ⟨g, m, none⟩ u) S g n (l ++ [x]) := by
  have h0 := h
  obtain ⟨h1, h2, cur, h3, h4, h5⟩ := h0
  have hk := kp_set w g m u
  refine RowW.snoc G h hm hn rfl hk (set_at h3 u) (fun c hc => ?_) (fun j v hj => ?_) (G.keep he hk fun b hb => ?_)
  · rw [h3] at hc
    cases hc
    exact ⟨Array.size_setIfInBounds, fun i hi => by rw [Array.getElem?_setIfInBounds_ne (by omega)]⟩
  · match j, hj with
    | 0, hj =>
      cases hj
      rw [Nat.mul_one, Nat.add_zero, Array.getElem?_setIfInBounds_self_of_lt (by omega)]
  · rcases Nat.lt_trichotomy b g with h | h | h
    · exact .inl h
    · subst h
      exact absurd hb h2
    · exact .inr h

/-- A thing of four cells is written. -/
theorem RowW.set4 {α : Type} {E : Rp α} (G : E.Good) {T : TypeId} {w : World} {S : Nat → Prop} {g n m : Nat} {l : List α} {x : α} (h : RowW E 4 T w S g n l) (hm : l.length = m) (hn : m < n) (u0 u1 u2 u3 : Value) (he : E w S [u0, u1, u2, u3] x) :
    RowW E 4 T ((((w.setCell ⟨g, m * 4, none⟩ u0).setCell ⟨g, m * 4 + 1, none⟩ u1).setCell ⟨g, m * 4 + 2, none⟩ u2).setCell ⟨g, m * 4 + 3, none⟩ u3) S g n (l ++ [x]) ∧ Kp g (g + 1) w ((((w.setCell ⟨g, m * 4, none⟩ u0).setCell ⟨g, m * 4 + 1, none⟩ u1).setCell ⟨g, m * 4 + 2, none⟩ u2).setCell ⟨g, m * 4 + 3, none⟩ u3) := by
  have h0 := h
  obtain ⟨h1, h2, cur, h3, h4, h5⟩ := h0
  have hk := (((kp_set w g (m * 4) u0).trans (kp_set _ g (m * 4 + 1) u1)).trans (kp_set _ g (m * 4 + 2) u2)).trans (kp_set _ g (m * 4 + 3) u3)
  refine ⟨RowW.snoc G h hm hn rfl hk (set_at (set_at (set_at (set_at h3 u0) u1) u2) u3) (fun c hc => ?_) (fun j v hj => ?_) (G.keep he hk fun b hb => ?_), hk⟩
  · rw [h3] at hc
    cases hc
    exact ⟨by simp, fun i hi => by rw [Array.getElem?_setIfInBounds_ne (by omega), Array.getElem?_setIfInBounds_ne (by omega), Array.getElem?_setIfInBounds_ne (by omega), Array.getElem?_setIfInBounds_ne (by omega)]⟩
  · have hsz : m * 4 + 3 < cur.size := by omega
    match j, hj with
    | 0, hj =>
      cases hj
      rw [Array.getElem?_setIfInBounds_ne (by omega), Array.getElem?_setIfInBounds_ne (by omega), Array.getElem?_setIfInBounds_ne (by omega)]
      exact Array.getElem?_setIfInBounds_self_of_lt (by omega)
    | 1, hj =>
      cases hj
      rw [Array.getElem?_setIfInBounds_ne (by omega), Array.getElem?_setIfInBounds_ne (by omega), Array.getElem?_setIfInBounds_self_of_lt (by simp; omega)]
    | 2, hj =>
      cases hj
      rw [Array.getElem?_setIfInBounds_ne (by omega), Array.getElem?_setIfInBounds_self_of_lt (by simp; omega)]
    | 3, hj =>
      cases hj
      rw [Array.getElem?_setIfInBounds_self_of_lt (by simp; omega)]
  · rcases Nat.lt_trichotomy b g with h | h | h
    · exact .inl h
    · subst h
      exact absurd hb h2
    · exact .inr h

/-- A thing of five cells is written. -/
theorem RowW.set5 {α : Type} {E : Rp α} (G : E.Good) {T : TypeId} {w : World} {S : Nat → Prop} {g n m : Nat} {l : List α} {x : α} (h : RowW E 5 T w S g n l) (hm : l.length = m) (hn : m < n) (u0 u1 u2 u3 u4 : Value) (he : E w S [u0, u1, u2, u3, u4] x) :
    RowW E 5 T (((((w.setCell ⟨g, m * 5, none⟩ u0).setCell ⟨g, m * 5 + 1, none⟩ u1).setCell ⟨g, m * 5 + 2, none⟩ u2).setCell ⟨g, m * 5 + 3, none⟩ u3).setCell ⟨g, m * 5 + 4, none⟩ u4) S g n (l ++ [x]) ∧ Kp g (g + 1) w (((((w.setCell ⟨g, m * 5, none⟩ u0).setCell ⟨g, m * 5 + 1, none⟩ u1).setCell ⟨g, m * 5 + 2, none⟩ u2).setCell ⟨g, m * 5 + 3, none⟩ u3).setCell ⟨g, m * 5 + 4, none⟩ u4) := by
  have h0 := h
  obtain ⟨h1, h2, cur, h3, h4, h5⟩ := h0
  have hk := ((((kp_set w g (m * 5) u0).trans (kp_set _ g (m * 5 + 1) u1)).trans (kp_set _ g (m * 5 + 2) u2)).trans (kp_set _ g (m * 5 + 3) u3)).trans (kp_set _ g (m * 5 + 4) u4)
  refine ⟨RowW.snoc G h hm hn rfl hk (set_at (set_at (set_at (set_at (set_at h3 u0) u1) u2) u3) u4) (fun c hc => ?_) (fun j v hj => ?_) (G.keep he hk fun b hb => ?_), hk⟩
  · rw [h3] at hc
    cases hc
    exact ⟨by simp, fun i hi => by rw [Array.getElem?_setIfInBounds_ne (by omega), Array.getElem?_setIfInBounds_ne (by omega), Array.getElem?_setIfInBounds_ne (by omega), Array.getElem?_setIfInBounds_ne (by omega), Array.getElem?_setIfInBounds_ne (by omega)]⟩
  · have hsz : m * 5 + 4 < cur.size := by omega
    match j, hj with
    | 0, hj =>
      cases hj
      rw [Array.getElem?_setIfInBounds_ne (by omega), Array.getElem?_setIfInBounds_ne (by omega), Array.getElem?_setIfInBounds_ne (by omega), Array.getElem?_setIfInBounds_ne (by omega)]
      exact Array.getElem?_setIfInBounds_self_of_lt (by omega)
    | 1, hj =>
      cases hj
      rw [Array.getElem?_setIfInBounds_ne (by omega), Array.getElem?_setIfInBounds_ne (by omega), Array.getElem?_setIfInBounds_ne (by omega)]
      exact Array.getElem?_setIfInBounds_self_of_lt (by simp; omega)
    | 2, hj =>
      cases hj
      rw [Array.getElem?_setIfInBounds_ne (by omega), Array.getElem?_setIfInBounds_ne (by omega)]
      exact Array.getElem?_setIfInBounds_self_of_lt (by simp; omega)
    | 3, hj =>
      cases hj
      rw [Array.getElem?_setIfInBounds_ne (by omega)]
      exact Array.getElem?_setIfInBounds_self_of_lt (by simp; omega)
    | 4, hj =>
      cases hj
      exact Array.getElem?_setIfInBounds_self_of_lt (by simp; omega)
  · rcases Nat.lt_trichotomy b g with h | h | h
    · exact .inl h
    · subst h
      exact absurd hb h2
    · exact .inr h

end Go.Proofs.Ytgokhagbknlfaaa
