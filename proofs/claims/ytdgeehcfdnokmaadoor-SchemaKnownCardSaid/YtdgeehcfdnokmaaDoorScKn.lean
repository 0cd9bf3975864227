/-
  A shop with one number turned; a row of moves that is written step by step; declarations with a machine's moves replaced, and with more types and projections.
-/
import Derived.Test.YtdgeehcfdnokmaaDoorScTurn
import Derived.Test.YtdgeehcfdnokmaaDoorScSpec
import Derived.Deep.OwnRows
namespace Go.Proofs.YtdgeehcfdnokmaaDoor
open Go.RowKit

theorem tag_td : (45 : TypeId) ≠ 25 := by decide
theorem tag_fd : (33 : TypeId) ≠ 25 := by decide
theorem tag_md : (39 : TypeId) ≠ 25 := by decide
theorem tag_pd : (47 : TypeId) ≠ 25 := by decide

theorem Ktag.of_blk {e : TypeId} {w w' : World} {g : Nat} {cur : Array Value} (h : w.heap[g]? = some (.cells cur e (0, 0))) (hk : Kp g (g + 1) w w') : Ktag e w w' := fun b cur' e' hb hne => by
  refine hk.heap hb ?_
  by_cases hbg : b = g
  · subst hbg
    rw [h] at hb
    cases hb
    exact absurd rfl hne
  · omega

/-- Only declarations' own blocks turn. -/
theorem OwnD.ktag {base : Nat} {w w' : World} {tv pv : Value} {d : Dc} (h : OwnD base w tv pv d) (hk : Ktag 25 w w') : OwnD base w' tv pv d :=
  ⟨h.t.ktag hk tag_td tag_fd tag_md, h.p.ktag (fun h => h) hk tag_pd⟩

namespace Shp

/-- The shop with a number turned. -/
def turn (k : Nat) (x : Int) : Shp :=
  match k with
  | 0 => { std with k2 := x }
  | 1 => { std with p1 := x }
  | 2 => { std with p3 := x }
  | 3 => { std with m0 := ⟨0, 1, x, 2⟩ }
  | 4 => { std with m1 := ⟨1, 0, -1, x⟩ }
  | 5 => { std with m2 := ⟨x, 2, -1, 0⟩ }
  | 6 => { std with j0 := ⟨x, 0, 1, 0, 2⟩ }
  | 7 => { std with j1 := ⟨0, x, 2, 0, 1⟩ }
  | 8 => { std with j2 := ⟨0, 5, 3, x, 4⟩ }
  | 9 => { std with j0 := ⟨0, 0, 1, x, 2⟩ }
  | 10 => { std with j1 := ⟨0, 2, x, 0, 1⟩ }
  | 11 => { std with j2 := ⟨0, 5, 3, 4, x⟩ }
  | _ => { std with b1 := true, p0 := x }

theorem fits_of (s : Shp) (h1 : Sc.I64 s.k0 ∧ Sc.I64 s.p0 ∧ Sc.I64 s.k1 ∧ Sc.I64 s.p1 ∧ Sc.I64 s.k2 ∧ Sc.I64 s.p2 ∧ Sc.I64 s.k3 ∧ Sc.I64 s.p3 ∧ Sc.I64 s.k4 ∧ Sc.I64 s.p4 ∧ Sc.I64 s.k5 ∧ Sc.I64 s.p5) (h2 : Sc.FitsM s.m0 ∧ Sc.FitsM s.m1 ∧ Sc.FitsM s.m2) (h3 : Sc.FitsP s.j0 ∧ Sc.FitsP s.j1 ∧ Sc.FitsP s.j2) : Sc.Fits s.dc := by
  obtain ⟨a0, b0, a1, b1, a2, b2, a3, b3, a4, b4, a5, b5⟩ := h1
  obtain ⟨m0, m1, m2⟩ := h2
  obtain ⟨j0, j1, j2⟩ := h3
  refine ⟨fun t ht f hf => ?_, fun p hp => ?_⟩
  · simp only [dc, List.mem_singleton] at ht
    subst ht
    simp only [fs, List.mem_cons, List.not_mem_nil, or_false] at hf
    rcases hf with rfl | rfl | rfl | rfl | rfl | rfl
    · exact ⟨a0, b0, fun m hm => by cases hm⟩
    · exact ⟨a1, b1, fun m hm => by cases hm⟩
    · exact ⟨a2, b2, fun m hm => by cases hm⟩
    · refine ⟨a3, b3, fun m hm => ?_⟩
      simp only [ms, List.mem_cons, List.not_mem_nil, or_false] at hm
      rcases hm with rfl | rfl | rfl
      · exact m0
      · exact m1
      · exact m2
    · exact ⟨a4, b4, fun m hm => by cases hm⟩
    · exact ⟨a5, b5, fun m hm => by cases hm⟩
  · simp only [dc, ps, List.mem_cons, List.not_mem_nil, or_false] at hp
    rcases hp with rfl | rfl | rfl
    · exact j0
    · exact j1
    · exact j2

theorem turn_fits (k : Nat) (x : Int) (hx : Sc.I64 x) : Sc.Fits (turn k x).dc := by
  unfold turn
  unfold Sc.I64 at hx
  split <;> exact fits_of _ (by simp [std, Sc.I64]; try omega) (by simp [std, Sc.FitsM, Sc.I64]; try omega) (by simp [std, Sc.FitsP, Sc.I64]; try omega)

end Shp

/-- Moves of noughts, of which the first ones need nothing. -/
def msl (k n : Nat) : List Mv := (List.range n).map fun m => ⟨0, 0, if m < k then -1 else 0, 0⟩
theorem msl_len (k n : Nat) : (msl k n).length = n := by simp [msl]
theorem msl_at {k n m : Nat} (h : m < n) : (msl k n)[m]? = some ⟨0, 0, if m < k then -1 else 0, 0⟩ := by simp [msl, h]
theorem msl_fits (k n : Nat) : ∀ m ∈ msl k n, Sc.FitsM m := fun m hm => by
  obtain ⟨i, _, rfl⟩ := List.mem_map.1 hm
  simp only [Sc.FitsM, Sc.I64]
  split <;> omega

/-- Their block. -/
def MsAt (w : World) (g k n : Nat) : Prop := ∃ cur : Array Value, w.heap[g]? = some (.cells cur 39 (0, 0)) ∧ ∀ j, j < n * 4 → cur[j]? = some (.int .i64 (if j % 4 = 2 ∧ j / 4 < k then -1 else 0))

theorem MsAt.made (w : World) (n : Nat) : MsAt (w.alloc (.cells (madeCells #[.int .i64 0, .int .i64 0, .int .i64 0, .int .i64 0] (n * 4)) 39)) w.heap.size 0 n := by
  refine ⟨_, heap_alloc_new w _, fun j hj => ?_⟩
  have hm : j % 4 < 4 := Nat.mod_lt _ (by decide)
  have e : (madeCells #[Value.int .i64 0, .int .i64 0, .int .i64 0, .int .i64 0] (n * 4))[j]? = some (#[Value.int .i64 0, .int .i64 0, .int .i64 0, .int .i64 0][j % 4]!) := by
    simp [madeCells, hj]
  rw [e, if_neg (by omega)]
  match j % 4, hm with
  | 0, _ => rfl
  | 1, _ => rfl
  | 2, _ => rfl
  | 3, _ => rfl

theorem MsAt.heap {w : World} {g k n : Nat} (h : MsAt w g k n) : ∃ cur, w.heap[g]? = some (.cells cur 39 (0, 0)) := by
  obtain ⟨cur, h1, _⟩ := h
  exact ⟨cur, h1⟩

theorem MsAt.keep {w w' : World} {g k n lo hi : Nat} (h : MsAt w g k n) (hk : Kp lo hi w w') (hd : g < lo ∨ hi ≤ g) : MsAt w' g k n := by
  obtain ⟨cur, h1, h2⟩ := h
  exact ⟨cur, hk.heap h1 hd, h2⟩

theorem MsAt.cell {w : World} {g k n : Nat} (h : MsAt w g k n) {j : Nat} (hj : j < n) : w.cell? ⟨g, j * 4 + 2, none⟩ = some (.int .i64 (if j < k then -1 else 0)) ∧ w.frozen? ⟨g, j * 4 + 2, none⟩ = false := by
  obtain ⟨cur, h1, h2⟩ := h
  refine ⟨blk_cell h1 ?_, blk_frozen h1 _⟩
  rw [h2 (j * 4 + 2) (by omega)]
  congr 3
  simp only [eq_iff_iff]
  omega

theorem MsAt.set {w : World} {g k n : Nat} (h : MsAt w g k n) : MsAt (w.setCell ⟨g, k * 4 + 2, none⟩ (.int .i64 (-1))) g (k + 1) n := by
  obtain ⟨cur, h1, h2⟩ := h
  refine ⟨_, blk_set h1 _ _, fun j hj => ?_⟩
  by_cases hjk : j = k * 4 + 2
  · subst hjk
    have hs : k * 4 + 2 < cur.size := by
      have := h2 (k * 4 + 2) hj
      exact (Array.getElem?_eq_some_iff.1 this).1
    rw [Array.getElem?_setIfInBounds_self_of_lt hs, if_pos (by omega)]
  · rw [Array.getElem?_setIfInBounds_ne (fun h => hjk h.symm), h2 j hj]
    congr 2
    by_cases hc : j % 4 = 2 ∧ j / 4 < k
    · rw [if_pos hc, if_pos (by omega)]
    · rw [if_neg hc, if_neg (by omega)]

theorem MsAt.rd {w : World} {g k n : Nat} {S : Nat → Prop} (h : MsAt w g k n) (hS : S g) (hm : n ≤ maxLen) : RdS mvE 4 w S (.slice (some ⟨g, 0, none⟩) n n) (msl k n) := by
  obtain ⟨cur, h1, h2⟩ := h
  refine ⟨some ⟨g, 0, none⟩, n, by rw [msl_len], by rw [msl_len]; exact Nat.le_refl _, hm, (fun h => by cases h), fun _ => ⟨g, 0, rfl, hS, fun i x hi => ?_⟩⟩
  have hin : i < n := by
    have := (List.getElem?_eq_some_iff.1 hi).1
    rwa [msl_len] at this
  rw [msl_at hin] at hi
  cases hi
  refine ⟨[.int .i64 0, .int .i64 0, .int .i64 (if i < k then -1 else 0), .int .i64 0], rfl, fun j u hu => ?_, rfl⟩
  have hj : j < 4 := by
    have := (List.getElem?_eq_some_iff.1 hu).1
    simpa using this
  refine blk_cell h1 ?_
  rw [Nat.zero_add, h2 (i * 4 + j) (by omega)]
  match j, hj, hu with
  | 0, _, hu => simp at hu; subst hu; rw [if_neg (by omega)]
  | 1, _, hu => simp at hu; subst hu; rw [if_neg (by omega)]
  | 2, _, hu =>
    simp at hu
    subst hu
    congr 2
    by_cases hc : i < k
    · rw [if_pos hc, if_pos (by omega)]
    · rw [if_neg hc, if_neg (by omega)]
  | 3, _, hu => simp at hu; subst hu; rw [if_neg (by omega)]

end Go.Proofs.YtdgeehcfdnokmaaDoor
