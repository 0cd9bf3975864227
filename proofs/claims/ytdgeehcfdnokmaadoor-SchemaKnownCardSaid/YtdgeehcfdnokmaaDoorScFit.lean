/-
  What fits, plainly: by a field's kind and how many moves it has. No program is named here.
-/
import Derived.Test.YtdgeehcfdnokmaaDoorSc
namespace Go.Proofs.YtdgeehcfdnokmaaDoor.Sc

/-- Whether an operation fits a field of kind k with L moves. -/
def fitv (k : Int) (L : Int) (op arg : Int) : Int :=
  if op = 1 then (if k ≠ 1 then 2 else if arg = 0 then 1 else 0)
  else if op = 2 then (if k ≠ 2 then 2 else 0)
  else if op = 3 ∨ op = 4 then (if k ≠ 3 then 2 else 0)
  else if op = 5 then (if k ≠ 4 then 2 else if arg < 0 ∨ L ≤ arg then 1 else 0)
  else 2

theorem fits_of {d : Dc} {t f : Int} {x : Fl} (h : field d t f = some x) (op arg : Int) : fits d t f op arg = fitv x.k (x.ms.length : Int) op arg := by
  unfold fits fitv
  rw [h]

/-- Whether it is of the kind's own operations. -/
def good (k op : Int) : Bool := decide ((op = 1 ∧ k = 1) ∨ (op = 2 ∧ k = 2) ∨ ((op = 3 ∨ op = 4) ∧ k = 3) ∨ (op = 5 ∧ k = 4))

theorem fitv_good {k L op arg : Int} : good k op = true ↔ fitv k L op arg = 0 ∨ fitv k L op arg = 1 := by
  unfold good fitv
  rw [decide_eq_true_eq]
  split
  · split
    · omega
    · split <;> omega
  split
  · split <;> omega
  split
  · split <;> omega
  split
  · split
    · omega
    · split <;> omega
  · omega
theorem fitv_bad {k L op arg : Int} : good k op = false ↔ fitv k L op arg = 2 := by
  have h := fitv_good (k := k) (L := L) (op := op) (arg := arg)
  have h2 : fitv k L op arg = 0 ∨ fitv k L op arg = 1 ∨ fitv k L op arg = 2 := by
    unfold fitv
    repeat' split
    all_goals omega
  cases hg : good k op
  · rw [hg] at h
    simp at h
    simp
    omega
  · rw [hg] at h
    simp at h
    simp
    omega
theorem fitv_inc {k L arg : Int} (h : fitv k L 1 arg = 0) : arg ≠ 0 := by
  unfold fitv at h
  rw [if_pos rfl] at h
  split at h
  · omega
  · split at h
    · omega
    · assumption
theorem fitv_move {k L arg : Int} (h : fitv k L 5 arg = 0) : 0 ≤ arg ∧ arg < L := by
  unfold fitv at h
  rw [if_neg (by decide), if_neg (by decide), if_neg (by decide), if_pos rfl] at h
  split at h
  · omega
  · split at h
    · omega
    · omega

/-- How many of the first operations, from -1 on, are of the kind. -/
def cnt (k : Int) : Nat → Int
  | 0 => 0
  | j + 1 => cnt k j + (if good k ((j : Int) - 1) then 1 else 0)

theorem cnt_nine {k : Int} (h1 : 1 ≤ k) (h4 : k ≤ 4) : cnt k 9 = if k = 3 then 2 else 1 := by
  have : k = 1 ∨ k = 2 ∨ k = 3 ∨ k = 4 := by omega
  rcases this with rfl | rfl | rfl | rfl <;> decide
theorem cnt_le (k : Int) : ∀ j, 0 ≤ cnt k j ∧ cnt k j ≤ j
  | 0 => by simp [cnt]
  | j + 1 => by
    have := cnt_le k j
    unfold cnt
    split <;> omega

/-- Of declarations that are right each field's kind is one. -/
theorem kind_ok {d : Dc} (h : check d = 0) {t : List Fl} (ht : t ∈ d.ts) {f : Fl} (hf : f ∈ t) : 1 ≤ f.k ∧ f.k ≤ 4 := by
  unfold check at h
  split at h
  · cases h
  split at h
  · rename_i h1 h2
    exact absurd h h2
  rename_i h1 h2
  have h3 : fieldsE d = 0 := by simpa using h2
  have h4 := first_zero h3 (firstT t) (List.mem_map.2 ⟨t, ht, rfl⟩)
  have h5 := first_zero h4 (one t f) (List.mem_map.2 ⟨f, hf, rfl⟩)
  unfold one at h5
  split at h5
  · cases h5
  · omega

end Go.Proofs.YtdgeehcfdnokmaaDoor.Sc
