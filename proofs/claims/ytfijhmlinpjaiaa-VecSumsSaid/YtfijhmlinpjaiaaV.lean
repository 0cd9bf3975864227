/-
  Vectors, plainly: entries, how two stand, what they come to together, their sum. No program is named here.
-/
import Derived.WalkKit
namespace Go.Proofs.Ytfijhmlinpjaiaa.V

/-- The entry at a place. -/
def ent (l : List Int) (i : Nat) : Int := max (l.getD i 0) 0

/-- Get. -/
def get (l : List Int) (o : Int) : Int := if o < 0 then 0 else ent l o.toNat

theorem ent_nonneg (l : List Int) (i : Nat) : 0 ≤ ent l i := by unfold ent; omega
theorem ent_out {l : List Int} {i : Nat} (h : l.length ≤ i) : ent l i = 0 := by
  unfold ent
  have : l.getD i 0 = 0 := by simp [List.getD, h]
  rw [this]
  rfl
theorem ent_in {l : List Int} {i : Nat} (h : i < l.length) : ent l i = max l[i] 0 := by
  unfold ent
  simp [List.getD, h]

theorem get_neg {l : List Int} {o : Int} (h : o < 0) : get l o = 0 := if_pos h
theorem get_nat (l : List Int) (i : Nat) : get l (i : Int) = ent l i := by
  unfold get
  rw [if_neg (by omega), Int.toNat_natCast]
theorem get_nonneg (l : List Int) (o : Int) : 0 ≤ get l o := by
  unfold get
  split
  · omega
  · exact ent_nonneg _ _

/-- All numbers are ints. -/
def I64 (l : List Int) : Prop := ∀ x ∈ l, -9223372036854775808 ≤ x ∧ x ≤ 9223372036854775807

theorem I64.nil : I64 [] := fun x h => by cases h
theorem I64.getD {l : List Int} (h : I64 l) (i : Nat) : -9223372036854775808 ≤ l.getD i 0 ∧ l.getD i 0 ≤ 9223372036854775807 := by
  by_cases hi : i < l.length
  · have : l.getD i 0 = l[i] := by simp [List.getD, hi]
    rw [this]
    exact h _ (List.getElem_mem hi)
  · have : l.getD i 0 = 0 := by simp [List.getD, Nat.le_of_not_lt hi]
    rw [this]
    omega
theorem ent_le {l : List Int} (h : I64 l) (i : Nat) : ent l i ≤ 9223372036854775807 := by
  have := h.getD i
  unfold ent
  omega
theorem get_le {l : List Int} (h : I64 l) (o : Int) : get l o ≤ 9223372036854775807 := by
  unfold get
  split
  · omega
  · exact ent_le h _

/-- No entry of a is greater than that of b. -/
def le (a b : List Int) : Prop := ∀ i, ent a i ≤ ent b i

def leB (a b : List Int) : Bool := (List.range a.length).all fun i => decide (ent a i ≤ ent b i)

theorem leB_iff {a b : List Int} : leB a b = true ↔ le a b := by
  unfold leB le
  rw [List.all_eq_true]
  constructor
  · intro h i
    by_cases hi : i < a.length
    · exact of_decide_eq_true (h i (List.mem_range.2 hi))
    · rw [ent_out (Nat.le_of_not_lt hi)]
      exact ent_nonneg _ _
  · intro h i _
    exact decide_eq_true (h i)

theorem leB_false {a b : List Int} : leB a b = false ↔ ¬ le a b := by
  rw [← leB_iff]
  simp

theorem le_refl (a : List Int) : le a a := fun _ => Int.le_refl _
theorem le_trans {a b c : List Int} (h : le a b) (k : le b c) : le a c := fun i => Int.le_trans (h i) (k i)

/-- Cmp. -/
def cmp (a b : List Int) : Int := if leB a b then (if leB b a then 0 else 1) else if leB b a then 2 else 3

theorem cmp_cases (a b : List Int) : cmp a b = 0 ∧ le a b ∧ le b a ∨ cmp a b = 1 ∧ le a b ∧ ¬ le b a ∨ cmp a b = 2 ∧ ¬ le a b ∧ le b a ∨ cmp a b = 3 ∧ ¬ le a b ∧ ¬ le b a := by
  unfold cmp
  cases h1 : leB a b <;> cases h2 : leB b a <;> simp [← leB_iff, h1, h2]

theorem cmp_same {a b : List Int} (h1 : le a b) (h2 : le b a) : cmp a b = 0 := by
  rcases cmp_cases a b with h | h | h | h
  · exact h.1
  · exact absurd h2 h.2.2
  · exact absurd h1 h.2.1
  · exact absurd h1 h.2.1
theorem cmp_less {a b : List Int} (h1 : le a b) (h2 : ¬ le b a) : cmp a b = 1 := by
  rcases cmp_cases a b with h | h | h | h
  · exact absurd h.2.2 h2
  · exact h.1
  · exact absurd h1 h.2.1
  · exact absurd h1 h.2.1
theorem cmp_more {a b : List Int} (h1 : ¬ le a b) (h2 : le b a) : cmp a b = 2 := by
  rcases cmp_cases a b with h | h | h | h
  · exact absurd h.2.1 h1
  · exact absurd h.2.1 h1
  · exact h.1
  · exact absurd h2 h.2.2
theorem cmp_apart {a b : List Int} (h1 : ¬ le a b) (h2 : ¬ le b a) : cmp a b = 3 := by
  rcases cmp_cases a b with h | h | h | h
  · exact absurd h.2.1 h1
  · exact absurd h.2.1 h1
  · exact absurd h.2.2 h2
  · exact h.1

theorem cmp_turn (a b : List Int) : cmp b a = if cmp a b = 1 then 2 else if cmp a b = 2 then 1 else cmp a b := by
  rcases cmp_cases a b with ⟨h, h1, h2⟩ | ⟨h, h1, h2⟩ | ⟨h, h1, h2⟩ | ⟨h, h1, h2⟩ <;> rw [h]
  · exact cmp_same h2 h1
  · exact cmp_more h2 h1
  · exact cmp_less h2 h1
  · exact cmp_apart h2 h1

theorem cmp_range (a b : List Int) : 0 ≤ cmp a b ∧ cmp a b ≤ 3 := by
  rcases cmp_cases a b with h | h | h | h <;> omega

theorem cmp_self (a : List Int) : cmp a a = 0 := cmp_same (le_refl a) (le_refl a)

/-- a is Same as b or Less. -/
def atMost (a b : List Int) : Bool := decide (cmp a b = 0 ∨ cmp a b = 1)
theorem atMost_eq (a b : List Int) : atMost a b = leB a b := by
  rw [Bool.eq_iff_iff, leB_iff]
  unfold atMost
  rw [decide_eq_true_iff]
  rcases cmp_cases a b with h | h | h | h
  · simp [h.1, h.2.1]
  · simp [h.1, h.2.1]
  · simp [h.1, h.2.1]
  · simp [h.1, h.2.1]

/-- What two come to together. -/
def join (a b : List Int) : List Int := (List.range (max a.length b.length)).map fun i => max (ent a i) (ent b i)

theorem join_len (a b : List Int) : (join a b).length = max a.length b.length := by simp [join]
theorem join_ent (a b : List Int) (i : Nat) : ent (join a b) i = max (ent a i) (ent b i) := by
  by_cases h : i < max a.length b.length
  · rw [ent_in (by rw [join_len]; exact h)]
    simp only [join, List.getElem_map, List.getElem_range]
    have := ent_nonneg a i
    omega
  · rw [ent_out (by rw [join_len]; omega), ent_out (l := a) (by omega), ent_out (l := b) (by omega)]
    rfl
theorem join_getD (a b : List Int) {i : Nat} (h : i < max a.length b.length) : (join a b).getD i 0 = max (ent a i) (ent b i) := by
  have h2 : i < (join a b).length := by rw [join_len]; exact h
  simp [List.getD, join, h]
theorem join_comm (a b : List Int) : join a b = join b a := by
  unfold join
  rw [Nat.max_comm]
  refine List.map_congr_left fun i _ => ?_
  omega
theorem join_assoc (a b c : List Int) : join (join a b) c = join a (join b c) := by
  have e : ∀ x y, join x y = (List.range (max x.length y.length)).map fun i => max (ent x i) (ent y i) := fun _ _ => rfl
  rw [e (join a b) c, e a (join b c), join_len, join_len, Nat.max_assoc]
  refine List.map_congr_left fun i _ => ?_
  rw [join_ent, join_ent]
  omega
theorem join_left (a b : List Int) : le a (join a b) := fun i => by rw [join_ent]; omega
theorem join_right (a b : List Int) : le b (join a b) := fun i => by rw [join_ent]; omega
theorem join_least {a b c : List Int} (h1 : le a c) (h2 : le b c) : le (join a b) c := fun i => by
  have := h1 i
  have := h2 i
  rw [join_ent]
  omega
theorem join_self (a : List Int) : cmp (join a a) a = 0 := cmp_same (join_least (le_refl a) (le_refl a)) (join_left a a)
theorem join_i64 {a b : List Int} (ha : I64 a) (hb : I64 b) : I64 (join a b) := fun x hx => by
  obtain ⟨i, _, rfl⟩ := List.mem_map.1 hx
  have := ent_le ha i
  have := ent_le hb i
  have := ent_nonneg a i
  omega
theorem join_snoc (a b : List Int) (k : Nat) : (List.range (k + 1)).map (fun i => max (ent a i) (ent b i)) = (List.range k).map (fun i => max (ent a i) (ent b i)) ++ [max (ent a k) (ent b k)] := by
  rw [List.range_succ, List.map_append]
  rfl

/-- The sum of the first entries. -/
def tot (l : List Int) : Nat → Int
  | 0 => 0
  | k + 1 => tot l k + ent l k

theorem tot_nonneg (l : List Int) : ∀ k, 0 ≤ tot l k
  | 0 => Int.le_refl _
  | k + 1 => by
    have := tot_nonneg l k
    have := ent_nonneg l k
    rw [tot]
    omega
theorem tot_mono (l : List Int) {j k : Nat} (h : j ≤ k) : tot l j ≤ tot l k := by
  induction k with
  | zero =>
    obtain rfl : j = 0 := by omega
    exact Int.le_refl _
  | succ k ih =>
    by_cases hj : j = k + 1
    · rw [hj]
      exact Int.le_refl _
    · have := ih (by omega)
      have := ent_nonneg l k
      rw [tot]
      omega
theorem tot_out (l : List Int) {k : Nat} (h : l.length ≤ k) : tot l k = tot l l.length := by
  induction k with
  | zero =>
    have : l.length = 0 := by omega
    rw [this]
  | succ k ih =>
    by_cases hj : l.length = k + 1
    · rw [hj]
    · rw [tot, ih (by omega), ent_out (by omega)]
      omega
theorem tot_le {a b : List Int} (h : le a b) : ∀ k, tot a k ≤ tot b k
  | 0 => Int.le_refl _
  | k + 1 => by
    have := tot_le h k
    have := h k
    rw [tot, tot]
    omega

/-- The sum of all entries. -/
def all (l : List Int) : Int := tot l l.length

theorem all_le {a b : List Int} (h : le a b) : all a ≤ all b := by
  have h1 := tot_le h (max a.length b.length)
  rw [tot_out a (Nat.le_max_left _ _), tot_out b (Nat.le_max_right _ _)] at h1
  exact h1
theorem all_same {a b : List Int} (h1 : le a b) (h2 : le b a) : all a = all b := Int.le_antisymm (all_le h1) (all_le h2)
theorem all_nonneg (l : List Int) : 0 ≤ all l := tot_nonneg _ _

theorem tot_lt {a b : List Int} (h : le a b) {i : Nat} (hi : ent a i < ent b i) : ∀ k, i < k → tot a k < tot b k
  | 0, hk => by omega
  | k + 1, hk => by
    have h1 := tot_le h k
    have h2 := h k
    rw [tot, tot]
    by_cases he : i = k
    · subst he
      omega
    · have := tot_lt h hi k (by omega)
      omega
theorem not_le {a b : List Int} (h : ¬ le a b) : ∃ i, ent b i < ent a i := by
  unfold le at h
  simp only [Classical.not_forall, Int.not_le] at h
  exact h
theorem all_lt {a b : List Int} (h1 : le a b) (h2 : ¬ le b a) : all a < all b := by
  obtain ⟨i, hi⟩ := not_le h2
  have h := tot_lt h1 hi (max (i + 1) (max a.length b.length)) (by omega)
  rw [tot_out a (by omega), tot_out b (by omega)] at h
  exact h

/-- Sum. -/
def sum (l : List Int) : Int × Bool := if all l ≤ 9223372036854775807 then (all l, true) else (0, false)

theorem sum_yes {l : List Int} (h : all l ≤ 9223372036854775807) : sum l = (all l, true) := if_pos h
theorem sum_no {l : List Int} (h : ¬ all l ≤ 9223372036854775807) : sum l = (0, false) := if_neg h
theorem sum_same {a b : List Int} (h1 : le a b) (h2 : le b a) : sum a = sum b := by
  unfold sum
  rw [all_same h1 h2]
theorem sum_range (l : List Int) : 0 ≤ (sum l).1 ∧ (sum l).1 ≤ 9223372036854775807 := by
  unfold sum
  have := all_nonneg l
  split
  · exact ⟨this, by assumption⟩
  · exact ⟨Int.le_refl _, by omega⟩

/-- Numbers below 0, and noughts, behind. -/
theorem ent_append {l r : List Int} (hr : ∀ x ∈ r, x ≤ 0) (i : Nat) : ent (l ++ r) i = ent l i := by
  unfold ent
  by_cases h : i < l.length
  · simp [List.getD, List.getElem?_append_left h]
  · have h' : l.length ≤ i := Nat.le_of_not_lt h
    have e1 : l.getD i 0 = 0 := by simp [List.getD, h']
    have e2 : (l ++ r).getD i 0 ≤ 0 := by
      by_cases h3 : i < (l ++ r).length
      · have e : (l ++ r).getD i 0 = (l ++ r)[i] := by
          rw [List.getD, List.getElem?_eq_getElem h3]
          rfl
        rw [e, List.getElem_append_right h']
        exact hr _ (List.getElem_mem _)
      · rw [List.getD, List.getElem?_eq_none (Nat.le_of_not_lt h3)]
        exact Int.le_refl _
    rw [e1]
    omega
theorem sum_append {l r : List Int} (hr : ∀ x ∈ r, x ≤ 0) : sum (l ++ r) = sum l :=
  sum_same (fun i => by rw [ent_append hr]; exact Int.le_refl _) (fun i => by rw [ent_append hr]; exact Int.le_refl _)

/-- The entries, one by one. -/
def ents (l : List Int) (n : Nat) : List Int := (List.range n).map fun i => ent l i
theorem ents_len (l : List Int) (n : Nat) : (ents l n).length = n := by simp [ents]
theorem ents_snoc (l : List Int) (n : Nat) : ents l (n + 1) = ents l n ++ [ent l n] := by simp [ents, List.range_succ]
theorem ents_ent {l : List Int} {n : Nat} (h : l.length ≤ n) (i : Nat) : ent (ents l n) i = ent l i := by
  by_cases hi : i < n
  · rw [ent_in (by rw [ents_len]; exact hi)]
    have := ent_nonneg l i
    simp only [ents, List.getElem_map, List.getElem_range]
    omega
  · rw [ent_out (by rw [ents_len]; omega), ent_out (by omega)]
theorem ents_le1 {l : List Int} {n : Nat} (h : l.length ≤ n) : le (ents l n) l := fun i => by rw [ents_ent h]; exact Int.le_refl _
theorem ents_le2 {l : List Int} {n : Nat} (h : l.length ≤ n) : le l (ents l n) := fun i => by rw [ents_ent h]; exact Int.le_refl _
theorem leB_same {a b a' b' : List Int} (h1 : ∀ i, ent a i = ent a' i) (h2 : ∀ i, ent b i = ent b' i) : leB a b = leB a' b' := by
  rw [Bool.eq_iff_iff, leB_iff, leB_iff]
  unfold le
  simp [h1, h2]
theorem cmp_congr {a b a' b' : List Int} (h1 : ∀ i, ent a i = ent a' i) (h2 : ∀ i, ent b i = ent b' i) : cmp a b = cmp a' b' := by
  unfold cmp
  rw [leB_same h1 h2, leB_same h2 h1]
theorem get_join (a b : List Int) (o : Int) : get (join a b) o = max (get a o) (get b o) := by
  unfold get
  split
  · rfl
  · exact join_ent _ _ _

end Go.Proofs.Ytfijhmlinpjaiaa.V
