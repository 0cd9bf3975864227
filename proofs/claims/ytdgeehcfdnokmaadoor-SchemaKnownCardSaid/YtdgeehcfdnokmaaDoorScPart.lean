/-
  What is right stays right without its last projection, and type by type; what makes it wrong. No program is named here.
-/
import Derived.Test.YtdgeehcfdnokmaaDoorSc
namespace Go.Proofs.YtdgeehcfdnokmaaDoor.Sc

theorem mem_last {α : Type} {l : List α} {x : α} (h : x ∈ l.dropLast) : x ∈ l := by
  rw [List.dropLast_eq_take] at h
  exact List.mem_of_mem_take h

theorem check_parts {d : Dc} : check d = 0 ↔ many d = false ∧ (∀ t ∈ d.ts, firstT t = 0) ∧ ∀ p ∈ d.ps, proj d p = 0 := by
  unfold check fieldsE projsE
  constructor
  · intro h
    split at h
    · cases h
    · rename_i hm
      split at h
      · rename_i hf
        exact absurd h hf
      · rename_i hf
        have hf : first (d.ts.map firstT) = 0 := by simpa using hf
        exact ⟨by simpa using hm, fun t ht => first_zero hf _ (List.mem_map_of_mem ht), fun p hp => first_zero h _ (List.mem_map_of_mem hp)⟩
  · rintro ⟨hm, hf, hp⟩
    have e1 : first (d.ts.map firstT) = 0 := first_all fun x hx => by
      obtain ⟨t, ht, rfl⟩ := List.mem_map.1 hx
      exact hf t ht
    have e2 : first (d.ps.map (proj d)) = 0 := first_all fun x hx => by
      obtain ⟨p, h, rfl⟩ := List.mem_map.1 hx
      exact hp p h
    rw [hm, e1, e2]
    rfl

theorem many_parts {d : Dc} : many d = false ↔ (1 ≤ d.ts.length ∧ d.ts.length ≤ 8) ∧ d.ps.length ≤ 8 ∧ ∀ t ∈ d.ts, manyT t = false := by
  unfold many
  simp only [Bool.or_eq_false_iff, beq_eq_false_iff_ne, decide_eq_false_iff_not, Nat.not_lt, List.any_eq_false, Bool.not_eq_true]
  constructor
  · rintro ⟨⟨⟨h1, h2⟩, h3⟩, h4⟩
    exact ⟨⟨by omega, h2⟩, h3, h4⟩
  · rintro ⟨⟨h1, h2⟩, h3, h4⟩
    exact ⟨⟨⟨by omega, h2⟩, h3⟩, h4⟩

/-- A projection's rightness hangs on the types alone. -/
theorem proj_types {d : Dc} (ps : List Pj) (p : Pj) : proj ⟨d.ts, ps⟩ p = proj d p := rfl

theorem parts_last {d : Dc} (h : check d = 0) : check ⟨d.ts, d.ps.dropLast⟩ = 0 := by
  obtain ⟨hm, hf, hp⟩ := check_parts.1 h
  obtain ⟨h1, h2, h3⟩ := many_parts.1 hm
  refine check_parts.2 ⟨many_parts.2 ⟨h1, ?_, h3⟩, hf, fun p hpm => hp p (mem_last hpm)⟩
  show d.ps.dropLast.length ≤ 8
  rw [List.length_dropLast]
  omega

theorem parts_one {d : Dc} (h : check d = 0) {T : List Fl} (hT : T ∈ d.ts) : check ⟨[T], []⟩ = 0 := by
  obtain ⟨hm, hf, _⟩ := check_parts.1 h
  obtain ⟨_, _, h3⟩ := many_parts.1 hm
  refine check_parts.2 ⟨many_parts.2 ⟨⟨by simp, by simp⟩, by simp, fun t ht => ?_⟩, fun t ht => ?_, fun p hp => by cases hp⟩
  · obtain rfl := List.mem_singleton.1 ht
    exact h3 t hT
  · obtain rfl := List.mem_singleton.1 ht
    exact hf t hT

theorem parts_field {d : Dc} {t : Nat} {T : List Fl} (hT : d.ts[t]? = some T) (f : Int) : field ⟨[T], []⟩ 0 f = field d (t : Int) f := by
  have ht := (List.getElem?_eq_some_iff.1 hT).1
  unfold field
  by_cases hf : f < 0
  · rw [if_pos (.inr (.inr hf)), if_pos (.inr (.inr hf))]
  · have e1 : (([T] : List (List Fl)).length : Int) = 1 := rfl
    show (if (0 : Int) < 0 ∨ (([T] : List (List Fl)).length : Int) ≤ 0 ∨ f < 0 then none else _) = _
    rw [if_neg (by rw [e1]; omega), if_neg (by omega), Int.toNat_natCast]
    simp [List.getD, hT]

theorem parts_fits {d : Dc} {t : Nat} {T : List Fl} (hT : d.ts[t]? = some T) (f op arg : Int) : fits ⟨[T], []⟩ 0 f op arg = fits d (t : Int) f op arg := by
  unfold fits
  rw [parts_field hT]

theorem parts_lost {d : Dc} (h : check d = 0) (z : Pj) (hz : z.t = (d.ts.length : Int)) : check ⟨d.ts, d.ps.dropLast ++ [z]⟩ = 8 := by
  obtain ⟨hm, hf, hp⟩ := check_parts.1 h
  obtain ⟨h1, h2, h3⟩ := many_parts.1 hm
  have e0 : many ⟨d.ts, d.ps.dropLast ++ [z]⟩ = false := many_parts.2 ⟨h1, by
    show (d.ps.dropLast ++ [z]).length ≤ 8
    rw [List.length_append, List.length_dropLast]
    simp
    omega, h3⟩
  have e1 : fieldsE ⟨d.ts, d.ps.dropLast ++ [z]⟩ = 0 := first_all fun x hx => by
    obtain ⟨t, ht, rfl⟩ := List.mem_map.1 hx
    exact hf t ht
  have ez : proj ⟨d.ts, d.ps.dropLast ++ [z]⟩ z = 8 := by
    unfold proj
    rw [if_pos (field_out (.inr (.inl (by rw [hz]; exact Int.le_refl _))))]
  have e2 : projsE ⟨d.ts, d.ps.dropLast ++ [z]⟩ = 8 := by
    unfold projsE
    have hl : (d.ps.dropLast ++ [z])[d.ps.dropLast.length]? = some z := by simp
    have hu : Upto (proj ⟨d.ts, d.ps.dropLast ++ [z]⟩) (d.ps.dropLast ++ [z]) d.ps.dropLast.length := fun j x hj hx => by
      rw [List.getElem?_append_left hj] at hx
      exact hp x (mem_last (List.mem_of_getElem? hx))
    rw [hu.stop hl (by rw [ez]; decide), ez]
  unfold check
  rw [e0, e1, e2]
  rfl

theorem parts_kind {d : Dc} (h : check d = 0) {t : Nat} {F : Fl} {R : List Fl} (hT : d.ts[t]? = some (F :: R)) :
    check ⟨d.ts.set t ({ F with k := 0 } :: R), d.ps⟩ = 2 ∨ check ⟨d.ts.set t ({ F with k := 0 } :: R), d.ps⟩ = 3 := by
  obtain ⟨hm, hf, hp⟩ := check_parts.1 h
  have ht := (List.getElem?_eq_some_iff.1 hT).1
  unfold check
  by_cases hmm : many ⟨d.ts.set t ({ F with k := 0 } :: R), d.ps⟩ = true
  · rw [if_pos hmm]
    exact .inr rfl
  · rw [if_neg hmm]
    have e1 : firstT ({ F with k := 0 } :: R) = 2 := by
      unfold firstT
      rw [List.map_cons, first]
      have : one ({ F with k := 0 } :: R) { F with k := 0 } = 2 := by
        unfold one
        rw [if_pos (.inl (show (0 : Int) < 1 by decide))]
      rw [this]
      rfl
    have e2 : fieldsE ⟨d.ts.set t ({ F with k := 0 } :: R), d.ps⟩ = 2 := by
      unfold fieldsE
      have hl : (d.ts.set t ({ F with k := 0 } :: R))[t]? = some ({ F with k := 0 } :: R) := by simp [ht]
      have hu : Upto firstT (d.ts.set t ({ F with k := 0 } :: R)) t := fun j x hj hx => by
        rw [List.getElem?_set_ne (by omega)] at hx
        exact hf x (List.mem_of_getElem? hx)
      show first ((d.ts.set t ({ F with k := 0 } :: R)).map firstT) = 2
      rw [hu.stop hl (by rw [e1]; decide), e1]
    rw [e2]
    exact .inl rfl

/-- What fits in ints, and is not long, stays so. -/
theorem fits_last {d : Dc} (h : Fits d) : Fits ⟨d.ts, d.ps.dropLast⟩ := ⟨h.1, fun p hp => h.2 p (mem_last hp)⟩
theorem short_last {d : Dc} (h : Short d) : Short ⟨d.ts, d.ps.dropLast⟩ := ⟨h.1, by
  show d.ps.dropLast.length ≤ 40
  have := h.2.1
  rw [List.length_dropLast]
  omega, h.2.2⟩
theorem fits_one {d : Dc} (h : Fits d) {T : List Fl} (hT : T ∈ d.ts) : Fits ⟨[T], []⟩ := ⟨fun t ht => by
  obtain rfl := List.mem_singleton.1 ht
  exact h.1 t hT, fun p hp => by cases hp⟩
theorem short_one {d : Dc} (h : Short d) {T : List Fl} (hT : T ∈ d.ts) : Short ⟨[T], []⟩ := ⟨by simp, by simp, fun t ht => by
  obtain rfl := List.mem_singleton.1 ht
  exact h.2.2 t hT⟩
theorem fits_lost {d : Dc} (h : Fits d) {z : Pj} (hz : FitsP z) : Fits ⟨d.ts, d.ps.dropLast ++ [z]⟩ := ⟨h.1, fun p hp => by
  rcases List.mem_append.1 hp with hp | hp
  · exact h.2 p (mem_last hp)
  · obtain rfl := List.mem_singleton.1 hp
    exact hz⟩
theorem short_lost {d : Dc} (h : Short d) (h8 : d.ps.length ≤ 8) (z : Pj) : Short ⟨d.ts, d.ps.dropLast ++ [z]⟩ := ⟨h.1, by
  show (d.ps.dropLast ++ [z]).length ≤ 40
  rw [List.length_append, List.length_dropLast]
  simp
  omega, h.2.2⟩
theorem fits_kind {d : Dc} (h : Fits d) {t : Nat} {F : Fl} {R : List Fl} (hT : d.ts[t]? = some (F :: R)) : Fits ⟨d.ts.set t ({ F with k := 0 } :: R), d.ps⟩ := ⟨fun u hu f hf => by
  have h0 := h.1 _ (List.mem_of_getElem? hT)
  rcases List.mem_or_eq_of_mem_set hu with hu | rfl
  · exact h.1 u hu f hf
  · rcases List.mem_cons.1 hf with rfl | hf
    · have := h0 F (List.mem_cons_self ..)
      exact ⟨⟨show (-9223372036854775808 : Int) ≤ 0 by decide, show (0 : Int) ≤ 9223372036854775807 by decide⟩, this.2.1, this.2.2⟩
    · exact h0 f (List.mem_cons_of_mem _ hf), h.2⟩
theorem short_kind {d : Dc} (h : Short d) {t : Nat} {F : Fl} {R : List Fl} (hT : d.ts[t]? = some (F :: R)) : Short ⟨d.ts.set t ({ F with k := 0 } :: R), d.ps⟩ := ⟨by
  show (d.ts.set t _).length ≤ 20
  rw [List.length_set]
  exact h.1, h.2.1, fun u hu => by
  have h0 := h.2.2 _ (List.mem_of_getElem? hT)
  rcases List.mem_or_eq_of_mem_set hu with hu | rfl
  · exact h.2.2 u hu
  · refine ⟨by simpa using h0.1, fun f hf => ?_⟩
    rcases List.mem_cons.1 hf with rfl | hf
    · exact h0.2 F (List.mem_cons_self ..)
    · exact h0.2 f (List.mem_cons_of_mem _ hf)⟩

theorem fits_new (n : Nat) (h : n ≤ 8) : FitsP ⟨(n : Int), 0, 1, 0, 2⟩ := by
  simp [FitsP, I64]
  omega

/-- Right declarations: at least one type, and each with a field. -/
theorem has_field {d : Dc} (h : check d = 0) {T : List Fl} (hT : T ∈ d.ts) : ∃ F R, T = F :: R := by
  obtain ⟨hm, _, _⟩ := check_parts.1 h
  have h3 := (many_parts.1 hm).2.2 T hT
  match T, h3 with
  | [], h3 => simp [manyT] at h3
  | F :: R, _ => exact ⟨F, R, rfl⟩
theorem has_type {d : Dc} (h : check d = 0) : 1 ≤ d.ts.length ∧ d.ts.length ≤ 8 ∧ d.ps.length ≤ 8 := by
  obtain ⟨hm, _, _⟩ := check_parts.1 h
  have h3 := many_parts.1 hm
  exact ⟨h3.1.1, h3.1.2, h3.2.1⟩

end Go.Proofs.YtdgeehcfdnokmaaDoor.Sc
