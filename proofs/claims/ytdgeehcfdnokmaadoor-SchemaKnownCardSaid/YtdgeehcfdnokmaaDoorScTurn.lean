/-
  Declarations that a call owns, turned: a field's kind written, the row of projections cut short and appended to.
-/
import Derived.Test.YtdgeehcfdnokmaaDoorScCopy
namespace Go.Proofs.YtdgeehcfdnokmaaDoor
open Go.RowKit

theorem ownsRow_cut {base k n m c : Nat} {e : TypeId} {w : World} {ao : Option Addr} {xs : List Value} (h : w.ownsRow base e k (.slice ao n c) n xs) (hm : m ≤ n) : w.ownsRow base e k (.slice ao m c) m (xs.take (m * k)) := by
  obtain ⟨h1, h2⟩ := h
  have hmk : m * k ≤ n * k := Nat.mul_le_mul_right k hm
  refine ⟨by rw [List.length_take, h1]; omega, ?_⟩
  rcases h2 with ⟨he, hn⟩ | ⟨g, cap, cur, he, hb, hg, hn, hc, hs, ht⟩
  · subst hn
    obtain rfl : m = 0 := by omega
    exact .inl ⟨he, rfl⟩
  · simp only [Value.slice.injEq] at he
    obtain ⟨rfl, _, rfl⟩ := he
    refine .inr ⟨g, c, cur, rfl, hb, hg, by omega, hc, hs, ?_⟩
    rw [← ht, List.take_take]
    congr 1
    omega

theorem SplitS.cut {α : Type} {E : Rp α} {k : Nat} {w : World} {S : Nat → Prop} {xs : List Value} {l : List α} (h : SplitS E k w S xs l) {m : Nat} (hm : m ≤ l.length) : SplitS E k w S (xs.take (m * k)) (l.take m) := by
  obtain ⟨h1, h2⟩ := h
  have hmk : m * k ≤ l.length * k := Nat.mul_le_mul_right k hm
  refine ⟨by rw [List.length_take, List.length_take, h1, Nat.min_eq_left hmk, Nat.min_eq_left hm], fun i x hi => ?_⟩
  have him : i < m := by
    have := (List.getElem?_eq_some_iff.1 hi).1
    rw [List.length_take] at this
    omega
  rw [List.getElem?_take_of_lt him] at hi
  have := h2 i x hi
  have hik : i * k + k ≤ m * k := by rw [← Nat.succ_mul]; exact Nat.mul_le_mul_right k him
  rw [List.drop_take, List.take_take, Nat.min_eq_left (by omega)]
  exact this

theorem OwnS.cut {α : Type} {E : Rp α} {e : TypeId} {k base c n : Nat} {w : World} {S : Nat → Prop} {ao : Option Addr} {l : List α} (h : OwnS E e k base w S (.slice ao n c) l) (hn : l.length = n) {m : Nat} (hm : m ≤ n) : OwnS E e k base w S (.slice ao m c) (l.take m) := by
  subst hn
  obtain ⟨xs, h1, h2, h3⟩ := h
  refine ⟨_, ?_, h2.cut hm, fun g hg => h3 g ?_⟩
  · rw [List.length_take, Nat.min_eq_left hm]
    exact ownsRow_cut h1 hm
  · cases ao with
    | none => simp [Value.ownBlock] at hg
    | some a => simpa [Value.ownBlock] using hg

/-- Behind a write into one row of fields, another one stays. -/
theorem OwnFs.beside {base g : Nat} {w : World} {v : Value} {T : List Fl} {cur : Array Value} (h : OwnFs base w v T) (hg : w.heap[g]? = some (.cells cur 33 (0, 0))) (hv : v.ownBlock ≠ some g) (k : Nat) (u : Value) : OwnFs base (w.setCell ⟨g, k, none⟩ u) v T := by
  obtain ⟨xs, h1, h2⟩ := h
  refine ⟨xs, ownsRow_kp h1 (kp_set w g k u) (fun b hb => ?_), h2.1, fun i x hi => flO_ktag (h2.2 i x hi) (Ktag.of_set hg k u) (Ne.symm tag_fm)⟩
  by_cases hbg : b = g
  · subst hbg
    exact absurd hb hv
  · omega

/-- The first field's kind is written. -/
theorem OwnFs.kind {base : Nat} {w : World} {v : Value} {F : Fl} {R : List Fl} (h : OwnFs base w v (F :: R)) :
    ∃ g c cur, v = .slice (some ⟨g, 0, none⟩) (R.length + 1) c ∧ base ≤ g ∧ w.heap[g]? = some (.cells cur 33 (0, 0)) ∧ w.cell? ⟨g, 0, none⟩ = some (.int .i64 F.k) ∧ OwnFs base (w.setCell ⟨g, 0, none⟩ (.int .i64 0)) v ({ F with k := 0 } :: R) := by
  obtain ⟨xs, ⟨h1, h2⟩, hs⟩ := h
  rcases h2 with ⟨_, hn⟩ | ⟨g, cap, cur, rfl, hb, hg, hn, hc, hz, ht⟩
  · simp at hn
  have h0 := hs.2 0 F rfl
  obtain ⟨mv, he, hmv⟩ := h0
  rw [Nat.zero_mul, List.drop_zero] at he
  have hx : xs = [.int .i64 F.k, .int .i64 F.p, .bool F.b, mv] ++ xs.drop 4 := by
    have := List.take_append_drop 4 xs
    rw [he] at this
    exact this.symm
  generalize xs.drop 4 = rest at hx
  subst hx
  have hcur : cur.toList[0]? = some (.int .i64 F.k) := by
    have h5 : (cur.toList.take ((F :: R).length * 4))[0]? = some (.int .i64 F.k) := by rw [ht]; rfl
    rw [List.getElem?_take] at h5
    split at h5
    · exact h5
    · cases h5
  have hkt : Ktag 33 w (w.setCell ⟨g, 0, none⟩ (.int .i64 0)) := Ktag.of_set hg 0 _
  refine ⟨g, cap, cur, rfl, hb, hg, ?_, [.int .i64 0, .int .i64 F.p, .bool F.b, mv] ++ rest, ⟨?_, .inr ⟨g, cap, cur.setIfInBounds 0 (.int .i64 0), rfl, hb, blk_set hg 0 _, hn, hc, by simpa using hz, ?_⟩⟩, ?_, fun i x hi => ?_⟩
  · rw [Array.getElem?_toList] at hcur
    exact blk_cell hg hcur
  · simpa using h1
  · rw [Array.toList_setIfInBounds]
    have hlt : 0 < cur.toList.length := (List.getElem?_eq_some_iff.1 hcur).1
    have e : (cur.toList.set 0 (.int .i64 0)).take ((F :: R).length * 4) = (cur.toList.take ((F :: R).length * 4)).set 0 (.int .i64 0) := by rw [List.take_set]
    show (cur.toList.set 0 (.int .i64 0)).take ((F :: R).length * 4) = _
    rw [e, ht]
    rfl
  · simpa using hs.1
  · match i, hi with
    | 0, hi =>
      simp at hi
      subst hi
      exact ⟨mv, rfl, hmv.ktag (fun h => h) hkt (Ne.symm tag_fm)⟩
    | j + 1, hi =>
      have h3 := hs.2 (j + 1) x hi
      rw [show (j + 1) * 4 = 4 + j * 4 by omega, ← List.drop_drop] at h3 ⊢
      exact flO_ktag h3 hkt (Ne.symm tag_fm)

/-- A type's first field's kind is written. -/
theorem OwnTs.kind {base t : Nat} {w : World} {tv : Value} {ts : List (List Fl)} {F : Fl} {R : List Fl} (h : OwnTs base w tv ts) (hT : ts[t]? = some (F :: R)) :
    ∃ tg tc g c, tv = .slice (some ⟨tg, 0, none⟩) ts.length tc ∧ base ≤ g ∧ g < w.heap.size ∧ w.cell? ⟨tg, t, none⟩ = some (.slice (some ⟨g, 0, none⟩) (R.length + 1) c) ∧ w.cell? ⟨g, 0, none⟩ = some (.int .i64 F.k) ∧ w.frozen? ⟨g, 0, none⟩ = false ∧
      Ktag 33 w (w.setCell ⟨g, 0, none⟩ (.int .i64 0)) ∧ OwnTs base (w.setCell ⟨g, 0, none⟩ (.int .i64 0)) tv (ts.set t ({ F with k := 0 } :: R)) := by
  obtain ⟨fvs, h1, h2, h3, h4⟩ := h
  have ht := (List.getElem?_eq_some_iff.1 hT).1
  obtain ⟨g, c, cur, hv, hb, hg, hc, hn⟩ := (h3 t _ hT).kind
  have hkt : Ktag 33 w (w.setCell ⟨g, 0, none⟩ (.int .i64 0)) := Ktag.of_set hg 0 _
  have h2' := h2
  obtain ⟨_, hr⟩ := h2'
  rcases hr with ⟨_, hn0⟩ | ⟨tg, cap, cu, rfl, _, htg, _, _, _, htt⟩
  · omega
  refine ⟨tg, cap, g, c, rfl, hb, heap_lt hg, ?_, hc, blk_frozen hg 0, hkt, fvs, by rw [List.length_set]; exact h1, by rw [List.length_set]; exact ownsRow_ktag h2 hkt tag_tf, fun i T hi => ?_, h4⟩
  · have hx : cu.toList[t]? = some (fvs.getD t undef) := by
      have h5 : (cu.toList.take (ts.length * 1))[t]? = some (fvs.getD t undef) := by
        rw [htt]
        simp [List.getD, show t < fvs.length by omega]
      rw [List.getElem?_take] at h5
      split at h5
      · exact h5
      · cases h5
    rw [Array.getElem?_toList, hv] at hx
    exact blk_cell htg hx
  · have hvb : (fvs.getD t undef).ownBlock = some g := by rw [hv]; rfl
    by_cases hit : i = t
    · subst hit
      rw [List.getElem?_set_self ht] at hi
      cases hi
      exact hn
    · rw [List.getElem?_set_ne (fun h => hit h.symm)] at hi
      have hil := (List.getElem?_eq_some_iff.1 hi).1
      refine (h3 i T hi).beside hg (fun hib => ?_) 0 _
      rcases Nat.lt_or_ge i t with hlt | hge
      · exact h4 i t g hlt (by omega) hib hvb
      · exact h4 t i g (by omega) (by omega) hvb hib

theorem OwnD.kind {base t : Nat} {w : World} {tv pv : Value} {d : Dc} {F : Fl} {R : List Fl} (h : OwnD base w tv pv d) (hT : d.ts[t]? = some (F :: R)) :
    ∃ tg tc g c, tv = .slice (some ⟨tg, 0, none⟩) d.ts.length tc ∧ base ≤ g ∧ g < w.heap.size ∧ w.cell? ⟨tg, t, none⟩ = some (.slice (some ⟨g, 0, none⟩) (R.length + 1) c) ∧ w.cell? ⟨g, 0, none⟩ = some (.int .i64 F.k) ∧ w.frozen? ⟨g, 0, none⟩ = false ∧
      Ktag 33 w (w.setCell ⟨g, 0, none⟩ (.int .i64 0)) ∧ OwnD base (w.setCell ⟨g, 0, none⟩ (.int .i64 0)) tv pv ⟨d.ts.set t ({ F with k := 0 } :: R), d.ps⟩ := by
  obtain ⟨tg, tc, g, c, e, hb, hlt, h1, h2, h3, h4, h5⟩ := h.t.kind hT
  exact ⟨tg, tc, g, c, e, hb, hlt, h1, h2, h3, h4, h5, h.p.ktag (fun h => h) h4 (Ne.symm tag_fp)⟩

/-- The last projection is left out. -/
theorem OwnD.last {base c n : Nat} {w : World} {tv : Value} {po : Option Addr} {d : Dc} (h : OwnD base w tv (.slice po n c) d) (hn : d.ps.length = n) : OwnD base w tv (.slice po (n - 1) c) ⟨d.ts, d.ps.dropLast⟩ := by
  refine ⟨h.t, ?_⟩
  show OwnS pjE _ 5 base w _ _ d.ps.dropLast
  rw [List.dropLast_eq_take]
  subst hn
  exact h.p.cut rfl (by omega)

end Go.Proofs.YtdgeehcfdnokmaaDoor
