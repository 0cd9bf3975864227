/-
  Slices of frames: what one reads as; one that the call owns.
-/
import Derived.Test.YtpdkfafnffihjaaDoorFRef2
namespace Go.Proofs.YtpdkfafnffihjaaDoor
open Go.RowKit

/-- The cells of frames: kinds, and the bodies' values. -/
def frCells : List (Nat × List Nat) → List Value → List Value
  | f :: fs, v :: vs => .int .i64 (f.1 : Nat) :: v :: frCells fs vs
  | _, _ => []

theorem frCells_len : ∀ (fs : List (Nat × List Nat)) (vs : List Value), vs.length = fs.length → (frCells fs vs).length = fs.length * 2
  | [], [], _ => rfl
  | [], _ :: _, h => by simp at h
  | _ :: _, [], h => by simp at h
  | f :: fs, v :: vs, h => by
    simp only [frCells, List.length_cons]
    rw [frCells_len fs vs (by simpa using h)]
    omega

theorem frCells_snoc : ∀ (fs : List (Nat × List Nat)) (vs : List Value) (f : Nat × List Nat) (v : Value), vs.length = fs.length → frCells (fs ++ [f]) (vs ++ [v]) = frCells fs vs ++ [.int .i64 (f.1 : Nat), v]
  | [], [], _, _, _ => rfl
  | [], _ :: _, _, _, h => by simp at h
  | _ :: _, [], _, _, h => by simp at h
  | f :: fs, v :: vs, f', v', h => by
    simp only [frCells, List.cons_append]
    rw [frCells_snoc fs vs f' v' (by simpa using h)]

theorem frCells_get : ∀ (fs : List (Nat × List Nat)) (vs : List Value) (i : Nat), vs.length = fs.length → i < fs.length → (frCells fs vs)[i * 2]? = some (.int .i64 ((fs.getD i (0, [])).1 : Nat)) ∧ (frCells fs vs)[i * 2 + 1]? = some (vs.getD i undef)
  | [], _, _, _, h => by simp at h
  | _ :: _, [], _, h, _ => by simp at h
  | f :: fs, v :: vs, 0, _, _ => ⟨rfl, rfl⟩
  | f :: fs, v :: vs, i + 1, h, hi => by
    have := frCells_get fs vs i (by simpa using h) (by simpa using hi)
    have e1 : (i + 1) * 2 = i * 2 + 1 + 1 := by omega
    have e2 : (i + 1) * 2 + 1 = i * 2 + 1 + 1 + 1 := by omega
    rw [e1]
    simpa [frCells] using this

/-- A slice of frames that the call owns, bodies and all. -/
def OwnF (base hi : Nat) (w : World) (v : Value) (fs : List (Nat × List Nat)) : Prop :=
  ∃ vs : List Value, vs.length = fs.length ∧ w.ownsRow base 24 2 v fs.length (frCells fs vs) ∧ (∀ k, v.ownBlock = some k → k < hi) ∧ ∀ i, i < fs.length → OwnI .u8 5 base hi w (vs.getD i undef) (ints (fs.getD i (0, [])).2)

theorem OwnF.nil (base hi : Nat) (w : World) : OwnF base hi w (.slice none 0 0) [] := ⟨[], rfl, World.ownsRow_nil _ _ _ _, fun k hk => by simp [Value.ownBlock] at hk, fun i hi => by simp at hi⟩

theorem ownsRow_keep {base : Nat} {e : TypeId} {k n lo' hi' : Nat} {w w' : World} {v : Value} {xs : List Value} (h : w.ownsRow base e k v n xs) (hk : Kp lo' hi' w w') (hd : ∀ b, v.ownBlock = some b → b < lo' ∨ hi' ≤ b) : w'.ownsRow base e k v n xs := by
  obtain ⟨h1, h2⟩ := h
  refine ⟨h1, ?_⟩
  rcases h2 with hn | ⟨g, cap, cur, rfl, hb, hg, rest⟩
  · exact .inl hn
  · exact .inr ⟨g, cap, cur, rfl, hb, hk.heap hg (hd g rfl), rest⟩

theorem OwnF.keep0 {base hi : Nat} {w w' : World} {v : Value} {fs : List (Nat × List Nat)} (h : OwnF base hi w v fs) (hk : Kp 0 0 w w') : OwnF base hi w' v fs := by
  obtain ⟨vs, h1, h2, h3, h4⟩ := h
  exact ⟨vs, h1, ownsRow_keep h2 hk (fun _ _ => .inr (Nat.zero_le _)), h3, fun i hi => (h4 i hi).keep0 hk⟩

theorem ownsRow_block {base k n : Nat} {e : TypeId} {w : World} {v : Value} {xs : List Value} (h : w.ownsRow base e k v n xs) : ∀ g, v.ownBlock = some g → ∃ cur, w.heap[g]? = some (.cells cur e (0, 0)) := by
  intro g hg
  obtain ⟨_, h2⟩ := h
  rcases h2 with ⟨rfl, _⟩ | ⟨g', cap, cur, rfl, _, hb, _⟩
  · simp [Value.ownBlock] at hg
  · simp only [Value.ownBlock, Option.some.injEq] at hg
    subst hg
    exact ⟨cur, hb⟩

/-- A row of bytes stays as it is where a row of another type is appended to. -/
theorem OwnI.grown {K : IntKind} {e e' : TypeId} {lo hi : Nat} {w w' : World} {v : Value} {l : List Int} {row : Option Nat} (h : OwnI K e lo hi w v l) (hg : w.grownBy w' row) (hr : ∀ g, row = some g → ∃ cur, w.heap[g]? = some (.cells cur e' (0, 0))) (hne : e ≠ e') : OwnI K e lo hi w' v l := by
  obtain ⟨⟨h1, h2⟩, h3⟩ := h
  refine ⟨⟨h1, ?_⟩, h3⟩
  rcases h2 with hn | ⟨g, cap, cur, rfl, hb, hgc, rest⟩
  · exact .inl hn
  · refine .inr ⟨g, cap, cur, rfl, hb, ?_, rest⟩
    rw [hg.block g (heap_lt hgc) ?_]
    · exact hgc
    · intro er
      obtain ⟨cur', hc'⟩ := hr g er.symm
      rw [hgc] at hc'
      simp only [Option.some.injEq, Obj.cells.injEq] at hc'
      exact hne hc'.2.1

theorem cell_two (w : World) (u v : Value) (e : TypeId) : ∀ j x, [u, v][j]? = some x → (w.alloc (.cells #[u, v] e)).cell? ((⟨w.heap.size, 0, none⟩ : Addr).add j) = some x := by
  intro j x hx
  match j, hx with
  | 0, hx =>
    simp at hx
    subst hx
    simp [Addr.add]
  | 1, hx =>
    simp at hx
    subst hx
    simp [Addr.add]

/-- A slice of frames, as it reads. -/
def RdF (lo hi : Nat) (w : World) (v : Value) (fs : List (Int × List Nat)) : Prop :=
  ∃ ao c, v = .slice ao fs.length c ∧ fs.length ≤ c ∧ c ≤ 9223372036854775807 ∧ (0 < fs.length → ∃ g o, ao = some ⟨g, o, none⟩ ∧ lo ≤ g ∧ g < hi ∧
    ∀ i, i < fs.length → w.cell? ⟨g, o + i * 2, none⟩ = some (.int .i64 (fs.getD i (0, [])).1) ∧ ∃ vb, w.cell? ⟨g, o + i * 2 + 1, none⟩ = some vb ∧ RdI .u8 lo hi w vb (ints (fs.getD i (0, [])).2))

theorem RdF.keep {lo hi lo' hi' : Nat} {w w' : World} {v : Value} {fs : List (Int × List Nat)} (h : RdF lo hi w v fs) (hk : Kp lo' hi' w w') (hd : ∀ b, lo ≤ b → b < hi → b < lo' ∨ hi' ≤ b) : RdF lo hi w' v fs := by
  obtain ⟨ao, c, rfl, h1, h2, h3⟩ := h
  refine ⟨ao, c, rfl, h1, h2, fun h0 => ?_⟩
  obtain ⟨g, o, e, hl, hh, hc⟩ := h3 h0
  refine ⟨g, o, e, hl, hh, fun i hi => ?_⟩
  obtain ⟨c1, vb, c2, hr⟩ := hc i hi
  exact ⟨hk.cell c1 (hd g hl hh), vb, hk.cell c2 (hd g hl hh), hr.keep hk hd⟩

theorem RdF.keep0 {lo hi : Nat} {w w' : World} {v : Value} {fs : List (Int × List Nat)} (h : RdF lo hi w v fs) (hk : Kp 0 0 w w') : RdF lo hi w' v fs := h.keep hk fun _ _ _ => .inr (Nat.zero_le _)

def asF (fs : List (Nat × List Nat)) : List (Int × List Nat) := fs.map fun f => ((f.1 : Int), f.2)

theorem asF_len (fs : List (Nat × List Nat)) : (asF fs).length = fs.length := List.length_map _
theorem asF_get (fs : List (Nat × List Nat)) (i : Nat) (h : i < fs.length) : (asF fs).getD i (0, []) = (((fs.getD i (0, [])).1 : Int), (fs.getD i (0, [])).2) := by
  simp [asF, List.getD, h]

theorem OwnF.rd {base hi : Nat} {w : World} {v : Value} {fs : List (Nat × List Nat)} (h : OwnF base hi w v fs) : RdF base hi w v (asF fs) := by
  obtain ⟨vs, h1, ⟨h2, h2'⟩, h3, h4⟩ := h
  rcases h2' with ⟨rfl, hn⟩ | ⟨g, cap, cur, rfl, hb, hg, hn, hc, hs, ht⟩
  · exact ⟨none, 0, by rw [asF_len, hn], by rw [asF_len]; omega, by omega, fun h => by rw [asF_len] at h; omega⟩
  · refine ⟨some ⟨g, 0, none⟩, cap, by rw [asF_len], by rw [asF_len]; exact hn, by unfold maxLen at hc; omega, fun _ => ⟨g, 0, rfl, hb, h3 g rfl, fun i hi => ?_⟩⟩
    rw [asF_len] at hi
    rw [asF_get fs i hi]
    obtain ⟨e1, e2⟩ := frCells_get fs vs i h1 hi
    have hcell : ∀ j u, (frCells fs vs)[j]? = some u → w.cell? ⟨g, 0 + j, none⟩ = some u := fun j u hu => by
      rw [← ht, List.getElem?_take] at hu
      split at hu
      · simp only [World.cell?, hg, Nat.zero_add]
        simpa using hu
      · cases hu
    refine ⟨hcell _ _ e1, _, ?_, (h4 i hi).rd⟩
    have := hcell _ _ e2
    rwa [← Nat.add_assoc] at this

end Go.Proofs.YtpdkfafnffihjaaDoor
