/-
  An argument that is a slice of things, opened.
-/
import Derived.Test.YtomefjfhccicaaaRow
import Derived.Test.YtomefjfhccicaaaThing
import Derived.Deep.Slices
import Derived.SizedLaws
namespace Go.Proofs.Ytomefjfhccicaaa
open Go.ChangeShapes Go.WideShapes Go.ChangeAt Go.RowKit Go.Deep

theorem weights_mem {H : Type} {P : Program} {e : TypeId} : ∀ {l : List (DataW H)} {d : DataW H}, d ∈ l → ∀ n ∈ d.weights P e, n ∈ DataW.weightsAll P e l
  | d0 :: l, d, hd, n, hn => by
    simp only [DataW.weightsAll, List.mem_append]
    rcases List.mem_cons.1 hd with rfl | h
    · exact .inl hn
    · exact .inr (weights_mem h n hn)

/-- What is known of a slice of things that came in. -/
def IsThs (w : World) (a : Option Addr) (len cap : Nat) (T : Ths) : Prop :=
  (len ≤ cap ∧ cap ≤ 9223372036854775807) ∧ len ≤ 140737488351232 ∧ ClT w.heap.size w a len T ∧ RdV w.heap.size w len T ∧ InT len T

/-- One thing: its three cells. -/
theorem thing_cells {H : Type} {enc : TypeId × Value → H} {W : World} {n : Nat} {cs : List Value} {x : DataW H × List MemPlace}
    (h : DataW.trod enc Try.prog W 0 (fun _ => true) true n 51 cs = some x) (hs : ∀ m ∈ x.1.weights Try.prog 51, m ≤ reachBytes) :
    ∃ (r : Bool) (k : Int) (a : Option Addr) (len cap : Nat) (zs : List Int), cs = [.bool r, .int .i64 k, .slice a len cap] ∧ (Lit.int .i64 k).wf = true ∧ IsRow .u8 W a len cap zs ∧ len ≤ 140737488351232 := by
  obtain ⟨xs, m, _, hxy, hcl, hxl, hf⟩ := DataW.trod_struct Try.underlying51 h
  have hc3 : Try.prog.cellsOf 51 = 3 := by kernel_rfl
  have hcb : Try.prog.cellsOf 4 = 1 := by kernel_rfl
  have hci : Try.prog.cellsOf 3 = 1 := by kernel_rfl
  have hcs : Try.prog.cellsOf 22 = 1 := by kernel_rfl
  rw [hc3] at hcl
  match xs, hxl, cs, hcl with
  | [y0, y1, y2], _, [c0, c1, c2], _ =>
    have g0 := hf 0 _ rfl
    have g1 := hf 1 _ rfl
    have g2 := hf 2 _ rfl
    simp [hcb] at g0
    simp [hci] at g1
    simp [hcs] at g2
    obtain ⟨r, e0, _⟩ := DataW.trod_bool Try.underlying4 g0
    obtain ⟨k, e1, _, w1⟩ := DataW.trod_int Try.underlying3 g1
    simp only [List.cons.injEq, and_true] at e0 e1
    subst e0 e1
    have hw : ∀ m ∈ y2.1.weights Try.prog 22, m ≤ reachBytes := fun m hm => hs m (by
      rw [hxy]
      simp only [DataW.weights, Try.underlying51, List.map_cons, List.map_nil, DataW.weightsEach, List.mem_append]
      exact .inr (.inr (.inl hm)))
    rcases open_ints Try.underlying22 Try.underlying5 (by kernel_rfl) g2 with ⟨hcs, _⟩ | ⟨x, l, c, zs, hcs, _, hl, hm, hz, hxx, hcell, hwz⟩
    · simp only [List.cons.injEq, and_true] at hcs
      subst hcs
      exact ⟨r, k, none, 0, 0, [], rfl, w1, .inl ⟨rfl, rfl, rfl, rfl⟩, Nat.zero_le _⟩
    · simp only [List.cons.injEq, and_true] at hcs
      subst hcs
      refine ⟨r, k, some x, l, c, zs, rfl, w1, .inr ⟨_, rfl, hl, hm, by simpa using hz, hcell, hwz⟩, ?_⟩
      rw [hxx] at hw
      have hz' : zs.length = c := by simpa using hz
      have := hw ((lits (H := H) .u8 (zs.take l)).length + (lits (H := H) .u8 (zs.drop l)).length) (by
        have hb : Try.prog.bytesOf 5 = 1 := by kernel_rfl
        simp [DataW.weights, Try.underlying22, hb])
      simp only [lits, List.length_map, List.length_take, List.length_drop, reachBytes] at this
      omega

theorem open_things {H : Type} {enc : TypeId × Value → H} {W : World} {a : Option Addr} {len cap : Nat} {d : DataW H} {p : List MemPlace} (h : DataW.Trod enc Try.prog W 0 (fun _ => true) true 44 (Value.slice a len cap) d p)
    (hs : ∀ m ∈ d.weights Try.prog 44, m ≤ reachBytes) : ∃ T, IsThs W a len cap T := by
  obtain ⟨fuel, hf⟩ := h
  rcases open_slice Try.underlying44 hf with ⟨hcs, _⟩ | ⟨x, l, c, m, n, D, Pl, hcs, _, hl, hm, hmm, hx, hcell⟩
  · simp [Value.cells] at hcs
    obtain ⟨rfl, rfl, rfl⟩ := hcs
    exact ⟨⟨fun _ => false, fun _ => 0, fun _ => [], fun _ => .slice none 0 0⟩, ⟨Nat.le_refl _, by omega⟩, Nat.zero_le _, fun h => absurd h (by omega), fun i hi => absurd hi (by omega), fun i hi => absurd hi (by omega)⟩
  · simp [Value.cells] at hcs
    obtain ⟨rfl, rfl, rfl⟩ := hcs
    have hlm : len ≤ m := by rw [hmm]; split <;> omega
    have hc3 : Try.prog.cellsOf 51 = 3 := by kernel_rfl
    simp only [Prod.mk.injEq] at hx
    have hwd : ∀ i, i < len → ∀ q ∈ (D i).weights Try.prog 51, q ≤ reachBytes := fun i hi q hq => hs q (by
      rw [hx.1]
      simp only [DataW.weights, Try.underlying44, List.mem_cons, List.mem_append]
      exact .inr (.inl (weights_mem (List.mem_map.2 ⟨i, List.mem_range.2 hi, rfl⟩) q hq)))
    have hlen : len ≤ 140737488351232 := by
      have := hs ((((List.range len).map D).length + ((List.range (m - len)).map fun j => D (len + j)).length) * Try.prog.bytesOf 51) (by
        rw [hx.1]
        simp only [DataW.weights, Try.underlying44, List.mem_cons]
        exact .inl trivial)
      have hb : Try.prog.bytesOf 51 = 40 := by kernel_rfl
      rw [hb] at this
      simp only [List.length_map, List.length_range, reachBytes] at this
      omega
    have each : ∀ i, i < len → ∃ q : Bool × Int × Option Addr × Nat × Nat × List Int, W.cell? (x.add (i * 3)) = some (.bool q.1) ∧ W.cell? (x.add (i * 3 + 1)) = some (.int .i64 q.2.1) ∧ W.cell? (x.add (i * 3 + 2)) = some (.slice q.2.2.1 q.2.2.2.1 q.2.2.2.2.1) ∧
        (Lit.int .i64 q.2.1).wf = true ∧ IsRow .u8 W q.2.2.1 q.2.2.2.1 q.2.2.2.2.1 q.2.2.2.2.2 ∧ q.2.2.2.1 ≤ 140737488351232 := by
      intro i hi
      obtain ⟨cs', h0, h1⟩ := hcell i (by omega)
      rw [hc3] at h0
      obtain ⟨r, k, a', l', c', zs, rfl, g1, g2, g3⟩ := thing_cells h1 (hwd i hi)
      obtain ⟨_, _, hcc⟩ := World.cells?_some h0
      have e0 := hcc 0 (by omega)
      have e1 := hcc 1 (by omega)
      have e2 := hcc 2 (by omega)
      rw [add_add] at e0 e1 e2
      exact ⟨(r, k, a', l', c', zs), by simpa using e0, by simpa using e1, by simpa using e2, g1, g2, g3⟩
    obtain ⟨q, hq⟩ := choose_lt each
    refine ⟨⟨fun i => (q i).1, fun i => (q i).2.1, fun i => (q i).2.2.2.2.2.take (q i).2.2.2.1, fun i => .slice (q i).2.2.1 (q i).2.2.2.1 (q i).2.2.2.2.1⟩, ⟨hl, by unfold maxLen at hm; omega⟩, hlen, fun h0 => ?_, fun i hi => ?_, fun i hi => ?_⟩
    · obtain ⟨b, off, spot⟩ := x
      have h0c := (hq 0 h0).1
      have hsp : spot = none := by
        cases spot with
        | none => rfl
        | some s =>
          simp only [Nat.zero_mul, Addr.add, if_pos, World.cell?] at h0c
          split at h0c
          · simp at h0c
          · cases h0c
      subst hsp
      refine ⟨b, off, rfl, ?_, fun i hi => ?_⟩
      · rw [Addr.add_lit] at h0c
        exact World.block_lt_of_cell? _ _ h0c
      · obtain ⟨g0, g1, g2, _⟩ := hq i hi
        rw [Addr.add_lit] at g0 g1 g2
        exact ⟨g0, by rw [Nat.add_assoc]; exact g1, by rw [Nat.add_assoc]; exact g2⟩
    · exact (hq i hi).2.2.2.2.1.rd
    · obtain ⟨_, _, _, g1, g2, g3⟩ := hq i hi
      refine ⟨wf_int g1, g2.bytes, ?_⟩
      show (List.take _ _).length ≤ _
      rw [List.length_take]
      omega

end Go.Proofs.Ytomefjfhccicaaa
