/-
  An argument that is a frame, or a slice of frames, opened.
-/
import Derived.Test.YtpdkfafnffihjaaDoorRow
import Derived.Test.YtpdkfafnffihjaaDoorFrames
import Derived.Deep.Slices
import Derived.SizedLaws
namespace Go.Proofs.YtpdkfafnffihjaaDoor
open Go.ChangeShapes Go.WideShapes Go.ChangeAt Go.RowKit Go.Deep

/-- One frame: its two cells. -/
theorem frame_cells {H : Type} {enc : TypeId × Value → H} {W : World} {n : Nat} {cs : List Value} {x : DataW H × List MemPlace}
    (h : DataW.trod enc Tryd.prog W 0 (fun _ => true) true n 24 cs = some x) :
    ∃ (k : Int) (a : Option Addr) (len cap : Nat) (zs : List Int), cs = [.int .i64 k, .slice a len cap] ∧ (Lit.int .i64 k).wf = true ∧ IsRow .u8 W a len cap zs := by
  obtain ⟨xs, m, _, hxy, hcl, hxl, hf⟩ := DataW.trod_struct Tryd.underlying24 h
  have hc3 : Tryd.prog.cellsOf 24 = 2 := by kernel_rfl
  have hci : Tryd.prog.cellsOf 3 = 1 := by kernel_rfl
  have hcs : Tryd.prog.cellsOf 22 = 1 := by kernel_rfl
  rw [hc3] at hcl
  match xs, hxl, cs, hcl with
  | [y1, y2], _, [c1, c2], _ =>
    have g1 := hf 0 _ rfl
    have g2 := hf 1 _ rfl
    simp [hci] at g1
    simp [hcs] at g2
    obtain ⟨k, e1, _, w1⟩ := DataW.trod_int Tryd.underlying3 g1
    simp only [List.cons.injEq, and_true] at e1
    subst e1
    rcases open_ints Tryd.underlying22 Tryd.underlying5 (by kernel_rfl) g2 with ⟨hcs, _⟩ | ⟨x, l, c, zs, hcs, _, hl, hm, hz, hxx, hcell, hwz⟩
    · simp only [List.cons.injEq, and_true] at hcs
      subst hcs
      exact ⟨k, none, 0, 0, [], rfl, w1, .inl ⟨rfl, rfl, rfl, rfl⟩⟩
    · simp only [List.cons.injEq, and_true] at hcs
      subst hcs
      exact ⟨k, some x, l, c, zs, rfl, w1, .inr ⟨_, rfl, hl, hm, by simpa using hz, hcell, hwz⟩⟩

/-- An argument that is a frame, opened. -/
theorem open_frame {H : Type} {enc : TypeId × Value → H} {W : World} {base : Nat} {v : Value} {d : DataW H} {p : List MemPlace} (hv : Value.okWide Tryd.prog W .any base 24 v) (h : DataW.Trod enc Tryd.prog W 0 (fun _ => true) true 24 v d p) :
    ∃ (k : Int) (a : Option Addr) (len cap : Nat) (zs : List Int), v = .agg #[.int .i64 k, .slice a len cap] ∧ (Lit.int .i64 k).wf = true ∧ IsRow .u8 W a len cap zs := by
  obtain ⟨cs, rfl, _⟩ := okWide_struct Tryd.underlying24 hv
  obtain ⟨fuel, hf⟩ := h
  obtain ⟨k, a, len, cap, zs, e, h1, h2⟩ := frame_cells hf
  refine ⟨k, a, len, cap, zs, ?_, h1, h2⟩
  have e2 : cs.toList = [.int .i64 k, .slice a len cap] := e
  rw [show cs = #[.int .i64 k, .slice a len cap] by apply Array.ext'; exact e2]

/-- A row of bytes as a list of them. -/
theorem IsRow.nat {w : World} {a : Option Addr} {len cap : Nat} {zs : List Int} (h : IsRow .u8 w a len cap zs) : RdI .u8 0 w.heap.size w (.slice a len cap) (ints (nats (zs.take len))) ∧ ∀ x ∈ nats (zs.take len), x < 256 := by
  refine ⟨by rw [ints_nats h.bytes]; exact h.rd, fun x hx => ?_⟩
  obtain ⟨y, hy, rfl⟩ := List.mem_map.1 hx
  have := h.bytes y hy
  omega

theorem wf_u8 {n : Int} (h : (Lit.int .u8 n).wf = true) : ∃ s : Nat, n = s ∧ s < 256 := by
  simp [Lit.wf, IntKind.min, IntKind.max, IntKind.signed, IntKind.bits] at h
  exact ⟨n.toNat, by omega, by omega⟩

theorem open_frames {H : Type} {enc : TypeId × Value → H} {W : World} {a : Option Addr} {len cap : Nat} {d : DataW H} {p : List MemPlace} (h : DataW.Trod enc Tryd.prog W 0 (fun _ => true) true 35 (Value.slice a len cap) d p) :
    ∃ fs : List (Int × List Nat), RdF 0 W.heap.size W (.slice a len cap) fs ∧ ∀ f ∈ fs, ∀ x ∈ f.2, x < 256 := by
  obtain ⟨fuel, hf⟩ := h
  rcases open_slice Tryd.underlying35 hf with ⟨hcs, _⟩ | ⟨x, l, c, m, n, D, Pl, hcs, _, hl, hm, hmm, hx, hcell⟩
  · simp [Value.cells] at hcs
    obtain ⟨rfl, rfl, rfl⟩ := hcs
    exact ⟨[], ⟨none, 0, rfl, Nat.le_refl _, by omega, fun h => by simp at h⟩, fun f hf => by simp at hf⟩
  · simp [Value.cells] at hcs
    obtain ⟨rfl, rfl, rfl⟩ := hcs
    have hlm : len ≤ m := by rw [hmm]; split <;> omega
    have hc3 : Tryd.prog.cellsOf 24 = 2 := by kernel_rfl
    have each : ∀ i, i < len → ∃ q : Int × Option Addr × Nat × Nat × List Int, W.cell? (x.add (i * 2)) = some (.int .i64 q.1) ∧ W.cell? (x.add (i * 2 + 1)) = some (.slice q.2.1 q.2.2.1 q.2.2.2.1) ∧ IsRow .u8 W q.2.1 q.2.2.1 q.2.2.2.1 q.2.2.2.2 := by
      intro i hi
      obtain ⟨cs', h0, h1⟩ := hcell i (by omega)
      rw [hc3] at h0
      obtain ⟨k, a', l', c', zs, rfl, g1, g2⟩ := frame_cells h1
      obtain ⟨_, _, hcc⟩ := World.cells?_some h0
      have e0 := hcc 0 (by omega)
      have e1 := hcc 1 (by omega)
      rw [add_add] at e0 e1
      exact ⟨(k, a', l', c', zs), by simpa using e0, by simpa using e1, g2⟩
    obtain ⟨q, hq⟩ := choose_lt each
    have hget : ∀ i, i < len → ((List.range len).map fun i => ((q i).1, nats ((q i).2.2.2.2.take (q i).2.2.1))).getD i (0, []) = ((q i).1, nats ((q i).2.2.2.2.take (q i).2.2.1)) := fun i hi => by simp [List.getD, hi]
    refine ⟨(List.range len).map fun i => ((q i).1, nats ((q i).2.2.2.2.take (q i).2.2.1)), ⟨some x, cap, by simp, by simpa using hl, by unfold maxLen at hm; omega, fun h0 => ?_⟩, fun f hf => ?_⟩
    · have h0 : 0 < len := by simpa using h0
      obtain ⟨b, off, spot⟩ := x
      have h0c := (hq 0 h0).1
      have hsp : spot = none := by
        cases spot with
        | none => rfl
        | some s =>
          simp only [Nat.zero_mul, Addr.add, if_pos, World.cell?] at h0c
          split at h0c
          · simp at h0c
          · cases h0c
      subst hsp
      refine ⟨b, off, rfl, Nat.zero_le _, ?_, fun i hi => ?_⟩
      · rw [Addr.add_lit] at h0c
        exact World.block_lt_of_cell? _ _ h0c
      · have hi : i < len := by simpa using hi
        rw [hget i hi]
        obtain ⟨g0, g1, g2⟩ := hq i hi
        rw [Addr.add_lit] at g0 g1
        exact ⟨g0, _, by rw [Nat.add_assoc]; exact g1, g2.nat.1⟩
    · obtain ⟨i, hi, rfl⟩ := List.mem_map.1 hf
      exact ((hq i (List.mem_range.1 hi)).2.2.nat).2

end Go.Proofs.YtpdkfafnffihjaaDoor
