/-
  An argument that is an event, opened.
-/
import Derived.Test.YtnboeagallkooaaRow
import Derived.Test.YtnboeagallkooaaEvRef
import Derived.Deep.Slices
import Derived.SizedLaws
namespace Go.Proofs.Ytnboeagallkooaa
open Go.ChangeShapes Go.WideShapes Go.ChangeAt Go.RowKit Go.Deep

/-- One event: its ten cells. -/
theorem event_cells {H : Type} {enc : TypeId × Value → H} {W : World} {n : Nat} {cs : List Value} {x : DataW H × List MemPlace}
    (h : DataW.trod enc Try.prog W 0 (fun _ => true) true n 26 cs = some x) :
    ∃ (o s l : Int) (ad : Option Addr) (len cap : Nat) (zs : List Int) (t a f p r k : Int), cs = [.int .i64 o, .int .i64 s, .int .i64 l, .slice ad len cap, .int .i64 t, .int .i64 a, .int .i64 f, .int .i64 p, .int .i64 r, .int .i64 k] ∧
      ((Lit.int .i64 o).wf = true ∧ (Lit.int .i64 s).wf = true ∧ (Lit.int .i64 l).wf = true ∧ (Lit.int .i64 t).wf = true ∧ (Lit.int .i64 a).wf = true ∧ (Lit.int .i64 f).wf = true ∧ (Lit.int .i64 p).wf = true ∧ (Lit.int .i64 r).wf = true ∧ (Lit.int .i64 k).wf = true) ∧ IsRow .i64 W ad len cap zs := by
  obtain ⟨xs, m, _, hxy, hcl, hxl, hf⟩ := DataW.trod_struct Try.underlying26 h
  have hc10 : Try.prog.cellsOf 26 = 10 := by kernel_rfl
  have hc2 : Try.prog.cellsOf 23 = 2 := by kernel_rfl
  have hci : Try.prog.cellsOf 3 = 1 := by kernel_rfl
  have hcs : Try.prog.cellsOf 24 = 1 := by kernel_rfl
  rw [hc10] at hcl
  match xs, hxl, cs, hcl with
  | [y1, y2, y3, y4, y5, y6, y7, y8, y9], _, [c1, c2, c3, c4, c5, c6, c7, c8, c9, c10], _ =>
    have g0 := hf 0 _ rfl
    have g1 := hf 1 _ rfl
    have g2 := hf 2 _ rfl
    have g3 := hf 3 _ rfl
    have g4 := hf 4 _ rfl
    have g5 := hf 5 _ rfl
    have g6 := hf 6 _ rfl
    have g7 := hf 7 _ rfl
    have g8 := hf 8 _ rfl
    simp [hc2] at g0
    simp [hci] at g1
    simp [hcs] at g2
    simp [hci] at g3
    simp [hci] at g4
    simp [hci] at g5
    simp [hci] at g6
    simp [hci] at g7
    simp [hci] at g8
    obtain ⟨xs0, m0, _, _, hcl0, hxl0, hf0⟩ := DataW.trod_struct Try.underlying23 g0
    match xs0, hxl0 with
    | [u1, u2], _ =>
      have k0 := hf0 0 _ rfl
      have k1 := hf0 1 _ rfl
      simp [hci] at k0
      simp [hci] at k1
      obtain ⟨o, e1, _, w1⟩ := DataW.trod_int Try.underlying3 k0
      obtain ⟨s, e2, _, w2⟩ := DataW.trod_int Try.underlying3 k1
      obtain ⟨l, e3, _, w3⟩ := DataW.trod_int Try.underlying3 g1
      obtain ⟨t, e5, _, w5⟩ := DataW.trod_int Try.underlying3 g3
      obtain ⟨a, e6, _, w6⟩ := DataW.trod_int Try.underlying3 g4
      obtain ⟨f, e7, _, w7⟩ := DataW.trod_int Try.underlying3 g5
      obtain ⟨p, e8, _, w8⟩ := DataW.trod_int Try.underlying3 g6
      obtain ⟨r, e9, _, w9⟩ := DataW.trod_int Try.underlying3 g7
      obtain ⟨k, e10, _, w10⟩ := DataW.trod_int Try.underlying3 g8
      simp only [List.cons.injEq, and_true] at e1
      subst e1
      simp only [List.cons.injEq, and_true] at e2
      subst e2
      simp only [List.cons.injEq, and_true] at e3
      subst e3
      simp only [List.cons.injEq, and_true] at e5
      subst e5
      simp only [List.cons.injEq, and_true] at e6
      subst e6
      simp only [List.cons.injEq, and_true] at e7
      subst e7
      simp only [List.cons.injEq, and_true] at e8
      subst e8
      simp only [List.cons.injEq, and_true] at e9
      subst e9
      simp only [List.cons.injEq, and_true] at e10
      subst e10
      have hw := And.intro w1 (And.intro w2 (And.intro w3 (And.intro w5 (And.intro w6 (And.intro w7 (And.intro w8 (And.intro w9 w10)))))))
      rcases open_ints Try.underlying24 Try.underlying3 (by kernel_rfl) g2 with ⟨hcs, _⟩ | ⟨x, ln, cp, zs, hcs, _, hl, hm, hz, hxx, hcell, hwz⟩
      · simp only [List.cons.injEq, and_true] at hcs
        subst hcs
        exact ⟨o, s, l, none, 0, 0, [], t, a, f, p, r, k, rfl, hw, .inl ⟨rfl, rfl, rfl, rfl⟩⟩
      · simp only [List.cons.injEq, and_true] at hcs
        subst hcs
        exact ⟨o, s, l, some x, ln, cp, zs, t, a, f, p, r, k, rfl, hw, .inr ⟨_, rfl, hl, hm, by simpa using hz, hcell, hwz⟩⟩

theorem i64_of {n : Int} (h : (Lit.int .i64 n).wf = true) : Ev.I64 n := wf_int h

/-- An argument that is an event, opened. -/
theorem open_event {H : Type} {enc : TypeId × Value → H} {W : World} {base : Nat} {v : Value} {d : DataW H} {p : List MemPlace} (hv : Value.okWide Try.prog W .any base 26 v) (h : DataW.Trod enc Try.prog W 0 (fun _ => true) true 26 v d p) :
    ∃ (e : Evt) (dv : Value), v = evV e dv ∧ Ev.Fits e ∧ RdI .i64 0 W.heap.size W dv e.d ∧ e.d.length ≤ 9223372036854775807 := by
  obtain ⟨cs, rfl, _⟩ := okWide_struct Try.underlying26 hv
  obtain ⟨fuel, hf⟩ := h
  obtain ⟨o, s, l, ad, len, cap, zs, t, a, f, p, r, k, e, ⟨w1, w2, w3, w4, w5, w6, w7, w8, w9⟩, h2⟩ := event_cells hf
  have hrd := h2.rd
  have hd : ∀ x ∈ zs.take len, Ev.I64 x := fun x hx => by
    have hx := List.mem_of_mem_take hx
    rcases h2 with ⟨_, _, _, rfl⟩ | ⟨_, _, _, _, _, _, h⟩
    · cases hx
    · exact wf_int (h x hx)
  have hl : (zs.take len).length ≤ 9223372036854775807 := by
    obtain ⟨_, _, _, h1, h3, _⟩ := hrd.open
    omega
  refine ⟨⟨o, s, l, zs.take len, t, a, f, p, r, k⟩, .slice ad len cap, ?_, ⟨i64_of w1, i64_of w2, i64_of w3, hd, i64_of w4, i64_of w5, i64_of w6, i64_of w7, i64_of w8, i64_of w9⟩, hrd, hl⟩
  have e2 : cs.toList = _ := e
  rw [show cs = #[.int .i64 o, .int .i64 s, .int .i64 l, .slice ad len cap, .int .i64 t, .int .i64 a, .int .i64 f, .int .i64 p, .int .i64 r, .int .i64 k] by apply Array.ext'; exact e2]
  rfl

end Go.Proofs.Ytnboeagallkooaa
