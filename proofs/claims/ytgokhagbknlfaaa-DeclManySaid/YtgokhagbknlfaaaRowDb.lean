/-
  An argument that is declarations, opened (a seat with bytes: over Row).
-/
import Derived.Test.YtgokhagbknlfaaaRow
import Derived.Test.YtgokhagbknlfaaaSc
import Derived.Deep.Slices
import Derived.SizedLaws
namespace Go.Proofs.Ytgokhagbknlfaaa
open Go.ChangeShapes Go.WideShapes Go.ChangeAt Go.RowKit Go.Deep
set_option maxRecDepth 100000

/-- A row of things, each of which is opened. -/
theorem open_rows {α H : Type} [Inhabited α] {E : Rp α} {k : Nat} {enc : TypeId × Value → H} {W : World} {T Te : TypeId} {P : α → Prop} (hT : Try.prog.underlying T = some (.slice Te)) (hk : Try.prog.cellsOf Te = k) (h0 : 0 < k)
    (each : ∀ (n : Nat) (cs : List Value) (x : DataW H × List MemPlace), DataW.trod enc Try.prog W 0 (fun _ => true) true n Te cs = some x → cs.length = k → ∃ a : α, P a ∧ E W (fun _ => True) cs a) {n : Nat} {cs : List Value} {x : DataW H × List MemPlace}
    (h : DataW.trod enc Try.prog W 0 (fun _ => true) true n T cs = some x) : ∃ (ao : Option Addr) (len cap : Nat) (l : List α), cs = [.slice ao len cap] ∧ l.length = len ∧ RdS E k W (fun _ => True) (.slice ao len cap) l ∧ ∀ a ∈ l, P a := by
  rcases open_slice hT h with ⟨rfl, _⟩ | ⟨ad, len, cap, m, n', D, Pl, rfl, _, hl, hm, hmm, _, hcell⟩
  · exact ⟨none, 0, 0, [], rfl, rfl, RdS.nil _ _ _ _, fun a ha => by cases ha⟩
  have hlm : len ≤ m := by rw [hmm]; split <;> omega
  have one : ∀ i, i < len → ∃ q : α, P q ∧ ∃ xs : List Value, xs.length = k ∧ (∀ j u, xs[j]? = some u → W.cell? ((ad.add (i * k)).add j) = some u) ∧ E W (fun _ => True) xs q := by
    intro i hi
    obtain ⟨cs', c0, c1⟩ := hcell i (by omega)
    rw [hk] at c0
    obtain ⟨_, hlen, hcc⟩ := World.cells?_some c0
    obtain ⟨q, hp, he⟩ := each _ _ _ c1 hlen
    refine ⟨q, hp, cs', hlen, fun j u hu => ?_, he⟩
    have hj := (List.getElem?_eq_some_iff.1 hu).1
    rw [hcc j (by omega), hu]
  obtain ⟨q, hq⟩ := choose_lt one
  refine ⟨some ad, len, cap, (List.range len).map q, rfl, by simp, ⟨some ad, cap, by simp, by simpa using hl, hm, (fun h => by cases h), fun h1 => ?_⟩, fun a ha => ?_⟩
  · have h1 : 0 < len := by simpa using h1
    obtain ⟨b, off, spot⟩ := ad
    obtain ⟨_, xs0, hl0, hc0, _⟩ := hq 0 h1
    have hsp : spot = none := by
      cases spot with
      | none => rfl
      | some s =>
        have hx : ∃ u, xs0[0]? = some u := ⟨_, List.getElem?_eq_getElem (by omega)⟩
        obtain ⟨u, hu⟩ := hx
        have hc := hc0 0 u hu
        simp only [Nat.zero_mul, Addr.add, if_pos, World.cell?] at hc
        split at hc
        · simp at hc
        · cases hc
    subst hsp
    refine ⟨b, off, rfl, trivial, fun i y hi => ?_⟩
    have hil : i < len := by
      have := (List.getElem?_eq_some_iff.1 hi).1
      simpa using this
    have hy : y = q i := by
      simp [hil] at hi
      exact hi.symm
    subst hy
    obtain ⟨_, xs, hlx, hcx, hex⟩ := hq i hil
    refine ⟨xs, hlx, fun j u hu => ?_, hex⟩
    have hc := hcx j u hu
    rw [Addr.add_lit, Addr.add_lit] at hc
    exact hc
  · obtain ⟨i, hi, rfl⟩ := List.mem_map.1 ha
    exact (hq i (List.mem_range.1 hi)).1

instance : Inhabited Mv := ⟨Sc.zm⟩
instance : Inhabited Fl := ⟨Sc.z⟩
instance : Inhabited Pj := ⟨Sc.zp⟩

theorem mv_each {H : Type} {enc : TypeId × Value → H} {W : World} (n : Nat) (cs : List Value) (x : DataW H × List MemPlace)
    (h : DataW.trod enc Try.prog W 0 (fun _ => true) true n 73 cs = some x) (_ : cs.length = 4) : ∃ a : Mv, Sc.FitsM a ∧ mvE W (fun _ => True) cs a := by
  obtain ⟨xs, m, _, _, hcl, hxl, hf⟩ := DataW.trod_struct Try.underlying73 h
  have hc4 : Try.prog.cellsOf 73 = 4 := by kernel_rfl
  have hci : Try.prog.cellsOf 3 = 1 := by kernel_rfl
  rw [hc4] at hcl
  match xs, hxl, cs, hcl with
  | [y1, y2, y3, y4], _, [c1, c2, c3, c4], _ =>
    have g0 := hf 0 _ rfl
    have g1 := hf 1 _ rfl
    have g2 := hf 2 _ rfl
    have g3 := hf 3 _ rfl
    simp [hci] at g0
    simp [hci] at g1
    simp [hci] at g2
    simp [hci] at g3
    obtain ⟨a, e1, _, w1⟩ := DataW.trod_int Try.underlying3 g0
    obtain ⟨b, e2, _, w2⟩ := DataW.trod_int Try.underlying3 g1
    obtain ⟨c, e3, _, w3⟩ := DataW.trod_int Try.underlying3 g2
    obtain ⟨d, e4, _, w4⟩ := DataW.trod_int Try.underlying3 g3
    cases e1
    cases e2
    cases e3
    cases e4
    exact ⟨⟨a, b, c, d⟩, ⟨wf_int w1, wf_int w2, wf_int w3, wf_int w4⟩, rfl⟩

theorem pj_each {H : Type} {enc : TypeId × Value → H} {W : World} (n : Nat) (cs : List Value) (x : DataW H × List MemPlace)
    (h : DataW.trod enc Try.prog W 0 (fun _ => true) true n 51 cs = some x) (_ : cs.length = 5) : ∃ a : Pj, Sc.FitsP a ∧ pjE W (fun _ => True) cs a := by
  obtain ⟨xs, m, _, _, hcl, hxl, hf⟩ := DataW.trod_struct Try.underlying51 h
  have hc5 : Try.prog.cellsOf 51 = 5 := by kernel_rfl
  have hci : Try.prog.cellsOf 3 = 1 := by kernel_rfl
  rw [hc5] at hcl
  match xs, hxl, cs, hcl with
  | [y1, y2, y3, y4, y5], _, [c1, c2, c3, c4, c5], _ =>
    have g0 := hf 0 _ rfl
    have g1 := hf 1 _ rfl
    have g2 := hf 2 _ rfl
    have g3 := hf 3 _ rfl
    have g4 := hf 4 _ rfl
    simp [hci] at g0
    simp [hci] at g1
    simp [hci] at g2
    simp [hci] at g3
    simp [hci] at g4
    obtain ⟨a, e1, _, w1⟩ := DataW.trod_int Try.underlying3 g0
    obtain ⟨b, e2, _, w2⟩ := DataW.trod_int Try.underlying3 g1
    obtain ⟨c, e3, _, w3⟩ := DataW.trod_int Try.underlying3 g2
    obtain ⟨d, e4, _, w4⟩ := DataW.trod_int Try.underlying3 g3
    obtain ⟨e, e5, _, w5⟩ := DataW.trod_int Try.underlying3 g4
    cases e1
    cases e2
    cases e3
    cases e4
    cases e5
    exact ⟨⟨a, b, c, d, e⟩, ⟨wf_int w1, wf_int w2, wf_int w3, wf_int w4, wf_int w5⟩, rfl⟩

theorem fl_each {H : Type} {enc : TypeId × Value → H} {W : World} (n : Nat) (cs : List Value) (x : DataW H × List MemPlace)
    (h : DataW.trod enc Try.prog W 0 (fun _ => true) true n 45 cs = some x) (_ : cs.length = 4) : ∃ a : Fl, Sc.FitsF a ∧ flE W (fun _ => True) cs a := by
  obtain ⟨xs, m, _, _, hcl, hxl, hf⟩ := DataW.trod_struct Try.underlying45 h
  have hc4 : Try.prog.cellsOf 45 = 4 := by kernel_rfl
  have hci : Try.prog.cellsOf 3 = 1 := by kernel_rfl
  have hcb : Try.prog.cellsOf 4 = 1 := by kernel_rfl
  have hcs : Try.prog.cellsOf 43 = 1 := by kernel_rfl
  rw [hc4] at hcl
  match xs, hxl, cs, hcl with
  | [y1, y2, y3, y4], _, [c1, c2, c3, c4], _ =>
    have g0 := hf 0 _ rfl
    have g1 := hf 1 _ rfl
    have g2 := hf 2 _ rfl
    have g3 := hf 3 _ rfl
    simp [hci] at g0
    simp [hci] at g1
    simp [hcb] at g2
    simp [hcs] at g3
    obtain ⟨a, e1, _, w1⟩ := DataW.trod_int Try.underlying3 g0
    obtain ⟨b, e2, _, w2⟩ := DataW.trod_int Try.underlying3 g1
    obtain ⟨c, e3, _⟩ := DataW.trod_bool Try.underlying4 g2
    obtain ⟨ao, len, cap, l, e4, _, hr, hp⟩ := open_rows (E := mvE) (P := Sc.FitsM) Try.underlying43 (by kernel_rfl) (by decide) mv_each g3
    cases e1
    cases e2
    cases e3
    cases e4
    exact ⟨⟨a, b, c, l⟩, ⟨wf_int w1, wf_int w2, hp⟩, _, rfl, hr⟩

theorem ty_each {H : Type} {enc : TypeId × Value → H} {W : World} (n : Nat) (cs : List Value) (x : DataW H × List MemPlace)
    (h : DataW.trod enc Try.prog W 0 (fun _ => true) true n 42 cs = some x) (_ : cs.length = 1) : ∃ a : List Fl, (∀ f ∈ a, Sc.FitsF f) ∧ tyE W (fun _ => True) cs a := by
  obtain ⟨xs, m, _, _, hcl, hxl, hf⟩ := DataW.trod_struct Try.underlying42 h
  have hc1 : Try.prog.cellsOf 42 = 1 := by kernel_rfl
  have hcs : Try.prog.cellsOf 40 = 1 := by kernel_rfl
  rw [hc1] at hcl
  match xs, hxl, cs, hcl with
  | [y1], _, [c1], _ =>
    have g0 := hf 0 _ rfl
    simp [hcs] at g0
    obtain ⟨ao, len, cap, l, e4, _, hr, hp⟩ := open_rows (E := flE) (P := Sc.FitsF) Try.underlying40 (by kernel_rfl) (by decide) fl_each g0
    cases e4
    exact ⟨l, hp, _, rfl, hr⟩

/-- An argument that is declarations, opened (a seat with bytes: over Row). -/
theorem open_decl {H : Type} {enc : TypeId × Value → H} {W : World} {base : Nat} {v : Value} {d : DataW H} {p : List MemPlace} (hv : Value.okWide Try.prog W .any base 25 v) (h : DataW.Trod enc Try.prog W 0 (fun _ => true) true 25 v d p) :
    ∃ (e : Dc) (tv pv : Value), v = .agg #[tv, pv] ∧ Sc.Fits e ∧ RdD W (fun _ => True) tv pv e := by
  obtain ⟨cs, rfl, _⟩ := okWide_struct Try.underlying25 hv
  obtain ⟨fuel, hf0⟩ := h
  have hf1 : DataW.trod enc Try.prog W 0 (fun _ => true) true fuel 25 cs.toList = some (d, p) := hf0
  obtain ⟨xs, m, _, _, hcl, hxl, hf⟩ := DataW.trod_struct Try.underlying25 hf1
  have hc2 : Try.prog.cellsOf 25 = 2 := by kernel_rfl
  have hcs : Try.prog.cellsOf 22 = 1 := by kernel_rfl
  have hcp : Try.prog.cellsOf 23 = 1 := by kernel_rfl
  rw [hc2] at hcl
  obtain ⟨l⟩ := cs
  simp only at hcl hf
  match xs, hxl, l, hcl with
  | [y1, y2], _, [c1, c2], _ =>
    have g0 := hf 0 _ rfl
    have g1 := hf 1 _ rfl
    simp [hcs] at g0
    simp [hcp] at g1
    obtain ⟨ao, len, cap, l1, e1, _, hr1, hp1⟩ := open_rows (E := tyE) (P := fun a => ∀ f ∈ a, Sc.FitsF f) Try.underlying22 (by kernel_rfl) (by decide) ty_each g0
    obtain ⟨ao2, len2, cap2, l2, e2, _, hr2, hp2⟩ := open_rows (E := pjE) (P := Sc.FitsP) Try.underlying23 (by kernel_rfl) (by decide) pj_each g1
    cases e1
    cases e2
    exact ⟨⟨l1, l2⟩, _, _, rfl, ⟨hp1, hp2⟩, ⟨hr1, hr2⟩⟩

end Go.Proofs.Ytgokhagbknlfaaa
