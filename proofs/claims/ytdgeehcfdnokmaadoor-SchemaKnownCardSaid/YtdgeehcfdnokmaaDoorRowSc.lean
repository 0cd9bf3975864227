/-
  From what the row lists of the four arrays to what they hold.
-/
import Derived.Test.YtdgeehcfdnokmaaDoorRowD
import Derived.Test.YtdgeehcfdnokmaaDoorScTab
import Derived.Test.YtdgeehcfdnokmaaDoorTie
import Derived.LaidMore
import Derived.Lib.LaidTab
import Derived.Stop.LaidErr
import Derived.Stop.Joined
import Derived.SevenTiedAt
namespace Go.Proofs.YtdgeehcfdnokmaaDoor
open Go.ChangeShapes Go.WideShapes Go.ChangeAt Go.RowKit

theorem gMoves : Tryd.prog.globalNamed "quayside/schema.moves" = some 3 := by kernel_rfl
theorem gPolicies : Tryd.prog.globalNamed "quayside/schema.policies" = some 1 := by kernel_rfl
theorem gFloors : Tryd.prog.globalNamed "quayside/schema.floors" = some 2 := by kernel_rfl
theorem gOperations : Tryd.prog.globalNamed "quayside/schema.operations" = some 0 := by kernel_rfl
theorem tMoves : (Tryd.prog.globals[3]?).map (·.type) = some 59 := by kernel_rfl
theorem tPolicies : (Tryd.prog.globals[1]?).map (·.type) = some 59 := by kernel_rfl
theorem tFloors : (Tryd.prog.globals[2]?).map (·.type) = some 65 := by kernel_rfl
theorem tOperations : (Tryd.prog.globals[0]?).map (·.type) = some 59 := by kernel_rfl
theorem cSpan : Tryd.prog.cellsOf 58 = 2 := by kernel_rfl
theorem cSpans : Tryd.prog.cellsOf 59 = 10 := by kernel_rfl
theorem cBool : Tryd.prog.cellsOf 4 = 1 := by kernel_rfl
theorem cBools : Tryd.prog.cellsOf 65 = 5 := by kernel_rfl
theorem cInt : Tryd.prog.cellsOf 3 = 1 := by kernel_rfl

/-- An array of spans as a row lists it. -/
def spanData {H : Type} (l : List (Int × Int)) : DataW H := .agg (l.map fun s => .agg [.lit (.int .i64 s.1), .lit (.int .i64 s.2)])
def boolData {H : Type} (l : List Bool) : DataW H := .agg (l.map fun b => .lit (.bool b))

/-- A span that reads as one holds its two numbers. -/
theorem cells_of_span {H : Type} {enc : TypeId × Value → H} {w : World} {base : Nat} {sp : Nat → Bool} {held : Bool} {fuel : Nat} {cs : List Value} {s : Int × Int} {p : List MemPlace}
    (h : DataW.trod enc Tryd.prog w base sp held fuel 58 cs = some (.agg [.lit (.int .i64 s.1), .lit (.int .i64 s.2)], p)) : cs = [.int .i64 s.1, .int .i64 s.2] := by
  obtain ⟨xs, m, _, hx, hcl, hxl, hf⟩ := DataW.trod_struct Tryd.underlying58 h
  rw [cSpan] at hcl
  match xs, hxl, cs, hcl with
  | [y1, y2], _, [c1, c2], _ =>
    have g0 := hf 0 _ rfl
    have g1 := hf 1 _ rfl
    simp [cInt] at g0
    simp [cInt] at g1
    obtain ⟨a, e1, f1, _⟩ := DataW.trod_int Tryd.underlying3 g0
    obtain ⟨b, e2, f2, _⟩ := DataW.trod_int Tryd.underlying3 g1
    cases e1
    cases e2
    subst f1
    subst f2
    simp at hx
    obtain ⟨⟨h1, h2⟩, _⟩ := hx
    rw [h1, h2]

/-- An array of spans that reads as it is listed. -/
theorem cells_of_spans {H : Type} {enc : TypeId × Value → H} {w : World} {base : Nat} {sp : Nat → Bool} {held : Bool} {fuel : Nat} {cs : List Value} {l : List (Int × Int)} {p : List MemPlace} (hl : l.length = 5)
    (h : DataW.trod enc Tryd.prog w base sp held fuel 59 cs = some (spanData l, p)) : ∀ i, i < 5 → cs[i * 2]? = some (.int .i64 (l.getD i (0, 0)).1) ∧ cs[i * 2 + 1]? = some (.int .i64 (l.getD i (0, 0)).2) := by
  cases fuel with
  | zero => simp [DataW.trod] at h
  | succ fuel =>
    simp only [DataW.trod, Tryd.underlying59, cSpan, cSpans] at h
    split at h
    · obtain ⟨xs, hm, hx⟩ := Option.map_eq_some_iff.1 h
      have hxs : xs.map (·.1) = l.map fun s => (DataW.agg [.lit (.int .i64 s.1), .lit (.int .i64 s.2)] : DataW H) := by
        have := congrArg Prod.fst hx
        simpa [spanData] using this
      intro i hi
      obtain ⟨b, hb, hf⟩ := Lib.mapM_at hm i i (by simp [hi])
      obtain ⟨s, hs⟩ : ∃ s, l[i]? = some s := ⟨_, List.getElem?_eq_getElem (by omega)⟩
      have h2 : (xs.map (·.1))[i]? = some b.1 := by simp [hb]
      rw [hxs, List.getElem?_map, hs] at h2
      simp only [Option.map_some, Option.some.injEq] at h2
      obtain ⟨b1, b2⟩ := b
      dsimp only at h2
      subst h2
      have h3 := cells_of_span hf
      have e0 := congrArg (·[0]?) h3
      have e1 := congrArg (·[1]?) h3
      simp [List.getElem?_take, List.getElem?_drop] at e0 e1
      simp [List.getD, hs]
      exact ⟨e0, e1⟩
    · cases h

/-- An array of bools that reads as it is listed. -/
theorem cells_of_bools {H : Type} {enc : TypeId × Value → H} {w : World} {base : Nat} {sp : Nat → Bool} {held : Bool} {fuel : Nat} {cs : List Value} {l : List Bool} {p : List MemPlace} (hl : l.length = 5)
    (h : DataW.trod enc Tryd.prog w base sp held fuel 65 cs = some (boolData l, p)) : ∀ i, i < 5 → cs[i]? = some (.bool (l.getD i false)) := by
  cases fuel with
  | zero => simp [DataW.trod] at h
  | succ fuel =>
    simp only [DataW.trod, Tryd.underlying65, cBool, cBools] at h
    split at h
    · obtain ⟨xs, hm, hx⟩ := Option.map_eq_some_iff.1 h
      have hxs : xs.map (·.1) = l.map fun b => (DataW.lit (.bool b) : DataW H) := by
        have := congrArg Prod.fst hx
        simpa [boolData] using this
      intro i hi
      obtain ⟨b, hb, hf⟩ := Lib.mapM_at hm i i (by simp [hi])
      obtain ⟨s, hs⟩ : ∃ s, l[i]? = some s := ⟨_, List.getElem?_eq_getElem (by omega)⟩
      have h2 : (xs.map (·.1))[i]? = some b.1 := by simp [hb]
      rw [hxs, List.getElem?_map, hs] at h2
      simp only [Option.map_some, Option.some.injEq] at h2
      obtain ⟨b1, b2⟩ := b
      dsimp only at h2
      subst h2
      obtain ⟨c, h3, h4⟩ := DataW.trod_bool Tryd.underlying4 hf
      cases h4
      have e0 := congrArg (·[0]?) h3
      simp [List.getElem?_take, List.getElem?_drop] at e0
      simp [List.getD, hs]
      exact e0
    · cases h

theorem spans_of_head {W : World} {name : String} {l : List (Int × Int)} {rest : List (String × DataW Unit)} {g : Nat} (hl : l.length = 5)
    (hg : Tryd.prog.globalNamed name = some g) (hty : (Tryd.prog.globals[g]?).map (·.type) = some 59)
    (h : laidMet Tryd.prog ((name, spanData l) :: rest) W) : ∀ i, i < 5 → W.cell? ⟨g, i * 2, none⟩ = some (.int .i64 (l.getD i (0, 0)).1) ∧ W.cell? ⟨g, i * 2 + 1, none⟩ = some (.int .i64 (l.getD i (0, 0)).2) := by
  obtain ⟨ps, ⟨g', t', cs, fuel, p, q, hg', ht', hvar, hd, _, _⟩, _⟩ := h
  obtain rfl := Option.some.inj (hg.symm.trans hg')
  obtain rfl := Option.some.inj (hty.symm.trans ht')
  intro i hi
  have := cells_of_spans hl hd i hi
  rw [World.var?_cell hg hvar, World.var?_cell hg hvar]
  simpa using this

theorem bools_of_head {W : World} {name : String} {l : List Bool} {rest : List (String × DataW Unit)} {g : Nat} (hl : l.length = 5)
    (hg : Tryd.prog.globalNamed name = some g) (hty : (Tryd.prog.globals[g]?).map (·.type) = some 65)
    (h : laidMet Tryd.prog ((name, boolData l) :: rest) W) : ∀ i, i < 5 → W.cell? ⟨g, i, none⟩ = some (.bool (l.getD i false)) := by
  obtain ⟨ps, ⟨g', t', cs, fuel, p, q, hg', ht', hvar, hd, _, _⟩, _⟩ := h
  obtain rfl := Option.some.inj (hg.symm.trans hg')
  obtain rfl := Option.some.inj (hty.symm.trans ht')
  intro i hi
  have := cells_of_bools hl hd i hi
  rw [World.var?_cell hg hvar]
  simpa using this

/-- What the row lists. -/
def laidTabs : List (String × DataW Unit) := [("quayside/schema.moves", Rows.laid_quayside_schema_moves), ("quayside/schema.policies", Rows.laid_quayside_schema_policies), ("quayside/schema.floors", Rows.laid_quayside_schema_floors), ("quayside/schema.operations", Rows.laid_quayside_schema_operations)]
theorem laidTabs_eq : laidTabs = [("quayside/schema.moves", spanData Sc.mvL), ("quayside/schema.policies", spanData Sc.poL), ("quayside/schema.floors", boolData Sc.flL), ("quayside/schema.operations", spanData Sc.opL)] := rfl

theorem tabs_of_laid {W : World} (h : laidMetH Tryd.prog laidTabs W) : STabs W := by
  rw [MakeChecks.laidMetH_plain _ _ _ (by kernel_rfl), laidTabs_eq] at h
  exact ⟨spans_of_head rfl gMoves tMoves h, spans_of_head rfl gPolicies tPolicies (laidMet.tail h), bools_of_head rfl gFloors tFloors (laidMet.tail (laidMet.tail h)), spans_of_head rfl gOperations tOperations (laidMet.tail (laidMet.tail (laidMet.tail h)))⟩

/-- The door's own heap meets the condition. -/
theorem door_met (os : Os) (args : Array Value) : laidMetH Tryd.prog laidTabs ((World.doorLaid Tryd.prog 44 os).forCall (fun _ _ => 0) ⟨#[], args, []⟩).memory :=
  laidMetH_of_parts3 (fuel := 8) (laidMet_of_run' 8 (by kernel_rfl) (by kernel_rfl)) (by kernel_rfl) (by kernel_rfl)

end Go.Proofs.YtdgeehcfdnokmaaDoor
