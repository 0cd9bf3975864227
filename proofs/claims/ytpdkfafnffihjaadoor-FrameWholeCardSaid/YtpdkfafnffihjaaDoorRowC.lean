/-
  From the reading of an argument to what the walks ask of it: a list of numbers; a number of 32 bits; and from what the row lists of the two tables to what they hold.
-/
import Derived.Test.YtpdkfafnffihjaaDoorRow
import Derived.Test.YtpdkfafnffihjaaDoorMore
import Derived.Test.YtpdkfafnffihjaaDoorTie
import Derived.LaidMore
import Derived.Lib.LaidTab
import Derived.Stop.LaidErr
import Derived.Stop.Joined
import Derived.SevenTiedAt
namespace Go.Proofs.YtpdkfafnffihjaaDoor
open Go.ChangeShapes Go.WideShapes Go.ChangeAt Go.RowKit

theorem wf_u32 {n : Int} (h : (Lit.int .u32 n).wf = true) : ∃ s : Nat, n = s ∧ s < 4294967296 := by
  simp [Lit.wf, IntKind.min, IntKind.max, IntKind.signed, IntKind.bits] at h
  exact ⟨n.toNat, by omega, by omega⟩

theorem IsRow.ints {w : World} {a : Option Addr} {len cap : Nat} {zs : List Int} (h : IsRow .i64 w a len cap zs) : ∀ y ∈ zs.take len, -9223372036854775808 ≤ y ∧ y ≤ 9223372036854775807 := by
  intro y hy
  have hy := List.mem_of_mem_take hy
  rcases h with ⟨_, _, _, rfl⟩ | ⟨x, _, _, _, _, _, h⟩
  · cases hy
  · exact wf_int (h y hy)

/-- An argument that is a slice of numbers, opened. -/
theorem open_numbers {H : Type} {enc : TypeId × Value → H} {W : World} {a : Option Addr} {len cap : Nat} {d : DataW H} {p : List MemPlace} (h : DataW.Trod enc Tryd.prog W 0 (fun _ => true) true 41 (Value.slice a len cap) d p) : ∃ zs, IsRow .i64 W a len cap zs := by
  obtain ⟨fuel, hf⟩ := h
  rcases open_ints Tryd.underlying41 Tryd.underlying3 (by kernel_rfl) hf with ⟨hcs, _⟩ | ⟨x, l, c, zs, hcs, _, hl, hm, hz, _, hcell, hwz⟩
  · simp [Value.cells] at hcs
    obtain ⟨rfl, rfl, rfl⟩ := hcs
    exact ⟨[], .inl ⟨rfl, rfl, rfl, rfl⟩⟩
  · simp [Value.cells] at hcs
    obtain ⟨rfl, rfl, rfl⟩ := hcs
    exact ⟨zs, .inr ⟨_, rfl, hl, hm, by simpa using hz, hcell, hwz⟩⟩

theorem gLower : Tryd.prog.globalNamed "quayside/crc.lower" = some 0 := by kernel_rfl
theorem gUpper : Tryd.prog.globalNamed "quayside/crc.upper" = some 1 := by kernel_rfl
theorem tLower : (Tryd.prog.globals[0]?).map (·.type) = some 56 := by kernel_rfl
theorem tUpper : (Tryd.prog.globals[1]?).map (·.type) = some 56 := by kernel_rfl
theorem c22 : Tryd.prog.cellsOf 47 = 1 := by kernel_rfl
theorem c41 : Tryd.prog.cellsOf 56 = 16 := by kernel_rfl

def lowerI : List Int := Crc.lowerL.map Int.ofNat
def upperI : List Int := Crc.upperL.map Int.ofNat

/-- What the row lists. -/
def laidTabs : List (String × DataW Unit) := [("quayside/crc.lower", Rows.laid_quayside_crc_lower), ("quayside/crc.upper", Rows.laid_quayside_crc_upper)]
theorem laidTabs_eq : laidTabs = [("quayside/crc.lower", Lib.tabData .u32 lowerI), ("quayside/crc.upper", Lib.tabData .u32 upperI)] := rfl

theorem tabs_of_laid {W : World} (h : laidMetH Tryd.prog laidTabs W) : Tabs W := by
  rw [MakeChecks.laidMetH_plain _ _ _ (by kernel_rfl), laidTabs_eq] at h
  have h1 := Lib.tabIs_of_head gLower tLower Tryd.underlying56 Tryd.underlying47 c22 c41 h
  have h2 := Lib.tabIs_of_head gUpper tUpper Tryd.underlying56 Tryd.underlying47 c22 c41 (laidMet.tail h)
  refine ⟨fun i hi => ?_, fun i hi => ?_⟩
  · rw [h1.cell gLower i hi]
    have hi' : i < Crc.lowerL.length := hi
    simp [lowerI, List.getD, hi']
  · rw [h2.cell gUpper i hi]
    have hi' : i < Crc.upperL.length := hi
    simp [upperI, List.getD, hi']

/-- The door's own heap meets the condition. -/
theorem door_met (os : Os) (args : Array Value) : laidMetH Tryd.prog laidTabs ((World.doorLaid Tryd.prog 19 os).forCall (fun _ _ => 0) ⟨#[], args, []⟩).memory :=
  laidMetH_of_parts3 (fuel := 8) (laidMet_of_run' 8 (by kernel_rfl) (by kernel_rfl)) (by kernel_rfl) (by kernel_rfl)

end Go.Proofs.YtpdkfafnffihjaaDoor
