/-
  The contract of package quaysidekit's Row: some bytes.
-/
import Derived.Test.YtjbhbleooebdoaaDoorKit
namespace Go.Proofs.YtjbhbleooebdoaaDoor
open Go.RowKit

def rowB (i : Int) : Int := IntKind.u8.wrap (3 + 5 * i)

def rowL (k : Nat) : List Int := (List.range k).map fun (i : Nat) => rowB (i : Int)

theorem rowL_len (k : Nat) : (rowL k).length = k := by simp [rowL]
theorem rowL_snoc (k : Nat) : rowL (k + 1) = rowL k ++ [rowB (k : Int)] := by simp [rowL, List.range_succ]

theorem rowB_byte (i : Int) : 0 ≤ rowB i ∧ rowB i < 256 := by
  unfold rowB
  rw [IntKind.wrap_u8']
  omega

theorem rowL_byte (k : Nat) : ∀ y ∈ rowL k, 0 ≤ y ∧ y < 256 := by
  intro y hy
  obtain ⟨i, _, rfl⟩ := List.mem_map.1 hy
  exact rowB_byte _

set_option maxHeartbeats 800000 in
theorem row_any (n : Nat) (w : World) (hn : n ≤ 1000000) :
    Calls Tryd.prog 19 #[.int .i64 (n : Int)] w fun e w' => ∃ v', e = .returned v' ∧ OwnI .u8 5 w.heap.size w'.heap.size w' v' (rowL n) ∧ Kp 0 0 w w' := by
  obtain ⟨i0, hi, hz0, hz1, hz2⟩ := info_parts info_u8
  go_enter Tryd.func19, Tryd.ntmps19
  go_wp2_with fail
  go_loopw [3, 4] (fun v' i wr => ∃ k : Nat, k ≤ n ∧ i = .int .i64 k ∧ wr.ownsRow w.heap.size 5 1 v' k ((rowL k).map (.int .u8)) ∧ Kp 0 0 w wr) (fun _ i _ => n - (intOf i).toNat)
  case atStart => exact ⟨0, Nat.zero_le _, rfl, World.ownsRow_nil _ _ _ _, Kp.refl _ _ _⟩
  case round =>
    obtain ⟨k, hk, rfl, hown, hkp⟩ := hrel
    by_cases hlt : k < n
    · have HS := Lib.hid (rowL_snoc k)
      have hrb : (3 + 5 * (k : Int)) % 256 = rowB (k : Int) := by
        unfold rowB
        rw [IntKind.wrap_u8']
      generalize rowB (k : Int) = m at HS hrb
      have hsz := hkp.size
      go_wp2_with (at_builtin; refine wpList_append_own _ rfl _ _ 23 rfl w.heap.size 5 i0 (.int .u8 0) 1 1 Tryd.underlying23 hi hz0 hz1 hz2 rfl (by decide) _ _ _ rfl (hown.alloc _) ⟨wr.heap.size, 0, none⟩ 1 1 [.int .u8 m] rfl rfl (cell_one _ _ _) (by simp [Value.oneCell']) ?c3 ?c4 ?c5 ?_)
      case c3 => unfold maxLen; omega
      case c4 => omega
      case c5 => simp; omega
      intro v' w2 hown' hg _
      have HK : Hid (Kp 0 0 w w2) := (hkp.alloc _).grown hg fun q hq => .inl ((hown.lt q hq).1)
      have HO := Lib.hid hown'
      clear hown' hg hown hkp
      go_wp2_with fail
      go_roundw
      case rel =>
        refine ⟨k + 1, by omega, by go_num, ?_, HK.out⟩
        have ho := HO.out
        rw [HS.out, List.map_append]
        simpa using ho
      case measure => simp [intOf]; omega
    · obtain rfl : k = n := by omega
      go_wp2_with fail
      go_ret
      exact ⟨_, rfl, OwnI.of_rowN hown (by rw [rowL_len]), hkp⟩

end Go.Proofs.YtjbhbleooebdoaaDoor
