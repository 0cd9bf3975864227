/-
  The contract of package quaysidekit's CopyInts.
-/
import Derived.Test.YtnboeagallkooaaKISame
namespace Go.Proofs.Ytnboeagallkooaa
open Go.RowKit

theorem take_snoc_getDI {l : List Int} {k : Nat} (h : k < l.length) : l.take (k + 1) = l.take k ++ [l.getD k 0] := by
  rw [List.take_succ_eq_append_getElem h]
  simp [List.getD, h]

set_option maxHeartbeats 400000 in
/-- CopyInts: the same list, in memory of the call's own. -/
theorem copyI_any {l1 h1 : Nat} (w : World) (v : Value) (l : List Int) (h : RdI .i64 l1 h1 w v l) (hl : l.length ≤ 1000000) :
    Calls Try.prog 20 #[v] w fun e w' => ∃ v', e = .returned v' ∧ OwnI .i64 3 w.heap.size w'.heap.size w' v' l ∧ Kp 0 0 w w' := by
  obtain ⟨ao, c, rfl, h2, h3, h4⟩ := h.open
  obtain ⟨i0, hi, hz0, hz1, hz2⟩ := info_parts info_int
  clear h2 h3
  have HF : Hid (∀ (v' : Value) (w' : World), (l.take l.length).length = l.length ∧ OwnI .i64 3 w.heap.size w'.heap.size w' v' (l.take l.length) → OwnI .i64 3 w.heap.size w'.heap.size w' v' l) := fun v' w' h => by simpa using h.2
  go_enter Try.func20, Try.ntmps20
  go_wp2
  go_loopw [3, 4] (fun v' i wr => ∃ k : Nat, k ≤ l.length ∧ i = .int .i64 k ∧ wr.ownsRow w.heap.size 3 1 v' k ((l.take k).map (.int .i64)) ∧ Kp 0 0 w wr) (fun _ i _ => l.length - (intOf i).toNat)
  case atStart => exact ⟨0, Nat.zero_le _, rfl, World.ownsRow_nil _ _ _ _, Kp.refl _ _ _⟩
  case round =>
    obtain ⟨k, hk, rfl, hown, hkp⟩ := hrel
    by_cases hlt : k < l.length
    · obtain ⟨b1, o1, rfl, _, _, hc1⟩ := h4 (by omega)
      have c1 := hkp.cell (hc1 k hlt) (.inr (Nat.zero_le _))
      clear hc1
      have HS := Lib.hid (take_snoc_getDI hlt)
      generalize l.getD k 0 = x at c1 HS
      have hsz := hkp.size
      go_wp2_with (at_builtin; refine wpList_append_own _ rfl _ _ 24 rfl w.heap.size 3 i0 (.int .i64 0) 1 8 Try.underlying24 hi hz0 hz1 hz2 rfl (by decide) _ _ _ rfl (hown.alloc _) ⟨wr.heap.size, 0, none⟩ 1 1 [.int .i64 x] rfl rfl (cell_one _ _ _) (by simp [Value.oneCell']) ?c3 ?c4 ?c5 ?_)
      case c3 => unfold maxLen; omega
      case c4 => omega
      case c5 => simp; omega
      intro v' w1 hown' hg _
      have hkp' : Kp 0 0 w w1 := (hkp.alloc _).grown hg fun j hj => .inl ((hown.lt j hj).1)
      have HK := Lib.hid hkp'
      have HO := Lib.hid hown'
      clear hown' hg hown hkp hkp'
      go_wp2
      go_roundw
      case rel =>
        refine ⟨k + 1, by omega, by go_num, ?_, HK.out⟩
        have ho := HO.out
        rw [HS.out, List.map_append]
        simpa using ho
      case measure => simp [intOf]; omega
    · obtain rfl : k = l.length := by omega
      go_wp2
      go_ret
      have hlen : (l.take l.length).length = l.length := by simp
      refine ⟨_, rfl, HF.out _ _ ⟨hlen, OwnI.of_row ?_⟩, hkp⟩
      rw [hlen]
      exact hown

end Go.Proofs.Ytnboeagallkooaa
