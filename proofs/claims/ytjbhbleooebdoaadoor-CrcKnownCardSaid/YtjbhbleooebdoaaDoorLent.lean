/-
  The contracts of package quaysidekit's LentBytes and KeptBytes: a list with five marks behind it; is it as it was lent?
-/
import Derived.Test.YtjbhbleooebdoaaDoorKit
namespace Go.Proofs.YtjbhbleooebdoaaDoor
open Go.RowKit

/-- The first k marks. -/
def marksB (k : Nat) : List Int := (List.range k).map fun (i : Nat) => markB (i : Int)

theorem marksB_len (k : Nat) : (marksB k).length = k := by simp [marksB]
theorem marksB_snoc (k : Nat) : marksB (k + 1) = marksB k ++ [markB (k : Int)] := by simp [marksB, List.range_succ]
theorem marksB_getD {k j : Nat} (h : j < k) : (marksB k).getD j 0 = markB (j : Int) := by simp [marksB, List.getD, h]

set_option maxHeartbeats 800000 in
/-- LentBytes: the list, and five marks behind it, in memory of the call's own. -/
theorem lent_any {l1 h1 : Nat} (w : World) (v : Value) (l : List Int) (h : RdI .u8 l1 h1 w v l) (hl : l.length ≤ 140737488350000) :
    Calls Tryd.prog 10 #[v] w fun e w' => ∃ v', e = .returned v' ∧ OwnI .u8 5 w.heap.size w'.heap.size w' v' (l ++ marksB 5) ∧ Kp 0 0 w w' := by
  obtain ⟨i0, hi, hz0, hz1, hz2⟩ := info_parts info_u8
  have HC := Lib.hid (copy_any w v l h (by omega))
  obtain ⟨ao, c, rfl, _, _, _⟩ := h.open
  clear h
  go_enter Tryd.func10, Tryd.ntmps10
  go_wp2_with fail
  refine HC.out.mono ?_
  rintro e w1 ⟨v1, rfl, hown, hk⟩
  have HO1 := Lib.hid hown.1
  have HK1 := Lib.hid hk
  clear hown hk
  go_wp2_with fail
  go_loopw [3, 4] (fun v' i wr => ∃ k : Nat, k ≤ 5 ∧ i = .int .i64 k ∧ wr.ownsRow w.heap.size 5 1 v' (l.length + k) ((l ++ marksB k).map (.int .u8)) ∧ Kp 0 0 w wr) (fun _ i _ => 5 - (intOf i).toNat)
  case atStart => exact ⟨0, Nat.zero_le _, rfl, by simpa [marksB] using HO1.out, HK1.out⟩
  case round =>
    obtain ⟨k, hk, rfl, hown, hkp⟩ := hrel
    by_cases hlt : k < 5
    · have HOW := Lib.hid hown
      have HKP := Lib.hid hkp
      clear hown hkp
      have hsz := HKP.out.size
      go_wp2_with fail
      refine (mark_any _ _ (by omega) (by omega)).mono ?_
      rintro e w2 ⟨rfl, rfl⟩
      have HS := Lib.hid (marksB_snoc k)
      generalize markB (k : Int) = m at HS ⊢
      have hown := HOW.out
      go_wp2_with (at_builtin; refine wpList_append_own _ rfl _ _ 23 rfl w.heap.size 5 i0 (.int .u8 0) 1 1 Tryd.underlying23 hi hz0 hz1 hz2 rfl (by decide) _ _ _ rfl (hown.alloc _) ⟨wr.heap.size, 0, none⟩ 1 1 [.int .u8 m] rfl rfl (cell_one _ _ _) (by simp [Value.oneCell']) ?c3 ?c4 ?c5 ?_)
      case c3 => unfold maxLen; omega
      case c4 => omega
      case c5 => simp; omega
      intro v' w2 hown' hg _
      have HK : Hid (Kp 0 0 w w2) := (HKP.out.alloc _).grown hg fun q hq => .inl ((hown.lt q hq).1)
      have HO := Lib.hid hown'
      clear hown' hg hown
      go_wp2_with fail
      go_roundw
      case rel =>
        refine ⟨k + 1, by omega, by go_num, ?_, HK.out⟩
        have ho := HO.out
        rw [HS.out, ← List.append_assoc, List.map_append]
        simpa [Nat.add_assoc] using ho
      case measure => simp [intOf]; omega
    · obtain rfl : k = 5 := by omega
      go_wp2_with fail
      go_ret
      exact ⟨_, rfl, OwnI.of_rowN hown (by rw [List.length_append, marksB_len]), hkp⟩

set_option maxHeartbeats 800000 in
/-- KeptBytes, of what was lent and is as it was: true. -/
theorem kept_any {l1 h1 l2 h2 : Nat} (w : World) (va vb : Value) (l : List Int) (ha : RdI .u8 l1 h1 w va (l ++ marksB 5)) (hb : RdI .u8 l2 h2 w vb l) (hl : l.length ≤ 140737488350000) :
    Calls Tryd.prog 15 #[va, vb] w fun e w' => e = .returned (.bool true) ∧ Kp 0 0 w w' := by
  obtain ⟨ao, ca, rfl, ha1, ha2, hca⟩ := ha.open
  obtain ⟨bo, cb, rfl, _, _, _⟩ := hb.open
  have hlen : (l ++ marksB 5).length = l.length + 5 := by rw [List.length_append, marksB_len]
  have hpre := ha.pre (n := l.length) (by rw [hlen]; omega)
  rw [List.take_left] at hpre
  have HS := Lib.hid (same_yes w _ _ l hpre hb)
  have HCA : Hid (∃ g o, ao = some ⟨g, o, none⟩ ∧ ∀ j, j < 5 → w.cell? ⟨g, o + (l.length + j), none⟩ = some (.int .u8 (markB (j : Int)))) := by
    obtain ⟨g, o, rfl, _, _, hh⟩ := hca (by rw [hlen]; omega)
    refine ⟨g, o, rfl, fun j hj => ?_⟩
    rw [hh (l.length + j) (by rw [hlen]; omega)]
    have e : (l ++ marksB 5).getD (l.length + j) 0 = markB (j : Int) := by
      rw [← marksB_getD hj]
      simp [List.getD, List.getElem?_append_right]
    rw [e]
  rw [hlen] at ha1
  rw [hlen]
  have i1 : (l.length : Int) ≤ (ca : Int) := by omega
  clear ha hb hca hpre
  obtain ⟨g, o, rfl, hcell⟩ := HCA.out
  have HCC := Lib.hid hcell
  clear hcell HCA
  have hne : ((l.length : Int) + 5 != (l.length : Int) + 5) = false := by simp
  go_enter Tryd.func15, Tryd.ntmps15
  go_wp2_with fail
  refine HS.out.mono ?_
  rintro e w1 ⟨rfl, hk⟩
  have HK1 := Lib.hid hk
  clear hk
  go_wp2_with fail
  go_loopw [5] (fun i wr => ∃ k : Nat, k ≤ 5 ∧ i = .int .i64 k ∧ Kp 0 0 w wr) (fun i _ => 5 - (intOf i).toNat)
  case atStart => exact ⟨0, Nat.zero_le _, rfl, HK1.out⟩
  case round =>
    obtain ⟨k, hk, rfl, hkp⟩ := hrel
    by_cases hlt : k < 5
    · have c1 := hkp.cell (HCC.out k hlt) (.inr (Nat.zero_le _))
      have HMK := Lib.hid fun (W : World) => (mark_any (k : Int) W (by omega) (by omega)).mono fun e w' h => (⟨h.1, h.2.symm⟩ : e = .returned (.int .u8 (markB (k : Int))) ∧ w' = W)
      generalize markB (k : Int) = m at c1 HMK
      have j0 : (0 : Int) ≤ (k : Int) := Int.natCast_nonneg _
      have j1 : (l.length : Int) + (k : Int) < (l.length : Int) + 5 := by omega
      have hmm : (m != m) = false := by simp
      go_wp2_with fail
      go_quiet ((go_at_call 20; refine Calls.quiet_of_same (HMK.out _)))
      go_wp2_with fail
      go_roundw
      case rel => exact ⟨k + 1, by omega, by go_num, hkp.drewN _⟩
      case measure => simp [intOf]; omega
    · go_wp2_with fail
      go_ret
      exact ⟨rfl, hkp⟩

end Go.Proofs.YtjbhbleooebdoaaDoor
