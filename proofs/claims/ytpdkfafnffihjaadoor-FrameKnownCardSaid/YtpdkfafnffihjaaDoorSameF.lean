/-
  quaysidekit.SameFrames, where both lists read the same.
-/
import Derived.Test.YtpdkfafnffihjaaDoorFrames
import Derived.Deep.RegionHeld3
namespace Go.Proofs.YtpdkfafnffihjaaDoor
open Go.RowKit

set_option maxRecDepth 100000 in
set_option maxHeartbeats 1000000 in
theorem same_frames {l1 h1 l2 h2 : Nat} (w : World) (va vb : Value) (fs : List (Int × List Nat)) (ha : RdF l1 h1 w va fs) (hb : RdF l2 h2 w vb fs) :
    Calls Tryd.prog 20 #[va, vb] w fun e w' => e = .returned (.bool true) ∧ Kp 0 0 w w' := by
  obtain ⟨ao, ca, rfl, ha1, ha2, ha3⟩ := ha
  obtain ⟨bo, cb, rfl, hb1, hb2, hb3⟩ := hb
  have HA := Lib.hid ha3
  have HB := Lib.hid hb3
  have hmax : fs.length ≤ 9223372036854775807 := by omega
  clear ha1 ha2 hb1 hb2 ha3 hb3
  go_enter Tryd.func20, Tryd.ntmps20
  go_wp2_with fail
  go_loopw [5] (fun i wr => ∃ k : Nat, k ≤ fs.length ∧ i = .int .i64 k ∧ Kp 0 0 w wr) (fun i _ => fs.length - (intOf i).toNat)
  case atStart => exact ⟨0, Nat.zero_le _, rfl, Kp.refl _ _ _⟩
  case round =>
    obtain ⟨k, hk, rfl, hkp⟩ := hrel
    by_cases hlt : k < fs.length
    · obtain ⟨g1, o1, rfl, _, _, hc1⟩ := HA.out (by omega)
      obtain ⟨g2, o2, rfl, _, _, hc2⟩ := HB.out (by omega)
      obtain ⟨c1, v1, d1, r1⟩ := hc1 k hlt
      obtain ⟨c2, v2, d2, r2⟩ := hc2 k hlt
      have c1 := hkp.cell c1 (.inr (Nat.zero_le _))
      have c2 := hkp.cell c2 (.inr (Nat.zero_le _))
      have d1 := hkp.cell d1 (.inr (Nat.zero_le _))
      have d2 := hkp.cell d2 (.inr (Nat.zero_le _))
      have R1 := Lib.hid (r1.keep0 hkp)
      have R2 := Lib.hid (r2.keep0 hkp)
      have HK := Lib.hid hkp
      clear hc1 hc2 r1 r2 HA HB hkp
      generalize (fs.getD k (0, [])).1 = x at c1 c2
      generalize ints (fs.getD k (0, [])).2 = y at R1 R2
      have hxx : (x != x) = false := by simp
      have HKS : Hid (∀ W, Kp 0 0 wr W → W.cell? ⟨g1, o1 + k * 2, none⟩ = some (.int .i64 x) ∧ W.cell? ⟨g2, o2 + k * 2, none⟩ = some (.int .i64 x) ∧ W.cell? ⟨g1, o1 + k * 2 + 1, none⟩ = some v1 ∧ W.cell? ⟨g2, o2 + k * 2 + 1, none⟩ = some v2 ∧ Kp 0 0 wr W) := fun W hW => ⟨hW.cell c1 (.inr (Nat.zero_le _)), hW.cell c2 (.inr (Nat.zero_le _)), hW.cell d1 (.inr (Nat.zero_le _)), hW.cell d2 (.inr (Nat.zero_le _)), hW⟩
      have HSM : Hid (∀ W, Kp 0 0 wr W → Calls Tryd.prog 14 #[v1, v2] W fun e w' => e = .returned (.bool true) ∧ Kp 0 0 wr w') := fun W hW => (same_yes W v1 v2 y (R1.out.keep0 hW) (R2.out.keep0 hW)).mono fun e w' h => ⟨h.1, hW.trans h.2⟩
      go_wp2_with fail
      go_region_held3 (fun w' => w'.cell? ⟨g1, o1 + k * 2, none⟩ = some (.int .i64 x) ∧ w'.cell? ⟨g2, o2 + k * 2, none⟩ = some (.int .i64 x) ∧ w'.cell? ⟨g1, o1 + k * 2 + 1, none⟩ = some v1 ∧ w'.cell? ⟨g2, o2 + k * 2 + 1, none⟩ = some v2 ∧ Kp 0 0 wr w')
        (first
          | exact HKS.out _ (Kp.refl 0 0 _).drew
          | exact HKS.out _ hk7)
        ((first
          | (go_at_call 14
             refine (HSM.out _ (Kp.refl 0 0 wr).drew).mono ?_
             rintro e w7 ⟨rfl, hk7⟩)))
      have HK1 := Lib.hid (HK.out.trans hk7)
      clear hk7
      go_wp2_with fail
      go_roundw
      case rel => exact ⟨k + 1, by omega, by go_num, HK1.out⟩
      case measure => simp [intOf]; omega
    · go_wp2_with fail
      go_ret
      exact ⟨rfl, hkp⟩

end Go.Proofs.YtpdkfafnffihjaaDoor
