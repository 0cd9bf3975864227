/-
  known: the sum that IEEE 802.3 is known by.
-/
import Derived.Test.YtjbhbleooebdoaaDoorMore
import Derived.Lib.SlBytesConst
namespace Go.Proofs.YtjbhbleooebdoaaDoor
open Go.RowKit

/-- A literal of bytes that bears the mark of a text. -/
theorem text_rd (e : TypeId) (w : World) (zs : List Int) (m : Nat × Nat) (h : zs.length ≤ maxLen) : RdI .u8 w.heap.size (w.heap.size + 1) (w.alloc (.cells (zs.map (.int .u8)).toArray e m)) (.slice (some ⟨w.heap.size, 0, none⟩) zs.length zs.length) zs := by
  refine ⟨by simp, some ⟨w.heap.size, 0, none⟩, zs.length, rfl, Nat.le_refl _, h, (fun h => by cases h), fun j u hu => ⟨w.heap.size, 0, rfl, Nat.le_refl _, Nat.lt_succ_self _, ?_⟩⟩
  have hg := heap_alloc_new w (.cells (zs.map (.int .u8)).toArray e m)
  have hj : j < zs.length := by
    have := (List.getElem?_eq_some_iff.1 hu).1
    simpa using this
  have hx : (Value.int IntKind.u8 zs[j]) = u := by simpa [hj] using hu
  subst hx
  simp only [World.cell?, hg, Nat.zero_add]
  simp [hj]

theorem sum9 : Crc.more 0 (nats [49, 50, 51, 52, 53, 54, 55, 56, 57]) = 3421780262 := by decide +kernel
theorem sum4 : Crc.more 0 (nats [49, 50, 51, 52]) = 2615402659 := by decide +kernel
theorem sum5 : Crc.more 2615402659 (nats [53, 54, 55, 56, 57]) = 3421780262 := by decide +kernel
theorem sum0 : Crc.more 0 (nats []) = 0 := by decide +kernel

theorem said_any (w : World) (ht : Tabs w) : Calls Tryd.prog 9 #[] w fun e w' => e = .returned (.bool true) ∧ Kp 0 0 w w' := by
  have HT := Lib.hid ht
  clear ht
  have hcv := fun (w : World) (C : Array Value) (n c : Nat) => Lib.run_convert_bytes_const (P := Tryd.prog) w 23 5 C n c Tryd.underlying23 Tryd.underlying5
  go_enter Tryd.func9, Tryd.ntmps9
  go_wp2_with fail
  have HK0 : Hid (Kp 0 0 w (w.alloc (.cells #[.int .u8 49, .int .u8 50, .int .u8 51, .int .u8 52, .int .u8 53, .int .u8 54, .int .u8 55, .int .u8 56, .int .u8 57] 5 (9, 10)))) := (Kp.refl 0 0 w).alloc _
  refine (sum_any _ _ _ (text_rd 5 w [49, 50, 51, 52, 53, 54, 55, 56, 57] (9, 10) (by decide)) (by decide) (HT.out.keep HK0.out)).mono ?_
  rintro e w1 ⟨rfl, hk1⟩
  rw [sum9]
  have HK1 := Lib.hid (HK0.out.trans hk1)
  clear hk1
  go_wp2_with fail
  have HK0 : Hid (Kp 0 0 w (w1.alloc (.cells #[.int .u8 49, .int .u8 50, .int .u8 51, .int .u8 52] 5 (4, 5)))) := HK1.out.alloc _
  refine (sum_any _ _ _ (text_rd 5 w1 [49, 50, 51, 52] (4, 5) (by decide)) (by decide) (HT.out.keep HK0.out)).mono ?_
  rintro e w2 ⟨rfl, hk2⟩
  rw [sum4]
  have HK2 := Lib.hid (HK0.out.trans hk2)
  clear hk2
  go_wp2_with fail
  have HK0 : Hid (Kp 0 0 w (w2.alloc (.cells #[.int .u8 53, .int .u8 54, .int .u8 55, .int .u8 56, .int .u8 57] 5 (5, 6)))) := HK2.out.alloc _
  refine (more_any 2615402659 _ _ _ (by decide) (text_rd 5 w2 [53, 54, 55, 56, 57] (5, 6) (by decide)) (by decide) (HT.out.keep HK0.out)).mono ?_
  rintro e w3 ⟨rfl, hk3⟩
  rw [sum5]
  have HK3 := Lib.hid (HK0.out.trans hk3)
  clear hk3
  go_wp2_with fail
  refine (sum_any [] _ _ (RdI.nil _ 0 0 _) (by decide) (HT.out.keep HK3.out)).mono ?_
  rintro e w4 ⟨rfl, hk4⟩
  rw [sum0]
  have HK4 := Lib.hid (HK3.out.trans hk4)
  clear hk4
  go_wp2_with fail
  go_ret
  exact ⟨rfl, HK4.out⟩

end Go.Proofs.YtjbhbleooebdoaaDoor
