/-
  CrcTells as a contract.
-/
import Derived.Test.YtjbhbleooebdoaaDoorSaid
import Derived.Test.YtjbhbleooebdoaaDoorLent
import Derived.Test.YtjbhbleooebdoaaDoorCRef2
namespace Go.Proofs.YtjbhbleooebdoaaDoor
open Go.RowKit

set_option maxHeartbeats 1000000 in
theorem tells_any {h1 : Nat} (s : Nat) (l : List Int) (w : World) (v : Value) (hs : s < 4294967296) (hl : RdI .u8 0 h1 w v l) (hb : ∀ y ∈ l, 0 ≤ y ∧ y < 256) (ht : Tabs w) :
    Calls Tryd.prog 3 #[.int .u32 s, v] w fun e w' => e = .returned (.bool true) ∧ Kp 0 0 w w' := by
  have HL := Lib.hid hl
  have HB := Lib.hid hb
  have HT := Lib.hid ht
  obtain ⟨ao, c, rfl, hl1, hl2, _⟩ := hl.open
  clear hl hb ht
  by_cases h12 : 4096 < l.length
  · go_enter Tryd.func3, Tryd.ntmps3
    go_wp2_with fail
    refine (said_any w HT.out).mono ?_
    rintro e w1 ⟨rfl, hk⟩
    go_wp2_with fail
    go_ret
    exact ⟨rfl, hk⟩
  go_enter Tryd.func3, Tryd.ntmps3
  go_wp2_with fail
  refine (lent_any _ _ l HL.out (by omega)).mono ?_
  rintro e w1 ⟨vx, rfl, hown, hk⟩
  have hrd := hown.rd
  obtain ⟨aox, cx, rfl, hx1, hx2, _⟩ := hrd.open
  have hlen : (l ++ marksB 5).length = l.length + 5 := by rw [List.length_append, marksB_len]
  have HPRE : Hid (RdI .u8 w.heap.size w1.heap.size w1 (.slice aox l.length cx) l) := by
    have := hrd.pre (n := l.length) (by omega)
    rwa [List.take_left] at this
  rw [hlen] at hrd hx1 ⊢
  have HX := Lib.hid hrd
  have HK1 := Lib.hid hk
  have i1 : (l.length : Int) ≤ (cx : Int) := by omega
  clear hown hk hrd hlen
  go_wp2_with fail
  refine (sum_any l _ _ HPRE.out HB.out (HT.out.keep HK1.out)).mono ?_
  rintro e w2 ⟨rfl, hk⟩
  have HK2 := Lib.hid (HK1.out.trans hk)
  have HR2 : Hid (Kp 0 0 w1 w2) := hk
  clear hk
  go_wp2_with fail
  refine (refSum_any l _ _ (HL.out.keep0 HK2.out) HB.out (by omega)).mono ?_
  rintro e w3 ⟨rfl, hk⟩
  have HK3 := Lib.hid (HK2.out.trans hk)
  have HR3 := Lib.hid (HR2.out.trans hk)
  clear hk
  go_wp2_with fail
  refine (more_any s l _ _ hs (HPRE.out.keep0 HR3.out) HB.out (HT.out.keep HK3.out)).mono ?_
  rintro e w4 ⟨rfl, hk⟩
  have HK4 := Lib.hid (HK3.out.trans hk)
  have HR4 := Lib.hid (HR3.out.trans hk)
  clear hk
  go_wp2_with fail
  refine (refMore_any s l _ _ hs (HL.out.keep0 HK4.out) HB.out (by omega)).mono ?_
  rintro e w5 ⟨rfl, hk⟩
  have HK5 := Lib.hid (HK4.out.trans hk)
  have HR5 := Lib.hid (HR4.out.trans hk)
  clear hk
  go_wp2_with fail
  have hlen : (l ++ marksB 5).length = l.length + 5 := by rw [List.length_append, marksB_len]
  refine (kept_any _ _ _ l (HX.out.keep0 HR5.out) (HL.out.keep0 HK5.out) (by omega)).mono ?_
  rintro e w6 ⟨rfl, hk⟩
  have HK6 := Lib.hid (HK5.out.trans hk)
  clear hk hlen
  go_wp2_with fail
  refine (said_any _ (HT.out.keep HK6.out)).mono ?_
  rintro e w7 ⟨rfl, hk⟩
  go_wp2_with fail
  go_ret
  exact ⟨rfl, HK6.out.trans hk⟩

end Go.Proofs.YtjbhbleooebdoaaDoor
