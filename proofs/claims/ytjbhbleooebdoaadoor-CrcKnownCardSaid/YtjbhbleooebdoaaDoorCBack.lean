/-
  CrcBack as a contract.
-/
import Derived.Test.YtjbhbleooebdoaaDoorSaid
import Derived.Deep.RegionHeld3
namespace Go.Proofs.YtjbhbleooebdoaaDoor
open Go.RowKit

theorem xor_u32 {a b : Nat} (ha : a < 4294967296) (hb : b < 4294967296) : bits .xor .u32 (a : Int) (b : Int) = ((a ^^^ b : Nat) : Int) := u32_xor_nat a b ha hb

set_option maxHeartbeats 2000000 in
theorem cback_any {h1 h2 : Nat} (s t : Nat) (la lb : List Int) (w : World) (va vb : Value) (hs : s < 4294967296) (ht : t < 4294967296) (ha : RdI .u8 0 h1 w va la) (hb : RdI .u8 0 h2 w vb lb) (ra : ∀ y ∈ la, 0 ≤ y ∧ y < 256) (rb : ∀ y ∈ lb, 0 ≤ y ∧ y < 256) (hT : Tabs w) :
    Calls Tryd.prog 6 #[.int .u32 s, .int .u32 t, va, vb] w fun e w' => e = .returned (.bool true) ∧ Kp 0 0 w w' := by
  obtain ⟨ao, ca, rfl, ha1, ha2, _⟩ := ha.open
  obtain ⟨bo, cb, rfl, hb1, hb2, _⟩ := hb.open
  obtain ⟨n, hn⟩ : ∃ n, n = min (min la.length lb.length) 4096 := ⟨_, rfl⟩
  have hna : n ≤ la.length := by omega
  have hnb : n ≤ lb.length := by omega
  have HT := Lib.hid hT
  have HA : Hid (RdI .u8 0 h1 w (.slice ao n ca) (la.take n)) := ha.pre hna
  have HB : Hid (RdI .u8 0 h2 w (.slice bo n cb) (lb.take n)) := hb.pre hnb
  have RA : Hid (∀ y ∈ la.take n, 0 ≤ y ∧ y < 256) := fun y hy => ra y (List.mem_of_mem_take hy)
  have RB : Hid (∀ y ∈ lb.take n, 0 ≤ y ∧ y < 256) := fun y hy => rb y (List.mem_of_mem_take hy)
  have hx := Crc.more_lt hs (nats_lt RA.out)
  have hy := Crc.more_lt ht (nats_lt RA.out)
  have hx2 := Crc.more_lt hs (nats_lt RB.out)
  have hy2 := Crc.more_lt ht (nats_lt RB.out)
  have e1 := xor_u32 hx hy
  have e2 := xor_u32 hx2 hy2
  have e3 := Crc.diff_beq hs ht (nats (la.take n))
  rw [Crc.more_diff, nats_len, List.length_take] at e1 e2
  rw [Nat.min_eq_left hna] at e1
  rw [Nat.min_eq_left hnb] at e2
  have M1 := Lib.hid fun W (h : Kp 0 0 w W) => more_any s (la.take n) W _ hs (HA.out.keep0 h) RA.out (hT.keep h)
  have M2 := Lib.hid fun W (h : Kp 0 0 w W) => more_any t (la.take n) W _ ht (HA.out.keep0 h) RA.out (hT.keep h)
  have MB := Lib.hid fun (q : Nat) (hq : q < 4294967296) W (h : Kp 0 0 w W) => more_any q (lb.take n) W _ hq (HB.out.keep0 h) RB.out (hT.keep h)
  generalize Crc.hs (8 * n) (s ^^^ t) = Z at e1 e2
  generalize Crc.more s (nats (la.take n)) = x at *
  generalize Crc.more t (nats (la.take n)) = y at *
  generalize nats (lb.take n) = B at *
  have hmin : ∀ (ts : Array TypeId) (ty : TypeId) (W : World), (Builtin.min_ ts ty #[.int .i64 (la.length : Int), .int .i64 (lb.length : Int), .int .i64 4096]).run Tryd.prog W = .ok (.int .i64 (n : Int)) W := fun ts ty W => by
    rw [run_min_int3]
    congr 2
    split <;> split at * <;> omega
  have i0 : (0 : Int) ≤ (n : Int) := Int.natCast_nonneg _
  have i1 : (n : Int) ≤ (cb : Int) := by omega
  have i2 : (n : Int) ≤ (ca : Int) := by omega
  clear ha hb ra rb hT hn
  go_enter Tryd.func6, Tryd.ntmps6
  go_wp2_with fail
  refine (M1.out _ (Kp.refl _ _ _)).mono ?_
  rintro e w1 ⟨rfl, hk⟩
  have HK1 := Lib.hid hk
  clear hk
  go_wp2_with fail
  refine (M2.out _ HK1.out).mono ?_
  rintro e w2 ⟨rfl, hk⟩
  have HK2 := Lib.hid (HK1.out.trans hk)
  clear hk
  go_wp2_with fail
  go_region_held3 (fun w' => Kp 0 0 w w') (first | exact HK2.out.drew | exact Kp.trans (by assumption) hk7)
    ((first
      | (go_at_call 13
         refine (MB.out _ ?_ _ ?_).mono ?_
         · assumption
         · assumption
         rintro e w7 ⟨rfl, hk7⟩)
      | (go_at_call 9
         refine (said_any _ (HT.out.keep ?_)).mono ?_
         · assumption
         rintro e w7 ⟨rfl, hk7⟩)))
  all_goals
    go_wp2
    go_ret
    exact ⟨rfl, by first | assumption | exact Kp.trans (by assumption) hk7⟩

end Go.Proofs.YtjbhbleooebdoaaDoor
