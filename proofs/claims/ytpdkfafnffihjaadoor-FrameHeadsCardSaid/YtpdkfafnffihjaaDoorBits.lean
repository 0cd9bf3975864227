/-
  Shifts and 'or' on ints that are not negative: bytes put together. No program is named here.
-/
import Derived.Laws.BitsAllLaws
import Derived.PlainAid
import Derived.WalkKit
namespace Go.Proofs.YtpdkfafnffihjaaDoor
open Go.RowKit

theorem ofInt_i64 (a : Nat) (ha : a < 18446744073709551616) : (BitVec.ofInt 64 (a : Int)).toNat = a := by
  rw [BitVec.ofInt_natCast, BitVec.toNat_ofNat]; exact Nat.mod_eq_of_lt (by omega)

theorem i64_or_nat (a b : Nat) (ha : a < 9223372036854775808) (hb : b < 9223372036854775808) : bits .or .i64 (a : Int) (b : Int) = ((a ||| b : Nat) : Int) := by
  have hx : a ||| b < 2 ^ 63 := Nat.or_lt_two_pow (by omega) (by omega)
  show IntKind.i64.wrap ((BitVec.ofInt 64 (a : Int) ||| BitVec.ofInt 64 (b : Int)).toNat : Int) = _
  rw [BitVec.toNat_or, ofInt_i64 a (by omega), ofInt_i64 b (by omega), PlainAid.i64_is]
  unfold wrap64
  omega

theorem or_16 (a b : Nat) (hb : b < 65536) : a * 65536 ||| b = 65536 * a + b := by
  have := Nat.two_pow_add_eq_or_of_lt (i := 16) (b := b) (by omega) a
  rw [Nat.mul_comm]
  exact this.symm

theorem or_8 (a b : Nat) (hb : b < 256) : a * 256 ||| b = 256 * a + b := by
  have := Nat.two_pow_add_eq_or_of_lt (i := 8) (b := b) (by omega) a
  rw [Nat.mul_comm]
  exact this.symm

/-- Three bytes, the highest first. -/
theorem or_three (a b c : Nat) (ha : a < 256) (hb : b < 256) (hc : c < 256) : bits .or .i64 (bits .or .i64 ((a : Int) * 65536) ((b : Int) * 256)) (c : Int) = ((65536 * a + 256 * b + c : Nat) : Int) := by
  have e1 : (a : Int) * 65536 = ((a * 65536 : Nat) : Int) := by simp
  have e2 : (b : Int) * 256 = ((b * 256 : Nat) : Int) := by simp
  rw [e1, e2, i64_or_nat _ _ (by omega) (by omega), or_16 a (b * 256) (by omega), i64_or_nat _ _ (by omega) (by omega)]
  congr 1
  have e3 : 65536 * a + b * 256 = (256 * a + b) * 256 := by omega
  rw [e3, or_8 _ c hc]
  omega

end Go.Proofs.YtpdkfafnffihjaaDoor
