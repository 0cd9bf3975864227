/-
  PackLays as a contract: for whatever slices and number, true; nothing that was there turns.
-/
import Derived.Test.YtomefjfhccicaaaShown
import Derived.Test.YtomefjfhccicaaaRef2
namespace Go.Proofs.Ytomefjfhccicaaa
open Go.RowKit

set_option maxHeartbeats 1000000 in
theorem lays_any {h1 h2 : Nat} (vb vx : Value) (lb lx : List Int) (n : Int) (w : World) (hb : RdI .u8 0 h1 w vb lb) (hx : RdI .u8 0 h2 w vx lx) (n1 : -9223372036854775808 ≤ n) (n2 : n ≤ 9223372036854775807) :
    Calls Try.prog 3 #[vb, vx, .int .i64 n] w fun e w' => e = .returned (.bool true) ∧ Kp 0 0 w w' := by
  obtain ⟨aob, cb, rfl, _, _, _⟩ := hb.open
  obtain ⟨aox, cx, rfl, _, _, _⟩ := hx.open
  have HB := Lib.hid hb.there
  have HX := Lib.hid hx.there
  clear hb hx
  by_cases hbig : 8192 < max (lb.length : Int) (lx.length : Int)
  · go_enter Try.func3, Try.ntmps3
    go_wp2_with fail
    refine (shown_any _).mono ?_
    rintro e w1 ⟨rfl, hk⟩
    have HK := Lib.hid hk
    clear hk
    go_wp2_with fail
    go_ret
    exact ⟨rfl, HK.out⟩
  · have hl1 : lb.length ≤ 8192 := by omega
    have hl2 : lx.length ≤ 8192 := by omega
    go_enter Try.func3, Try.ntmps3
    go_wp2_with fail
    refine (copy_any _ _ lb HB.out (by omega)).mono ?_
    rintro e w1 ⟨v1, rfl, hown, hk⟩
    have HK1 := Lib.hid hk
    have HA := Lib.hid hown
    clear hown hk
    go_wp2_with fail
    refine (int_any _ lb n _ HA.out.rd (by omega) n1 n2).mono ?_
    rintro e w2 ⟨v2, rfl, hown, hk⟩
    have HK12 := Lib.hid hk
    have HK2 := Lib.hid (HK1.out.trans hk)
    have HA2 := Lib.hid (HA.out.keep0 hk)
    have HI := Lib.hid hown
    clear hown hk
    go_wp2_with fail
    have HX2 := Lib.hid (HX.out.keep0 HK2.out)
    refine (blob_any _ _ lb lx _ HA2.out.rd HX2.out (by omega)).mono ?_
    rintro e w3 ⟨v3, rfl, hown, hk⟩
    have HK23 := Lib.hid hk
    have HK3 := Lib.hid (HK2.out.trans hk)
    have HA3 := Lib.hid (HA2.out.keep0 hk)
    have HI3 := Lib.hid (HI.out.keep0 hk)
    have HO := Lib.hid hown
    have HB3 := Lib.hid (HB.out.keep0 HK3.out)
    clear hown hk
    go_wp2_with fail
    refine (refInt_any _ lb n _ HB3.out (by omega) n1 n2).mono ?_
    rintro e w4 ⟨v4, rfl, hown, hk⟩
    have HK4 := Lib.hid (HK3.out.trans hk)
    have HA4 := Lib.hid (HA3.out.keep0 hk)
    have HI4 := Lib.hid (HI3.out.keep0 hk)
    have HO4 := Lib.hid (HO.out.keep0 hk)
    have HR4 := Lib.hid hown
    clear hown hk
    go_wp2_with fail
    refine (same_yes _ _ _ _ HI4.out.rd HR4.out.rd).mono ?_
    rintro e w5 ⟨rfl, hk⟩
    have HK5 := Lib.hid (HK4.out.trans hk)
    have HA5 := Lib.hid (HA4.out.keep0 hk)
    have HI5 := Lib.hid (HI4.out.keep0 hk)
    have HO5 := Lib.hid (HO4.out.keep0 hk)
    have HB5 := Lib.hid (HB.out.keep0 HK5.out)
    have HX5 := Lib.hid (HX.out.keep0 HK5.out)
    clear hk
    go_wp2_with fail
    refine (refBlob_any _ _ lb lx _ HB5.out HX5.out (by omega)).mono ?_
    rintro e w6 ⟨v6, rfl, hown, hk⟩
    have HK6 := Lib.hid (HK5.out.trans hk)
    have HA6 := Lib.hid (HA5.out.keep0 hk)
    have HI6 := Lib.hid (HI5.out.keep0 hk)
    have HO6 := Lib.hid (HO5.out.keep0 hk)
    have HR6 := Lib.hid hown
    clear hown hk
    go_wp2_with fail
    refine (same_yes _ _ _ _ HO6.out.rd HR6.out.rd).mono ?_
    rintro e w7 ⟨rfl, hk⟩
    have HK7 := Lib.hid (HK6.out.trans hk)
    have HA7 := Lib.hid (HA6.out.keep0 hk)
    have HI7 := Lib.hid (HI6.out.keep0 hk)
    have HO7 := Lib.hid (HO6.out.keep0 hk)
    clear hk
    have hs1 := HK1.out.size
    have hs2 := HK12.out.size
    have HL := Lib.hid (enc_len n1 n2)
    have HL2 := Lib.hid (enc_len (n := (lx.length : Int)) (by omega) (by omega))
    go_wp2_with fail
    refine (spoil_any _ _ _ HI7.out (by rw [List.length_append]; have := HL.out; omega)).mono ?_
    rintro e w8 ⟨rfl, hk⟩
    have HA8 := Lib.hid (HA7.out.keep hk fun b _ h => .inl (by omega))
    have HO8 := Lib.hid (HO7.out.keep hk fun b h _ => .inr (by omega))
    have HK8 : Hid (Kp 0 0 w w8) := HK7.out.step hk fun j h _ => .inl (by omega)
    clear hk
    go_wp2_with fail
    refine (spoil_any _ _ _ HO8.out (by rw [List.length_append, Pk.encB, List.length_append]; have := HL2.out; omega)).mono ?_
    rintro e w9 ⟨rfl, hk⟩
    have HA9 := Lib.hid (HA8.out.keep hk fun b _ h => .inl (by omega))
    have HK9 : Hid (Kp 0 0 w w9) := HK8.out.step hk fun j h _ => .inl (by omega)
    have HB9 := Lib.hid (HB.out.keep0 HK9.out)
    clear hk
    go_wp2_with fail
    refine (same_yes _ _ _ _ HA9.out.rd HB9.out).mono ?_
    rintro e w10 ⟨rfl, hk⟩
    have HK10 := Lib.hid (HK9.out.trans hk)
    clear hk
    go_wp2_with fail
    refine (shown_any _).mono ?_
    rintro e w11 ⟨rfl, hk⟩
    have HK11 := Lib.hid (HK10.out.trans hk)
    clear hk
    go_wp2_with fail
    go_ret
    exact ⟨rfl, HK11.out⟩

end Go.Proofs.Ytomefjfhccicaaa
