/-
  shown: the example of package pack comes out right.
-/
import Derived.Test.YtomefjfhccicaaaReader
import Derived.Test.YtomefjfhccicaaaKit2
namespace Go.Proofs.Ytomefjfhccicaaa
open Go.RowKit

theorem shown_b : ([7] ++ Pk.enc (-1)) ++ Pk.encB [5, 6] = [7, 17, 1, 1, 2, 5, 6] := by decide
theorem shown_i : Pk.rdInt [17, 1, 1, 2, 5, 6] 0 = (-1, [1, 2, 5, 6], 0) := by decide
theorem shown_x : Pk.rdBlb [1, 2, 5, 6] 0 = ([5, 6], [], 0) := by decide
theorem shown_d : Pk.dne [] 0 = 0 := by decide

set_option maxHeartbeats 800000 in
theorem shown_any (w : World) : Calls Try.prog 10 #[] w fun e w' => e = .returned (.bool true) ∧ Kp 0 0 w w' := by
  go_enter Try.func10, Try.ntmps10
  go_wp2_with fail
  refine (int_any _ [7] (-1) _ (lit_rd .u8 5 w [7] (by decide)) (by decide) (by decide) (by decide)).mono ?_
  rintro e w1 ⟨v1, rfl, hown1, hk1⟩
  have HK1 : Hid (Kp 0 0 w w1) := ((Kp.refl 0 0 w).alloc _).trans hk1
  have HO1 := Lib.hid hown1
  obtain ⟨ao1, c1, rfl, _, _, _⟩ := hown1.rd.open
  clear hown1 hk1
  go_wp2_with fail
  have HX1 := Lib.hid (HO1.out.rd.keep0 ((Kp.refl 0 0 w1).alloc (.cells #[.int .u8 5, .int .u8 6] 5)))
  refine (blob_any _ _ _ [5, 6] _ HX1.out (lit_rd .u8 5 w1 [5, 6] (by decide)) (by decide)).mono ?_
  rintro e w2 ⟨v2, rfl, hown2, hk2⟩
  have HK2 : Hid (Kp 0 0 w w2) := (HK1.out.alloc _).trans hk2
  rw [shown_b] at hown2
  have HO2 := Lib.hid hown2
  obtain ⟨ao2, c2, rfl, hle2, hc2, _⟩ := hown2.rd.open
  simp only [List.length_cons, List.length_nil] at hle2
  clear hown2 hk2
  go_wp2_with fail
  have HX2 := Lib.hid (HO2.out.rd.keep0 ((Kp.refl 0 0 w2).alloc (.cells #[.int .u8 7, .int .u8 17, .int .u8 1, .int .u8 1, .int .u8 2, .int .u8 5, .int .u8 6] 5)))
  refine (same_yes _ _ _ [7, 17, 1, 1, 2, 5, 6] HX2.out (lit_rd .u8 5 w2 [7, 17, 1, 1, 2, 5, 6] (by decide))).mono ?_
  rintro e w3 ⟨rfl, hk3⟩
  have HK23 : Hid (Kp 0 0 w2 w3) := ((Kp.refl 0 0 w2).alloc _).trans hk3
  have HK3 : Hid (Kp 0 0 w w3) := HK2.out.trans HK23.out
  clear hk3
  go_wp2_with fail
  have HX3 := Lib.hid ((HO2.out.rd.keep0 HK23.out).suf (n := 1) (by decide))
  refine (from_any _ [17, 1, 1, 2, 5, 6] _ HX3.out (by decide)).mono ?_
  rintro e w4 ⟨p, rfl, hp, hr, hk4⟩
  have HP := Lib.hid hp
  have HR := Lib.hid hr
  have HK34 : Hid (Kp 0 0 w3 w4) := hk4
  clear hp hr hk4
  go_wp2_with fail
  have hi := rint_any [17, 1, 1, 2, 5, 6] 0 _ HR.out (by decide)
  rw [shown_i] at hi
  refine hi.mono ?_
  clear hi
  rintro e w5 ⟨rfl, hr5, hk5⟩
  have HR5 : Hid (Rdr p w3.heap.size w5 [1, 2, 5, 6] 0) := hr5
  have HK35 : Hid (Kp 0 0 w3 w5) := HK34.out.step hk5 fun j h1 _ => .inl (by have := HP.out; omega)
  clear hr5 hk5
  go_wp2_with fail
  have hx := rBlob_any [1, 2, 5, 6] 0 _ HR5.out (by decide)
  rw [shown_x] at hx
  refine hx.mono ?_
  clear hx
  rintro e w6 ⟨⟨v6, rfl, ho6⟩, hr6, hk6⟩
  have HR6 : Hid (Rdr p w3.heap.size w6 [] 0) := hr6
  have HK36 : Hid (Kp 0 0 w3 w6) := HK35.out.step hk6 fun j h1 _ => .inl (by have := HP.out; omega)
  have HO6 : Hid (RdI .u8 w5.heap.size w6.heap.size w6 v6 [5, 6]) := ho6.rd
  clear hr6 hk6 ho6
  go_wp2_with fail
  have HX6 := Lib.hid (HO6.out.keep0 ((Kp.refl 0 0 w6).alloc (.cells #[.int .u8 5, .int .u8 6] 5)))
  refine (same_yes _ _ _ [5, 6] HX6.out (lit_rd .u8 5 w6 [5, 6] (by decide))).mono ?_
  rintro e w7 ⟨rfl, hk7⟩
  have HK67 : Hid (Kp 0 0 w6 w7) := ((Kp.refl 0 0 w6).alloc _).trans hk7
  have HR7 : Hid (Rdr p w3.heap.size w7 [] 0) := HR6.out.keep0 HK67.out
  clear hk7
  go_wp2_with fail
  have hd := done_any [] 0 _ HR7.out
  rw [shown_d] at hd
  refine hd.mono ?_
  clear hd
  rintro e w8 ⟨rfl, rfl⟩
  go_wp2_with fail
  go_ret
  exact ⟨rfl, (HK3.out.trans HK36.out).trans HK67.out⟩

end Go.Proofs.Ytomefjfhccicaaa
