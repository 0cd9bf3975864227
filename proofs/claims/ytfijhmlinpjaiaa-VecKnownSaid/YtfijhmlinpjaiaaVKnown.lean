/-
  VecKnown as a contract.
-/
import Derived.Test.YtfijhmlinpjaiaaVTells
import Derived.Test.YtfijhmlinpjaiaaVJoins
import Derived.Test.YtfijhmlinpjaiaaVOrders
import Derived.Test.YtfijhmlinpjaiaaVSums
import Derived.Deep.RegionHeld3
import Derived.Deep.RegionWith
import Derived.PlainAid
namespace Go.Proofs.Ytfijhmlinpjaiaa
open Go.RowKit

/-- The numbers that are tried. -/
def kn : List Int := [-9223372036854775808, -1, 0, 1, 2, 4611686018427387904, 9223372036854775807]

theorem kn_range (i : Nat) : -9223372036854775808 ≤ kn.getD i 0 ∧ kn.getD i 0 ≤ 9223372036854775807 := V.I64.getD (i64_dec (by decide)) i

set_option maxRecDepth 100000 in
set_option maxHeartbeats 4000000 in
theorem vknown_any (HG : GetOk) (HC : CmpOk) (HJ : JoinOk) (HS : SumOk) (w : World) :
    Calls Try.prog 7 #[] w fun e w' => e = .returned (.bool true) ∧ Kp 0 0 w w' := by
  go_enter Try.func7, Try.ntmps7
  go_wp2_with fail
  have HN : Hid (RdI .i64 w.heap.size (w.heap.size + 1) (w.alloc (.cells #[.int .i64 (-9223372036854775808), .int .i64 (-1), .int .i64 0, .int .i64 1, .int .i64 2, .int .i64 4611686018427387904, .int .i64 9223372036854775807] 3)) (.slice (some ⟨w.heap.size, 0, none⟩) 7 7) kn) := lit_i w kn (by decide)
  have HCN : Hid (∀ i, i < 7 → (w.alloc (.cells #[.int .i64 (-9223372036854775808), .int .i64 (-1), .int .i64 0, .int .i64 1, .int .i64 2, .int .i64 4611686018427387904, .int .i64 9223372036854775807] 3)).cell? ⟨w.heap.size, i, none⟩ = some (.int .i64 (kn.getD i 0))) := fun i hi => by
    obtain ⟨ao, c, he, _, _, hc⟩ := HN.out.open
    simp only [Value.slice.injEq] at he
    obtain ⟨rfl, _, _⟩ := he
    obtain ⟨g, o, he, _, _, hc⟩ := hc (by decide)
    simp only [Option.some.injEq, Addr.mk.injEq] at he
    obtain ⟨rfl, rfl, _⟩ := he
    have := hc i hi
    rwa [Nat.zero_add] at this
  have HK0 : Hid (Kp 0 0 w (w.alloc (.cells #[.int .i64 (-9223372036854775808), .int .i64 (-1), .int .i64 0, .int .i64 1, .int .i64 2, .int .i64 4611686018427387904, .int .i64 9223372036854775807] 3))) := (Kp.refl _ _ _).alloc _
  generalize w.alloc (.cells #[.int .i64 (-9223372036854775808), .int .i64 (-1), .int .i64 0, .int .i64 1, .int .i64 2, .int .i64 4611686018427387904, .int .i64 9223372036854775807] 3) = w0 at HN HCN HK0 ⊢
  generalize w.heap.size = g0 at HN HCN ⊢
  go_loopw [2, 3, 4, 5] (fun i _ _ _ wr => ∃ k : Nat, k ≤ 7 ∧ i = .int .i64 k ∧ Kp 0 0 w0 wr) (fun i _ _ _ _ => 7 - (intOf i).toNat)
  case atStart => exact ⟨0, Nat.zero_le _, rfl, Kp.refl _ _ _⟩
  case round =>
    obtain ⟨i, hi, rfl, hkp⟩ := hrel
    have HKP := Lib.hid hkp
    clear hkp
    by_cases hi7 : i < 7
    · go_wp2_with fail
      try rw [show decide ((i : Int) < 7) = true from decide_eq_true (by omega)]
      obtain ⟨wo, hwo⟩ : ∃ wo, wo = wr := ⟨_, rfl⟩
      rw [← hwo] at HKP
      have HKO := Lib.hid (HK0.out.trans HKP.out)
      go_loopw [3, 4, 5] (fun k _ _ wr => ∃ q : Nat, q ≤ 7 ∧ k = .int .i64 q ∧ Kp 0 0 w0 wr) (fun k _ _ _ => 7 - (intOf k).toNat)
      case atStart => exact ⟨0, Nat.zero_le _, rfl, by rw [← hwo]; exact HKP.out⟩
      case round =>
        obtain ⟨k, hk, rfl, hkp⟩ := hrel
        have HKQ := Lib.hid hkp
        clear hkp
        by_cases hk7 : k < 7
        · have i0 : (0 : Int) ≤ (i : Int) := Int.natCast_nonneg _
          have i7 : (i : Int) < 7 := by omega
          have k0 : (0 : Int) ≤ (k : Int) := Int.natCast_nonneg _
          have k7 : (k : Int) < 7 := by omega
          have w1' : IntKind.i64.wrap ((i : Int) + (k : Int)) = (i : Int) + (k : Int) := by rw [PlainAid.i64_is]; unfold wrap64; omega
          obtain ⟨m1, hm1⟩ : ∃ m1 : Nat, m1 = (i + k) % 7 := ⟨_, rfl⟩
          obtain ⟨m2, hm2⟩ : ∃ m2 : Nat, m2 = (2 * i + k) % 7 := ⟨_, rfl⟩
          have em1 : ((i : Int) + (k : Int)) % 7 = (m1 : Int) := by omega
          have em2 : (2 * (i : Int) + (k : Int)) % 7 = (m2 : Int) := by omega
          have et1 : ((i : Int) + (k : Int)).tmod 7 = (m1 : Int) := by rw [Int.tmod_eq_emod_of_nonneg (by omega)]; exact em1
          have et2 : (2 * (i : Int) + (k : Int)).tmod 7 = (m2 : Int) := by rw [Int.tmod_eq_emod_of_nonneg (by omega)]; exact em2
          have wm1 : IntKind.i64.wrap (m1 : Int) = (m1 : Int) := by rw [PlainAid.i64_is]; unfold wrap64; omega
          have wm2 : IntKind.i64.wrap (m2 : Int) = (m2 : Int) := by rw [PlainAid.i64_is]; unfold wrap64; omega
          have w2' : IntKind.i64.wrap (2 * (i : Int) + (k : Int)) = 2 * (i : Int) + (k : Int) := by rw [PlainAid.i64_is]; unfold wrap64; omega
          have w3' : IntKind.i64.wrap (2 * (i : Int)) = 2 * (i : Int) := by rw [PlainAid.i64_is]; unfold wrap64; omega
          have m10 : (0 : Int) ≤ (m1 : Int) := Int.natCast_nonneg _
          have m17 : (m1 : Int) < 7 := by omega
          have m20 : (0 : Int) ≤ (m2 : Int) := Int.natCast_nonneg _
          have m27 : (m2 : Int) < 7 := by omega
          have HCS : Hid (∀ W, Kp 0 0 w0 W → W.cell? ⟨g0, i, none⟩ = some (.int .i64 (kn.getD i 0)) ∧ W.cell? ⟨g0, k, none⟩ = some (.int .i64 (kn.getD k 0)) ∧ W.cell? ⟨g0, m1, none⟩ = some (.int .i64 (kn.getD m1 0)) ∧ W.cell? ⟨g0, m2, none⟩ = some (.int .i64 (kn.getD m2 0)) ∧ Kp 0 0 w0 W) := fun W hW =>
            ⟨hW.cell (HCN.out i (by omega)) (.inr (Nat.zero_le _)), hW.cell (HCN.out k (by omega)) (.inr (Nat.zero_le _)), hW.cell (HCN.out m1 (by omega)) (.inr (Nat.zero_le _)), hW.cell (HCN.out m2 (by omega)) (.inr (Nat.zero_le _)), hW⟩
          have RI := kn_range i
          have RK := kn_range k
          have R1 := kn_range m1
          have R2 := kn_range m2
          generalize kn.getD i 0 = x at *
          generalize kn.getD k 0 = y at *
          generalize kn.getD m1 0 = z1 at *
          generalize kn.getD m2 0 = z2 at *
          clear hm1 hm2
          go_wp2_with fail
          go_region_held3 (fun w' => w'.cell? ⟨g0, i, none⟩ = some (.int .i64 x) ∧ w'.cell? ⟨g0, k, none⟩ = some (.int .i64 y) ∧ w'.cell? ⟨g0, m1, none⟩ = some (.int .i64 z1) ∧ w'.cell? ⟨g0, m2, none⟩ = some (.int .i64 z2) ∧ Kp 0 0 w0 w')
            (first | exact HCS.out _ HKQ.out.drew | exact HCS.out _ (HKQ.out.drew.alloc _))
            ((first | (go_at_call 16; fail)))
          rename_i hHeld
          clear hHeld
          have HAV : Hid (RdI .i64 wr.heap.size (wr.heap.size + 1) (wr.alloc (.cells #[.int .i64 x, .int .i64 y, .int .i64 z1] 3)).drew (.slice (some ⟨wr.heap.size, 0, none⟩) 3 3) [x, y, z1]) := (lit_i wr [x, y, z1] (show 3 ≤ 1000 by decide)).keep0 (Kp.refl _ _ _).drew
          have HKA : Hid (Kp 0 0 w0 (wr.alloc (.cells #[.int .i64 x, .int .i64 y, .int .i64 z1] 3)).drew) := (HKQ.out.alloc _).drew
          generalize (wr.alloc (.cells #[.int .i64 x, .int .i64 y, .int .i64 z1] 3)).drew = wa at HAV HKA ⊢
          generalize wr.heap.size = ga at HAV ⊢
          go_wp2_with fail
          go_region_held3 (fun w' => w'.cell? ⟨g0, i, none⟩ = some (.int .i64 x) ∧ w'.cell? ⟨g0, k, none⟩ = some (.int .i64 y) ∧ w'.cell? ⟨g0, m1, none⟩ = some (.int .i64 z1) ∧ w'.cell? ⟨g0, m2, none⟩ = some (.int .i64 z2) ∧ Kp 0 0 w0 w')
            (first | exact HCS.out _ HKA.out.drew | exact HCS.out _ (HKA.out.drew.alloc _))
            ((first | (go_at_call 16; fail)))
          rename_i hHeld
          clear hHeld
          have HBV : Hid (RdI .i64 wa.heap.size (wa.heap.size + 1) (wa.alloc (.cells #[.int .i64 y, .int .i64 z2] 3)).drew (.slice (some ⟨wa.heap.size, 0, none⟩) 2 2) [y, z2]) := (lit_i wa [y, z2] (show 2 ≤ 1000 by decide)).keep0 (Kp.refl _ _ _).drew
          have HKB : Hid (Kp 0 0 w0 (wa.alloc (.cells #[.int .i64 y, .int .i64 z2] 3)).drew) := (HKA.out.alloc _).drew
          have HAV2 : Hid (RdI .i64 ga (ga + 1) (wa.alloc (.cells #[.int .i64 y, .int .i64 z2] 3)).drew (.slice (some ⟨ga, 0, none⟩) 3 3) [x, y, z1]) := HAV.out.keep0 (((Kp.refl _ _ _).alloc _).drew)
          generalize (wa.alloc (.cells #[.int .i64 y, .int .i64 z2] 3)).drew = wb at HBV HKB HAV2 ⊢
          generalize wa.heap.size = gb at HBV ⊢
          have IAV : Hid (V.I64 [x, y, z1]) := fun v hv => by simp at hv; omega
          have IBV : Hid (V.I64 [y, z2]) := fun v hv => by simp at hv; omega
          have INV : Hid (V.I64 kn) := i64_dec (by decide)
          obtain ⟨e3, he3⟩ : ∃ e3 : Nat, e3 = i % 3 := ⟨_, rfl⟩
          obtain ⟨e4, he4⟩ : ∃ e4 : Nat, e4 = k % 4 := ⟨_, rfl⟩
          have ee3 : (i : Int) % 3 = (e3 : Int) := by omega
          have ee4 : (k : Int) % 4 = (e4 : Int) := by omega
          have et3 : (i : Int).tmod 3 = (e3 : Int) := by rw [Int.tmod_eq_emod_of_nonneg (by omega)]; exact ee3
          have et4 : (k : Int).tmod 4 = (e4 : Int) := by rw [Int.tmod_eq_emod_of_nonneg (by omega)]; exact ee4
          have we3 : IntKind.i64.wrap (e3 : Int) = (e3 : Int) := by rw [PlainAid.i64_is]; unfold wrap64; omega
          have we4 : IntKind.i64.wrap (e4 : Int) = (e4 : Int) := by rw [PlainAid.i64_is]; unfold wrap64; omega
          have e30 : (0 : Int) ≤ (e3 : Int) := Int.natCast_nonneg _
          have e40 : (0 : Int) ≤ (e4 : Int) := Int.natCast_nonneg _
          have e32 : (e3 : Int) ≤ 2 := by omega
          have e43 : (e4 : Int) ≤ 3 := by omega
          have AT : Hid (∀ W z, (-9223372036854775808 ≤ z ∧ z ≤ 9223372036854775807) → Kp 0 0 wb W → Calls Try.prog 3 #[.slice (some ⟨ga, 0, none⟩) 3 3, .slice (some ⟨gb, 0, none⟩) 2 2, .int .i64 z] W fun e w' => e = .returned (.bool true) ∧ Kp 0 0 wb w') := fun W z hz hW =>
            (vtells_any HG HC HJ HS [x, y, z1] [y, z2] z W _ _ (HAV2.out.keep0 hW) (HBV.out.keep0 hW) IAV.out IBV.out hz).mono fun e w' h => ⟨h.1, hW.trans h.2⟩
          have AT2 : Hid (∀ W z, (-9223372036854775808 ≤ z ∧ z ≤ 9223372036854775807) → Kp 0 0 wb W → Calls Try.prog 3 #[.slice (some ⟨gb, 0, none⟩) e3 2, .slice (some ⟨ga, 0, none⟩) e4 3, .int .i64 z] W fun e w' => e = .returned (.bool true) ∧ Kp 0 0 wb w') := fun W z hz hW =>
            (vtells_any HG HC HJ HS ([y, z2].take e3) ([x, y, z1].take e4) z W _ _ ((HBV.out.pre (l := [y, z2]) (n := e3) (show e3 ≤ 2 by omega)).keep0 hW) ((HAV2.out.pre (l := [x, y, z1]) (n := e4) (show e4 ≤ 3 by omega)).keep0 hW) (fun v hv => IBV.out v (List.mem_of_mem_take hv)) (fun v hv => IAV.out v (List.mem_of_mem_take hv)) hz).mono fun e w' h => ⟨h.1, hW.trans h.2⟩
          have AJ : Hid (∀ W, Kp 0 0 wb W → Calls Try.prog 4 #[.slice (some ⟨ga, 0, none⟩) 3 3, .slice (some ⟨gb, 0, none⟩) 2 2, .slice (some ⟨g0, 0, none⟩) 7 7] W fun e w' => e = .returned (.bool true) ∧ Kp 0 0 wb w') := fun W hW =>
            (vjoins_any HG HC HJ HS [x, y, z1] [y, z2] kn W _ _ _ (HAV2.out.keep0 hW) (HBV.out.keep0 hW) (HN.out.keep0 (HKB.out.trans hW)) IAV.out IBV.out INV.out).mono fun e w' h => ⟨h.1, hW.trans h.2⟩
          have AO : Hid (∀ W, Kp 0 0 wb W → Calls Try.prog 5 #[.slice (some ⟨ga, 0, none⟩) 3 3, .slice (some ⟨gb, 0, none⟩) 2 2, .slice (some ⟨g0, 0, none⟩) 7 7] W fun e w' => e = .returned (.bool true) ∧ Kp 0 0 wb w') := fun W hW =>
            (vorders_any HG HC HJ HS [x, y, z1] [y, z2] kn W _ _ _ (HAV2.out.keep0 hW) (HBV.out.keep0 hW) (HN.out.keep0 (HKB.out.trans hW)) IAV.out IBV.out INV.out).mono fun e w' h => ⟨h.1, hW.trans h.2⟩
          have AS : Hid (∀ W, Kp 0 0 wb W → Calls Try.prog 6 #[.slice (some ⟨ga, 0, none⟩) 3 3, .slice (some ⟨gb, 0, none⟩) 2 2] W fun e w' => e = .returned (.bool true) ∧ Kp 0 0 wb w') := fun W hW =>
            (vsums_any HC HJ HS [x, y, z1] [y, z2] W _ _ (HAV2.out.keep0 hW) (HBV.out.keep0 hW) IAV.out IBV.out).mono fun e w' h => ⟨h.1, hW.trans h.2⟩
          have HCS2 : Hid (∀ W, Kp 0 0 wb W → W.cell? ⟨g0, i, none⟩ = some (.int .i64 x) ∧ Kp 0 0 wb W) := fun W hW => ⟨(HCS.out W (HKB.out.trans hW)).1, hW⟩
          clear he3 he4 HAV
          go_wp2_with fail
          try simp only [List.append_eq, List.cons_append, List.nil_append]
          go_region_held3 (fun w' => w'.cell? ⟨g0, i, none⟩ = some (.int .i64 x) ∧ Kp 0 0 wb w')
            (first | exact HCS2.out _ (Kp.refl 0 0 _).drew | exact HCS2.out _ hk8)
            ((first
              | (go_at_call_of 3 e3
                 refine (AT2.out _ _ ?_ ?_).mono ?_
                 · omega
                 · first | exact hk8 | exact (Kp.refl 0 0 _).drew
                 rintro e w8 ⟨rfl, hk8⟩)
              | (go_at_call 3
                 refine (AT.out _ _ ?_ ?_).mono ?_
                 · omega
                 · first | exact hk8 | exact (Kp.refl 0 0 _).drew
                 rintro e w8 ⟨rfl, hk8⟩)
              | (go_at_call 4
                 refine (AJ.out _ hk8).mono ?_
                 rintro e w8 ⟨rfl, hk8⟩)
              | (go_at_call 5
                 refine (AO.out _ hk8).mono ?_
                 rintro e w8 ⟨rfl, hk8⟩)
              | (go_at_call 6
                 refine (AS.out _ hk8).mono ?_
                 rintro e w8 ⟨rfl, hk8⟩)))
          rename_i hHeld
          have HKE : Hid (Kp 0 0 w0 w8) := HKB.out.trans hk8
          clear hHeld hk8
          go_wp2_with fail
          go_roundw
          case rel => exact ⟨k + 1, by omega, by go_num, HKE.out⟩
          case measure => simp [intOf]; omega
        · obtain rfl : k = 7 := by omega
          go_wp2_with fail
          go_roundw
          case rel => exact ⟨i + 1, by omega, by go_num, HKQ.out⟩
          case measure => simp [intOf]; omega
    · go_wp2_with fail
      refine (works_any HC HJ HS _).mono ?_
      rintro e w1 ⟨rfl, hk⟩
      go_wp2_with fail
      go_returns
      exact ⟨rfl, (HK0.out.trans HKP.out).trans hk⟩

end Go.Proofs.Ytfijhmlinpjaiaa
