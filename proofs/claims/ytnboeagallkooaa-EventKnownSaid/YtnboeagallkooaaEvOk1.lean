/-
  The landed Check keeps the document.
-/
import Derived.Test.YtnboeagallkooaaEvChk
import Derived.Test.YtnboeagallkooaaEvSpec
namespace Go.Proofs.Ytnboeagallkooaa
open Go.RowKit

set_option maxRecDepth 100000 in
set_option maxHeartbeats 4000000 in
theorem echeckOk : ECheckOk := by
  intro l1 h1 e n w dv hd he hn hl
  have HPL : Hid (∀ W, Kp 0 0 w W → Calls Try.prog 21 #[evV e dv, .int .i64 n] W (Place e n W)) := fun W hW => place_any e n W dv (hd.keep0 hW)
  obtain ⟨ao, c, rfl, hb1, hb2, hcl⟩ := hd.open
  have HCL := Lib.hid hcl
  have hs := he.s
  unfold Ev.I64 at hs
  clear hd hcl he hn
  unfold evV at HPL
  unfold evV
  have HKA : Hid (Kp 0 0 w (w.alloc (.cells #[Value.int .i64 e.o, .int .i64 e.s, .int .i64 e.l, .slice ao e.d.length c, .int .i64 e.t, .int .i64 e.a, .int .i64 e.f, .int .i64 e.p, .int .i64 e.r, .int .i64 e.k] 26))) := (Kp.refl _ _ _).alloc _
  have HCE : Hid (∀ j v, #[Value.int .i64 e.o, .int .i64 e.s, .int .i64 e.l, .slice ao e.d.length c, .int .i64 e.t, .int .i64 e.a, .int .i64 e.f, .int .i64 e.p, .int .i64 e.r, .int .i64 e.k][j]? = some v → (w.alloc (.cells #[Value.int .i64 e.o, .int .i64 e.s, .int .i64 e.l, .slice ao e.d.length c, .int .i64 e.t, .int .i64 e.a, .int .i64 e.f, .int .i64 e.p, .int .i64 e.r, .int .i64 e.k] 26)).cell? ⟨w.heap.size, j, none⟩ = some v) := fun j v hv => by
    simp only [World.cell?, heap_alloc_new]
    simpa using hv
  go_enter Try.func10, Try.ntmps10
  go_wp2_with fail
  generalize w.alloc (.cells #[Value.int .i64 e.o, .int .i64 e.s, .int .i64 e.l, .slice ao e.d.length c, .int .i64 e.t, .int .i64 e.a, .int .i64 e.f, .int .i64 e.p, .int .i64 e.r, .int .i64 e.k] 26) = wa at HKA HCE ⊢
  generalize w.heap.size = pf at HCE ⊢
  refine (HPL.out wa HKA.out).mono ?_
  rintro r w2 ⟨b, rfl, hk, hx⟩
  have HK := Lib.hid hk
  have HK2 := Lib.hid (HKA.out.trans hk)
  clear hk
  rcases hx with ⟨rfl, hA, hall⟩ | ⟨rfl, hbad⟩
  · have hA' : ¬ (e.o < 0 ∨ n ≤ e.o ∨ e.s < 1 ∨ e.l < 1 ∨ e.a < 0 ∨ e.k < 0 ∨ (e.d.length : Int) ≠ n) := hA
    have HO := Lib.hid (chk_order (e := e) (n := n) hA' hall)
    have ho0 : 0 ≤ e.o := by omega
    have ho1 : e.o < (e.d.length : Int) := by omega
    have hs1 : 1 ≤ e.s := by omega
    clear hA hA' hall
    obtain ⟨O, hO⟩ : ∃ O : Nat, e.o = (O : Int) := ⟨e.o.toNat, by omega⟩
    have hOl : O < e.d.length := by omega
    obtain ⟨b1, o1, rfl, _, _, hc1⟩ := HCL.out (by omega)
    have c1 := HK2.out.cell (hc1 O hOl) (.inr (Nat.zero_le _))
    have f0 := HK.out.cell (HCE.out 0 _ rfl) (.inr (Nat.zero_le _))
    have f1 := HK.out.cell (HCE.out 1 _ rfl) (.inr (Nat.zero_le _))
    have f3 := HK.out.cell (HCE.out 3 _ rfl) (.inr (Nat.zero_le _))
    have f4 := HK.out.cell (HCE.out 4 _ rfl) (.inr (Nat.zero_le _))
    have f6 := HK.out.cell (HCE.out 6 _ rfl) (.inr (Nat.zero_le _))
    have f7 := HK.out.cell (HCE.out 7 _ rfl) (.inr (Nat.zero_le _))
    rw [hO] at f0
    rw [hO, Int.toNat_natCast] at HO
    have O0 : (0 : Int) ≤ (O : Int) := Int.natCast_nonneg _
    have O1 : (O : Int) < (e.d.length : Int) := by omega
    clear hc1 ho0 ho1 hO
    generalize e.d.getD O 0 = x at c1 HO
    have hw : IntKind.i64.wrap (e.s - 1) = e.s - 1 := by rw [PlainAid.i64_is]; unfold wrap64; omega
    by_cases hx : x = e.s - 1
    · have hb : (x != e.s - 1) = false := by simp [hx]
      rw [if_neg (fun h => h hx)] at HO
      clear hx
      by_cases hp : e.p < 1 ∨ 5 < e.p
      · have HP := Lib.hid (HO.out.trans (if_pos hp))
        by_cases hp1 : e.p < 1
        · clear hp
          go_wp2_with fail
          go_quiet (fail)
          go_wp2_with fail
          go_returns
          rw [HP.out]
          exact ⟨rfl, HK2.out.drewN _⟩
        · have hp2 : 5 < e.p := by omega
          clear hp
          go_wp2_with fail
          go_quiet (fail)
          go_wp2_with fail
          go_returns
          rw [HP.out]
          exact ⟨rfl, HK2.out.drewN _⟩
      have hp1 : ¬ e.p < 1 := fun h => hp (.inl h)
      have hp2 : ¬ 5 < e.p := fun h => hp (.inr h)
      rw [if_neg hp] at HO
      clear hp
      by_cases ht : e.t < 0 ∨ 7 < e.t
      · have HP : Hid (Ev.check e n = 8) := HO.out.trans (if_pos (by omega))
        go_wp2_with fail
        go_quiet (fail)
        go_wp2_with fail
        refine (below_no _ _ _ (by omega)).mono ?_
        rintro r w3 ⟨rfl, rfl⟩
        go_wp2_with fail
        go_returns
        rw [HP.out]
        exact ⟨rfl, HK2.out.drewN _⟩
      by_cases hf : e.f < 0 ∨ 7 < e.f
      · have HP : Hid (Ev.check e n = 8) := HO.out.trans (if_pos (by omega))
        go_wp2_with fail
        go_quiet (fail)
        go_wp2_with fail
        refine (below_yes _ _ _ (by omega) (by omega)).mono ?_
        rintro r w3 ⟨rfl, rfl⟩
        go_wp2_with fail
        refine (below_no _ _ _ (by omega)).mono ?_
        rintro r w3 ⟨rfl, rfl⟩
        go_wp2_with fail
        go_returns
        rw [HP.out]
        exact ⟨rfl, HK2.out.drewN _⟩
      have HP : Hid (Ev.check e n = 0) := HO.out.trans (if_neg (by omega))
      go_wp2_with fail
      go_quiet (fail)
      go_wp2_with fail
      refine (below_yes _ _ _ (by omega) (by omega)).mono ?_
      rintro r w3 ⟨rfl, rfl⟩
      go_wp2_with fail
      refine (below_yes _ _ _ (by omega) (by omega)).mono ?_
      rintro r w3 ⟨rfl, rfl⟩
      go_wp2_with fail
      go_returns
      rw [HP.out]
      exact ⟨rfl, HK2.out.drewN _⟩
    · have hb : (x != e.s - 1) = true := bne_iff_ne.2 hx
      have HP : Hid (Ev.check e n = 9) := by
        show _ = _
        rw [HO.out, if_pos hx]
      clear hx
      go_wp2_with fail
      go_quiet (fail)
      go_wp2_with fail
      go_returns
      rw [HP.out]
      exact ⟨rfl, HK2.out.drewN _⟩
  · have HP : Hid (Ev.check e n = 1) := by
      by_cases hA : Arg e n
      · exact chk_arg hA
      · rcases hbad with h | ⟨j, hj, hx⟩
        · exact absurd h hA
        · exact chk_neg hA hj hx
    clear hbad
    go_wp2_with fail
    go_returns
    rw [HP.out]
    exact ⟨rfl, HK2.out⟩

end Go.Proofs.Ytnboeagallkooaa
