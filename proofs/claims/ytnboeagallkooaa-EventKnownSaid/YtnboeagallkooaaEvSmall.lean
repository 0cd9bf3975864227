/-
  The statements' small event, and what each of them asks: that it comes out right, where Check, Put and Get keep the document.
-/
import Derived.Test.YtnboeagallkooaaEvSpec
import Derived.Deep.RegionHeld3
namespace Go.Proofs.Ytnboeagallkooaa
open Go.RowKit

def smallE : Evt := ⟨1, 3, 5, [0, 2], 0, 0, 0, 2, 0, 0⟩
def smallB : List Int := [1, 1, 1, 3, 1, 5, 1, 2, 0, 1, 2, 0, 0, 0, 1, 2, 0, 0]

theorem small_fits : Ev.Fits smallE := by
  refine ⟨?_, ?_, ?_, ?_, ?_, ?_, ?_, ?_, ?_, ?_⟩
  case refine_4 => intro x hx; simp [smallE] at hx; rcases hx with rfl | rfl <;> exact ⟨by decide, by decide⟩
  all_goals exact ⟨by decide, by decide⟩
theorem small_put : Ev.put smallE = (smallB, 0) := by decide +kernel
theorem small_get : Ev.get smallB = (smallE, 0) := by
  have h := Ev.get_put small_fits (by decide)
  have e : Ev.encs (Ev.nums smallE) = smallB := by decide +kernel
  rwa [e] at h
theorem small_chk2 : Ev.check smallE 2 = 0 := by decide +kernel
theorem small_chk3 : Ev.check smallE 3 = 1 := by decide +kernel
theorem small_bytes : ∀ y ∈ smallB, 0 ≤ y ∧ y < 256 := by decide

set_option maxRecDepth 100000 in
set_option maxHeartbeats 4000000 in
theorem small_any (w : World) :
    Calls Try.prog 19 #[] w fun r w' => ∃ dv, r = .returned (evV smallE dv) ∧ OwnI .i64 3 w.heap.size w'.heap.size w' dv smallE.d ∧ Kp 0 0 w w' := by
  go_enter Try.func19, Try.ntmps19
  go_wp2_with fail
  have hs : (w.alloc (.cells #[Value.int .i64 1, .int .i64 3, .int .i64 5, .slice (some ⟨w.heap.size + 1, 0, none⟩) 2 2, .int .i64 0, .int .i64 0, .int .i64 0, .int .i64 2, .int .i64 0, .int .i64 0] 26)).heap.size = w.heap.size + 1 := by simp
  have HO : Hid (OwnI .i64 3 (w.heap.size + 1) (w.heap.size + 1 + 1) ((w.alloc (.cells #[Value.int .i64 1, .int .i64 3, .int .i64 5, .slice (some ⟨w.heap.size + 1, 0, none⟩) 2 2, .int .i64 0, .int .i64 0, .int .i64 0, .int .i64 2, .int .i64 0, .int .i64 0] 26)).alloc (.cells #[.int .i64 0, .int .i64 2] 3)) (.slice (some ⟨w.heap.size + 1, 0, none⟩) 2 2) [0, 2]) := by
    have h := own_lit (w := w.alloc (.cells #[Value.int .i64 1, .int .i64 3, .int .i64 5, .slice (some ⟨w.heap.size + 1, 0, none⟩) 2 2, .int .i64 0, .int .i64 0, .int .i64 0, .int .i64 2, .int .i64 0, .int .i64 0] 26)) (base := w.heap.size + 1) (n := 2) #[.int .i64 0, .int .i64 2] 3 (by rw [hs]; exact Nat.le_refl _) rfl (by decide)
    rw [hs] at h
    have h2 := OwnI.of_rowN (l := [0, 2]) h rfl
    exact ⟨h2.1, fun k hk => by simp [Value.ownBlock] at hk; omega⟩
  clear hs
  go_returns
  refine ⟨_, rfl, (HO.out.there).wide (by omega) (Nat.le_refl _), ((Kp.refl _ _ _).alloc _).alloc _⟩

set_option maxRecDepth 100000 in
set_option maxHeartbeats 4000000 in
theorem eknown_any (HC : ECheckOk) (HP : EPutOk) (HG : EGetOk) (w : World) :
    Calls Try.prog 8 #[] w fun e w' => e = .returned (.bool true) ∧ Kp 0 0 w w' := by
  have HSM : Hid (∀ W, Calls Try.prog 19 #[] W fun r w' => (∃ o c, r = .returned (evV smallE (.slice o 2 c)) ∧ RdI .i64 0 w'.heap.size w' (.slice o 2 c) smallE.d) ∧ Kp 0 0 W w') := fun W => (small_any W).mono fun r w' h => by
    obtain ⟨dv, he, ho, hk⟩ := h
    obtain ⟨o, c, rfl, _, _, _⟩ := ho.rd.open
    exact ⟨⟨o, c, he, ho.rd.wide (Nat.zero_le _) (Nat.le_refl _)⟩, hk⟩
  go_enter Try.func8, Try.ntmps8
  go_wp2_with fail
  refine (HSM.out _).mono ?_
  rintro r w1 ⟨⟨o1, c1, rfl, hd⟩, hk⟩
  have HK1 := Lib.hid hk
  have HD1 := Lib.hid hd
  clear hk hd
  go_wp2_with fail
  have hm := HP _ _ smallE w1 _ HD1.out small_fits (by decide)
  rw [small_put] at hm
  refine hm.mono ?_
  clear hm
  rintro r w2 ⟨vb, rfl, hown, hk⟩
  have HV2 := Lib.hid hown.rd
  have HK2 := Lib.hid (HK1.out.trans hk)
  obtain ⟨ob, cb, rfl, _, _, _⟩ := hown.rd.open
  rw [show (smallB, (0 : Int)).1.length = 18 from rfl] at HV2 ⊢
  clear hk hown
  go_wp2_with fail
  have hm := HG _ _ smallB w2 _ HV2.out small_bytes (by decide)
  rw [small_get] at hm
  refine hm.mono ?_
  clear hm
  rintro r w3 ⟨vd, rfl, hown, hk⟩
  have HD3 := Lib.hid hown.rd
  have HV3 := Lib.hid (HV2.out.keep0 hk)
  have HK3 := Lib.hid (HK2.out.trans hk)
  obtain ⟨od, cd, rfl, _, _, _⟩ := hown.rd.open
  rw [show (smallE, (0 : Int)).1.d.length = 2 from rfl] at HD3 ⊢
  clear hk hown
  have HCK : Hid (∀ W (v : Value) n hi, (n = 2 ∨ n = 3) → RdI .i64 0 hi W v smallE.d → Calls Try.prog 10 #[evV smallE v, .int .i64 n] W fun r w' => r = .returned (.int .i64 (Ev.check smallE n)) ∧ Kp 0 0 W w') := fun W v n hi hn hv => HC _ _ smallE n W v hv small_fits (by unfold Ev.I64; omega) (by decide)
  have HSE : Hid (∀ W (v : Value) hi1 hi2, RdI .i64 0 hi1 W (.slice od 2 cd) smallE.d → RdI .i64 0 hi2 W v smallE.d → Calls Try.prog 12 #[.agg #[Value.int .i64 1, .int .i64 3, .int .i64 5, .slice od 2 cd, .int .i64 0, .int .i64 0, .int .i64 0, .int .i64 2, .int .i64 0, .int .i64 0], evV smallE v] W fun r w' => r = .returned (.bool true) ∧ Kp 0 0 W w') := fun W v hi1 hi2 h1 h2 => sameE_yes W smallE _ _ h1 h2
  have hx : evV smallE (.slice od 2 cd) = .agg #[Value.int .i64 1, .int .i64 3, .int .i64 5, .slice od 2 cd, .int .i64 0, .int .i64 0, .int .i64 0, .int .i64 2, .int .i64 0, .int .i64 0] := rfl
  rw [show (smallE, (0 : Int)).1 = smallE from rfl, hx]
  clear hx
  go_wp2_with fail
  have HXB : Hid (∀ j v, (#[Value.int .i64 1, .int .i64 3, .int .i64 5, .slice od 2 cd, .int .i64 0, .int .i64 0, .int .i64 0, .int .i64 2, .int .i64 0, .int .i64 0] : Array Value)[j]? = some v → (w3.alloc (.cells #[Value.int .i64 1, .int .i64 3, .int .i64 5, .slice od 2 cd, .int .i64 0, .int .i64 0, .int .i64 0, .int .i64 2, .int .i64 0, .int .i64 0] 26)).cell? ⟨w3.heap.size, j, none⟩ = some v) := fun j v hv => by
    simp only [World.cell?, heap_alloc_new]
    simpa using hv
  have HKX : Hid (Kp 0 0 w3 (w3.alloc (.cells #[Value.int .i64 1, .int .i64 3, .int .i64 5, .slice od 2 cd, .int .i64 0, .int .i64 0, .int .i64 0, .int .i64 2, .int .i64 0, .int .i64 0] 26))) := (Kp.refl _ _ _).alloc _
  generalize w3.alloc (.cells #[Value.int .i64 1, .int .i64 3, .int .i64 5, .slice od 2 cd, .int .i64 0, .int .i64 0, .int .i64 0, .int .i64 2, .int .i64 0, .int .i64 0] 26) = w4 at HXB HKX ⊢
  generalize w3.heap.size = px at HXB ⊢
  have HD4 : Hid (RdI .i64 0 w3.heap.size w4 (.slice od 2 cd) smallE.d) := (HD3.out.wide (Nat.zero_le _) (Nat.le_refl _)).keep0 HKX.out
  have HV4 := Lib.hid (HV3.out.keep0 HKX.out)
  have HK4 := Lib.hid (HK3.out.trans HKX.out)
  have HKS : Hid (∀ W, Kp 0 0 w4 W → W.cell? ⟨px, 0, none⟩ = some (Value.int .i64 1) ∧ W.cell? ⟨px, 1, none⟩ = some (Value.int .i64 3) ∧ W.cell? ⟨px, 2, none⟩ = some (Value.int .i64 5) ∧ W.cell? ⟨px, 3, none⟩ = some (Value.slice od 2 cd) ∧ W.cell? ⟨px, 4, none⟩ = some (Value.int .i64 0) ∧ W.cell? ⟨px, 5, none⟩ = some (Value.int .i64 0) ∧ W.cell? ⟨px, 6, none⟩ = some (Value.int .i64 0) ∧ W.cell? ⟨px, 7, none⟩ = some (Value.int .i64 2) ∧ W.cell? ⟨px, 8, none⟩ = some (Value.int .i64 0) ∧ W.cell? ⟨px, 9, none⟩ = some (Value.int .i64 0) ∧ Kp 0 0 w4 W) := fun W hW => ⟨hW.cell (HXB.out 0 _ rfl) (.inr (Nat.zero_le _)), hW.cell (HXB.out 1 _ rfl) (.inr (Nat.zero_le _)), hW.cell (HXB.out 2 _ rfl) (.inr (Nat.zero_le _)), hW.cell (HXB.out 3 _ rfl) (.inr (Nat.zero_le _)), hW.cell (HXB.out 4 _ rfl) (.inr (Nat.zero_le _)), hW.cell (HXB.out 5 _ rfl) (.inr (Nat.zero_le _)), hW.cell (HXB.out 6 _ rfl) (.inr (Nat.zero_le _)), hW.cell (HXB.out 7 _ rfl) (.inr (Nat.zero_le _)), hW.cell (HXB.out 8 _ rfl) (.inr (Nat.zero_le _)), hW.cell (HXB.out 9 _ rfl) (.inr (Nat.zero_le _)), hW⟩
  clear HXB
  go_region_held3 (fun w' => w'.cell? ⟨px, 0, none⟩ = some (Value.int .i64 1) ∧ w'.cell? ⟨px, 1, none⟩ = some (Value.int .i64 3) ∧ w'.cell? ⟨px, 2, none⟩ = some (Value.int .i64 5) ∧ w'.cell? ⟨px, 3, none⟩ = some (Value.slice od 2 cd) ∧ w'.cell? ⟨px, 4, none⟩ = some (Value.int .i64 0) ∧ w'.cell? ⟨px, 5, none⟩ = some (Value.int .i64 0) ∧ w'.cell? ⟨px, 6, none⟩ = some (Value.int .i64 0) ∧ w'.cell? ⟨px, 7, none⟩ = some (Value.int .i64 2) ∧ w'.cell? ⟨px, 8, none⟩ = some (Value.int .i64 0) ∧ w'.cell? ⟨px, 9, none⟩ = some (Value.int .i64 0) ∧ Kp 0 0 w4 w')
    (first | exact HKS.out _ (Kp.refl 0 0 _).drew | exact HKS.out _ hk8 | exact HKS.out _ (hk8.alloc _))
    ((first
      | (go_at_call 19
         refine (HSM.out _).mono ?_
         rintro r w8 ⟨⟨o8, c8, rfl, hd8⟩, hk9⟩
         have hk8 : Kp 0 0 w4 w8 := by
           first
           | exact hk8.trans hk9
           | exact (hk8.alloc _).trans hk9
           | exact ((Kp.refl 0 0 w4).drew).trans hk9
         clear hk9)
      | (go_at_call 10
         refine (HCK.out _ _ _ _ (by decide) hd8).mono ?_
         rintro r w8 ⟨rfl, hk9⟩
         have hk8 : Kp 0 0 w4 w8 := hk8.trans hk9
         clear hk9
         first
         | rw [small_chk2]
         | rw [small_chk3])
      | (go_at_call 15
         refine (same_yes _ _ _ smallB (HV4.out.keep0 (hk8.alloc _)) (lit_rd .u8 5 w8 smallB (by decide))).mono ?_
         rintro r w8' ⟨rfl, hk9⟩
         have hk8 : Kp 0 0 w4 w8' := (hk8.alloc _).trans hk9
         clear hk9)
      | (go_at_call 12
         refine (HSE.out _ _ _ _ (HD4.out.keep0 hk8) hd8).mono ?_
         rintro r w8 ⟨rfl, hk9⟩
         have hk8 : Kp 0 0 w4 w8 := hk8.trans hk9
         clear hk9)))
  have HK9 := Lib.hid (HK4.out.trans hk8)
  clear hk8
  go_wp2_with fail
  go_returns
  exact ⟨rfl, HK9.out⟩

end Go.Proofs.Ytnboeagallkooaa
