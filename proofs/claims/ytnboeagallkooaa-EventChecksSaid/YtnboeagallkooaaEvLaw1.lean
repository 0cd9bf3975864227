/-
  EventChecks as a contract.
-/
import Derived.Test.YtnboeagallkooaaEvSmall
namespace Go.Proofs.Ytnboeagallkooaa
open Go.RowKit

set_option maxRecDepth 100000 in
set_option maxHeartbeats 4000000 in
theorem echecks_any (HC : ECheckOk) (HP : EPutOk) (HG : EGetOk) {l1 h1 : Nat} (e : Evt) (n : Int) (w : World) (dv : Value) (hd : RdI .i64 l1 h1 w dv e.d) (he : Ev.Fits e) (hn : Ev.I64 n) :
    Calls Try.prog 3 #[evV e dv, .int .i64 n] w fun r w' => r = .returned (.bool true) ∧ Kp 0 0 w w' := by
  have HD := Lib.hid hd
  have HF := Lib.hid he
  have HN := Lib.hid hn
  obtain ⟨ao, c, rfl, hb1, hb2, _⟩ := hd.open
  clear hd he hn
  by_cases h20 : 200 < e.d.length
  · unfold evV
    go_enter Try.func3, Try.ntmps3
    go_wp2_with fail
    refine (eknown_any HC HP HG _).mono ?_
    rintro r w1 ⟨rfl, hk⟩
    go_wp2_with fail
    go_returns
    exact ⟨rfl, ((Kp.refl _ _ _).alloc _).trans hk⟩
  have HCP : Hid (∀ W, Kp 0 0 w W → Calls Try.prog 9 #[.agg #[Value.int .i64 e.o, .int .i64 e.s, .int .i64 e.l, .slice ao e.d.length c, .int .i64 e.t, .int .i64 e.a, .int .i64 e.f, .int .i64 e.p, .int .i64 e.r, .int .i64 e.k]] W fun r w' => (∃ o c, r = .returned (.agg #[Value.int .i64 e.o, .int .i64 e.s, .int .i64 e.l, .slice o e.d.length c, .int .i64 e.t, .int .i64 e.a, .int .i64 e.f, .int .i64 e.p, .int .i64 e.r, .int .i64 e.k]) ∧ RdI .i64 0 w'.heap.size w' (.slice o e.d.length c) e.d) ∧ Kp 0 0 W w') := fun W hW => (copyE_any W e _ (HD.out.keep0 hW) (by omega)).mono fun r w' h => by
    obtain ⟨dv, he, ho, hk⟩ := h
    obtain ⟨o, c, rfl, _, _, _⟩ := ho.rd.open
    exact ⟨⟨o, c, he, ho.rd.wide (Nat.zero_le _) (Nat.le_refl _)⟩, hk⟩
  unfold evV
  go_enter Try.func3, Try.ntmps3
  go_wp2_with fail
  have HKA : Hid (Kp 0 0 w (w.alloc (.cells #[Value.int .i64 e.o, .int .i64 e.s, .int .i64 e.l, .slice ao e.d.length c, .int .i64 e.t, .int .i64 e.a, .int .i64 e.f, .int .i64 e.p, .int .i64 e.r, .int .i64 e.k] 26))) := (Kp.refl _ _ _).alloc _
  have HBA : Hid ((w.alloc (.cells #[Value.int .i64 e.o, .int .i64 e.s, .int .i64 e.l, .slice ao e.d.length c, .int .i64 e.t, .int .i64 e.a, .int .i64 e.f, .int .i64 e.p, .int .i64 e.r, .int .i64 e.k] 26)).heap[w.heap.size]? = some (.cells #[Value.int .i64 e.o, .int .i64 e.s, .int .i64 e.l, .slice ao e.d.length c, .int .i64 e.t, .int .i64 e.a, .int .i64 e.f, .int .i64 e.p, .int .i64 e.r, .int .i64 e.k] 26 (0, 0))) := heap_alloc_new w _
  generalize w.alloc (.cells #[Value.int .i64 e.o, .int .i64 e.s, .int .i64 e.l, .slice ao e.d.length c, .int .i64 e.t, .int .i64 e.a, .int .i64 e.f, .int .i64 e.p, .int .i64 e.r, .int .i64 e.k] 26) = wa at HKA HBA ⊢
  generalize w.heap.size = pe at HBA ⊢
  refine (HCP.out _ HKA.out).mono ?_
  rintro r w1 ⟨⟨oi, ci, rfl, hr⟩, hk⟩
  have HI1 := Lib.hid hr
  have HB1 := Lib.hid (hk.heap HBA.out (.inr (Nat.zero_le _)))
  have HK1 := Lib.hid (HKA.out.trans hk)
  clear hk hr HCP HBA HKA
  go_wp2_with fail
  have HBI : Hid ((w1.alloc (.cells #[Value.int .i64 e.o, .int .i64 e.s, .int .i64 e.l, .slice oi e.d.length ci, .int .i64 e.t, .int .i64 e.a, .int .i64 e.f, .int .i64 e.p, .int .i64 e.r, .int .i64 e.k] 26)).heap[w1.heap.size]? = some (.cells #[Value.int .i64 e.o, .int .i64 e.s, .int .i64 e.l, .slice oi e.d.length ci, .int .i64 e.t, .int .i64 e.a, .int .i64 e.f, .int .i64 e.p, .int .i64 e.r, .int .i64 e.k] 26 (0, 0))) := heap_alloc_new w1 _
  have HKI : Hid (Kp 0 0 w1 (w1.alloc (.cells #[Value.int .i64 e.o, .int .i64 e.s, .int .i64 e.l, .slice oi e.d.length ci, .int .i64 e.t, .int .i64 e.a, .int .i64 e.f, .int .i64 e.p, .int .i64 e.r, .int .i64 e.k] 26))) := (Kp.refl _ _ _).alloc _
  generalize w1.alloc (.cells #[Value.int .i64 e.o, .int .i64 e.s, .int .i64 e.l, .slice oi e.d.length ci, .int .i64 e.t, .int .i64 e.a, .int .i64 e.f, .int .i64 e.p, .int .i64 e.r, .int .i64 e.k] 26) = w2 at HBI HKI ⊢
  generalize w1.heap.size = pi at HBI ⊢
  have HK2 := Lib.hid (HK1.out.trans HKI.out)
  have HI2 := Lib.hid (HI1.out.keep0 HKI.out)
  have HD2 := Lib.hid (HD.out.keep0 HK2.out)
  have HCA : Hid (∀ j v, (#[Value.int .i64 e.o, .int .i64 e.s, .int .i64 e.l, .slice ao e.d.length c, .int .i64 e.t, .int .i64 e.a, .int .i64 e.f, .int .i64 e.p, .int .i64 e.r, .int .i64 e.k] : Array Value)[j]? = some v → w2.cell? ⟨pe, j, none⟩ = some v) := fun j v hv => by
    simp only [World.cell?, HKI.out.heap HB1.out (.inr (Nat.zero_le _))]
    simpa using hv
  have HCI : Hid (∀ j v, (#[Value.int .i64 e.o, .int .i64 e.s, .int .i64 e.l, .slice oi e.d.length ci, .int .i64 e.t, .int .i64 e.a, .int .i64 e.f, .int .i64 e.p, .int .i64 e.r, .int .i64 e.k] : Array Value)[j]? = some v → w2.cell? ⟨pi, j, none⟩ = some v) := fun j v hv => by
    simp only [World.cell?, HBI.out]
    simpa using hv
  have HKS : Hid (∀ W, Kp 0 0 w2 W → W.cell? ⟨pe, 0, none⟩ = some (Value.int .i64 e.o) ∧ W.cell? ⟨pe, 1, none⟩ = some (Value.int .i64 e.s) ∧ W.cell? ⟨pe, 2, none⟩ = some (Value.int .i64 e.l) ∧ W.cell? ⟨pe, 3, none⟩ = some (Value.slice ao e.d.length c) ∧ W.cell? ⟨pe, 4, none⟩ = some (Value.int .i64 e.t) ∧ W.cell? ⟨pe, 5, none⟩ = some (Value.int .i64 e.a) ∧ W.cell? ⟨pe, 6, none⟩ = some (Value.int .i64 e.f) ∧ W.cell? ⟨pe, 7, none⟩ = some (Value.int .i64 e.p) ∧ W.cell? ⟨pe, 8, none⟩ = some (Value.int .i64 e.r) ∧ W.cell? ⟨pe, 9, none⟩ = some (Value.int .i64 e.k) ∧ W.cell? ⟨pi, 0, none⟩ = some (Value.int .i64 e.o) ∧ W.cell? ⟨pi, 1, none⟩ = some (Value.int .i64 e.s) ∧ W.cell? ⟨pi, 2, none⟩ = some (Value.int .i64 e.l) ∧ W.cell? ⟨pi, 3, none⟩ = some (Value.slice oi e.d.length ci) ∧ W.cell? ⟨pi, 4, none⟩ = some (Value.int .i64 e.t) ∧ W.cell? ⟨pi, 5, none⟩ = some (Value.int .i64 e.a) ∧ W.cell? ⟨pi, 6, none⟩ = some (Value.int .i64 e.f) ∧ W.cell? ⟨pi, 7, none⟩ = some (Value.int .i64 e.p) ∧ W.cell? ⟨pi, 8, none⟩ = some (Value.int .i64 e.r) ∧ W.cell? ⟨pi, 9, none⟩ = some (Value.int .i64 e.k) ∧ Kp 0 0 w2 W) := fun W hW => ⟨hW.cell (HCA.out 0 _ rfl) (.inr (Nat.zero_le _)), hW.cell (HCA.out 1 _ rfl) (.inr (Nat.zero_le _)), hW.cell (HCA.out 2 _ rfl) (.inr (Nat.zero_le _)), hW.cell (HCA.out 3 _ rfl) (.inr (Nat.zero_le _)), hW.cell (HCA.out 4 _ rfl) (.inr (Nat.zero_le _)), hW.cell (HCA.out 5 _ rfl) (.inr (Nat.zero_le _)), hW.cell (HCA.out 6 _ rfl) (.inr (Nat.zero_le _)), hW.cell (HCA.out 7 _ rfl) (.inr (Nat.zero_le _)), hW.cell (HCA.out 8 _ rfl) (.inr (Nat.zero_le _)), hW.cell (HCA.out 9 _ rfl) (.inr (Nat.zero_le _)), hW.cell (HCI.out 0 _ rfl) (.inr (Nat.zero_le _)), hW.cell (HCI.out 1 _ rfl) (.inr (Nat.zero_le _)), hW.cell (HCI.out 2 _ rfl) (.inr (Nat.zero_le _)), hW.cell (HCI.out 3 _ rfl) (.inr (Nat.zero_le _)), hW.cell (HCI.out 4 _ rfl) (.inr (Nat.zero_le _)), hW.cell (HCI.out 5 _ rfl) (.inr (Nat.zero_le _)), hW.cell (HCI.out 6 _ rfl) (.inr (Nat.zero_le _)), hW.cell (HCI.out 7 _ rfl) (.inr (Nat.zero_le _)), hW.cell (HCI.out 8 _ rfl) (.inr (Nat.zero_le _)), hW.cell (HCI.out 9 _ rfl) (.inr (Nat.zero_le _)), hW⟩
  have HC1 : Hid (∀ W, Kp 0 0 w2 W → Calls Try.prog 10 #[.agg #[Value.int .i64 e.o, .int .i64 e.s, .int .i64 e.l, .slice oi e.d.length ci, .int .i64 e.t, .int .i64 e.a, .int .i64 e.f, .int .i64 e.p, .int .i64 e.r, .int .i64 e.k], .int .i64 n] W fun r w' => r = .returned (.int .i64 (Ev.check e n)) ∧ Kp 0 0 w2 w') := fun W hW => (HC _ _ e n W _ (HI2.out.keep0 hW) HF.out HN.out (by omega)).mono fun r w' h => ⟨h.1, hW.trans h.2⟩
  have HC2 : Hid (∀ W, Kp 0 0 w2 W → Calls Try.prog 11 #[.agg #[Value.int .i64 e.o, .int .i64 e.s, .int .i64 e.l, .slice ao e.d.length c, .int .i64 e.t, .int .i64 e.a, .int .i64 e.f, .int .i64 e.p, .int .i64 e.r, .int .i64 e.k], .int .i64 n] W fun r w' => r = .returned (.int .i64 (Ev.check e n)) ∧ Kp 0 0 w2 w') := fun W hW => (refCheck_any e n W _ (HD2.out.keep0 hW) HF.out).mono fun r w' h => ⟨h.1, hW.trans h.2⟩
  have HC3 : Hid (∀ W, Kp 0 0 w2 W → Calls Try.prog 12 #[.agg #[Value.int .i64 e.o, .int .i64 e.s, .int .i64 e.l, .slice oi e.d.length ci, .int .i64 e.t, .int .i64 e.a, .int .i64 e.f, .int .i64 e.p, .int .i64 e.r, .int .i64 e.k], .agg #[Value.int .i64 e.o, .int .i64 e.s, .int .i64 e.l, .slice ao e.d.length c, .int .i64 e.t, .int .i64 e.a, .int .i64 e.f, .int .i64 e.p, .int .i64 e.r, .int .i64 e.k]] W fun r w' => r = .returned (.bool true) ∧ Kp 0 0 w2 w') := fun W hW => (sameE_yes W e _ _ (HI2.out.keep0 hW) (HD2.out.keep0 hW)).mono fun r w' h => ⟨h.1, hW.trans h.2⟩
  have HC4 : Hid (∀ W, Kp 0 0 w2 W → Calls Try.prog 8 #[] W fun r w' => r = .returned (.bool true) ∧ Kp 0 0 w2 w') := fun W hW => (eknown_any HC HP HG W).mono fun r w' h => ⟨h.1, hW.trans h.2⟩
  generalize Ev.check e n = ck at *
  have hck : (ck == ck) = true := by simp
  clear HCA HCI HB1 HBI
  go_region_held3 (fun w' => w'.cell? ⟨pe, 0, none⟩ = some (Value.int .i64 e.o) ∧ w'.cell? ⟨pe, 1, none⟩ = some (Value.int .i64 e.s) ∧ w'.cell? ⟨pe, 2, none⟩ = some (Value.int .i64 e.l) ∧ w'.cell? ⟨pe, 3, none⟩ = some (Value.slice ao e.d.length c) ∧ w'.cell? ⟨pe, 4, none⟩ = some (Value.int .i64 e.t) ∧ w'.cell? ⟨pe, 5, none⟩ = some (Value.int .i64 e.a) ∧ w'.cell? ⟨pe, 6, none⟩ = some (Value.int .i64 e.f) ∧ w'.cell? ⟨pe, 7, none⟩ = some (Value.int .i64 e.p) ∧ w'.cell? ⟨pe, 8, none⟩ = some (Value.int .i64 e.r) ∧ w'.cell? ⟨pe, 9, none⟩ = some (Value.int .i64 e.k) ∧ w'.cell? ⟨pi, 0, none⟩ = some (Value.int .i64 e.o) ∧ w'.cell? ⟨pi, 1, none⟩ = some (Value.int .i64 e.s) ∧ w'.cell? ⟨pi, 2, none⟩ = some (Value.int .i64 e.l) ∧ w'.cell? ⟨pi, 3, none⟩ = some (Value.slice oi e.d.length ci) ∧ w'.cell? ⟨pi, 4, none⟩ = some (Value.int .i64 e.t) ∧ w'.cell? ⟨pi, 5, none⟩ = some (Value.int .i64 e.a) ∧ w'.cell? ⟨pi, 6, none⟩ = some (Value.int .i64 e.f) ∧ w'.cell? ⟨pi, 7, none⟩ = some (Value.int .i64 e.p) ∧ w'.cell? ⟨pi, 8, none⟩ = some (Value.int .i64 e.r) ∧ w'.cell? ⟨pi, 9, none⟩ = some (Value.int .i64 e.k) ∧ Kp 0 0 w2 w')
    (first | exact HKS.out _ (Kp.refl 0 0 _).drew | exact HKS.out _ hk8)
    ((first
      | (go_at_call 10
         refine (HC1.out _ (by first | exact hk8 | exact (Kp.refl 0 0 _).drew)).mono ?_
         rintro r w8 ⟨rfl, hk8⟩)
      | (go_at_call 11
         refine (HC2.out _ hk8).mono ?_
         rintro r w8 ⟨rfl, hk8⟩)
      | (go_at_call 12
         refine (HC3.out _ hk8).mono ?_
         rintro r w8 ⟨rfl, hk8⟩)
      | (go_at_call 8
         refine (HC4.out _ hk8).mono ?_
         rintro r w8 ⟨rfl, hk8⟩)))
  have HK8 := Lib.hid (HK2.out.trans hk8)
  clear hk8
  go_wp2_with fail
  go_returns
  exact ⟨rfl, HK8.out⟩

end Go.Proofs.Ytnboeagallkooaa
