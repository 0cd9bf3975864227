/-
  EventBytes as a contract.
-/
import Derived.Test.YtnboeagallkooaaEvSmall
namespace Go.Proofs.Ytnboeagallkooaa
open Go.RowKit

theorem put_len (e : Evt) (he : Ev.Fits e) : (Ev.put e).1.length ≤ 1000 := by
  unfold Ev.put
  split
  · exact Nat.zero_le _
  · have h := (Ev.encs_len (i64s_nums he (by omega))).2
    have h2 : (Ev.nums e).length = 4 + e.d.length + 6 := by simp [Ev.nums, Ev.pre, Ev.post]; omega
    show (Ev.encs (Ev.nums e)).length ≤ 1000
    omega

set_option maxRecDepth 100000 in
set_option maxHeartbeats 4000000 in
theorem ebytes_any (HC : ECheckOk) (HP : EPutOk) (HG : EGetOk) {l1 h1 l2 h2 : Nat} (e : Evt) (B : List Int) (w : World) (dv vb : Value) (hd : RdI .i64 l1 h1 w dv e.d) (he : Ev.Fits e) (hb : RdI .u8 l2 h2 w vb B) (hB : ∀ y ∈ B, 0 ≤ y ∧ y < 256) :
    Calls Try.prog 4 #[evV e dv, vb] w fun r w' => r = .returned (.bool true) ∧ Kp 0 0 w w' := by
  have HD := Lib.hid hd
  have HF := Lib.hid he
  have HBB := Lib.hid hb
  have HBY := Lib.hid hB
  obtain ⟨ao, c, rfl, hb1, hb2, _⟩ := hd.open
  obtain ⟨bo, cb, rfl, hb3, hb4, _⟩ := hb.open
  clear hd he hb hB
  unfold evV
  by_cases h20 : 200 < e.d.length
  · go_enter Try.func4, Try.ntmps4
    go_wp2_with fail
    refine (eknown_any HC HP HG _).mono ?_
    rintro r w1 ⟨rfl, hk⟩
    go_wp2_with fail
    go_returns
    exact ⟨rfl, ((Kp.refl _ _ _).alloc _).trans hk⟩
  by_cases h21 : 4096 < B.length
  · go_enter Try.func4, Try.ntmps4
    go_wp2_with fail
    refine (eknown_any HC HP HG _).mono ?_
    rintro r w1 ⟨rfl, hk⟩
    go_wp2_with fail
    go_returns
    exact ⟨rfl, ((Kp.refl _ _ _).alloc _).trans hk⟩
  have HP1 : Hid (∀ W, Kp 0 0 w W → Calls Try.prog 13 #[.agg #[Value.int .i64 e.o, .int .i64 e.s, .int .i64 e.l, .slice ao e.d.length c, .int .i64 e.t, .int .i64 e.a, .int .i64 e.f, .int .i64 e.p, .int .i64 e.r, .int .i64 e.k]] W fun r w' => (∃ o c, r = .returned (.tuple #[.slice o (Ev.put e).1.length c, .int .i64 (Ev.put e).2]) ∧ RdI .u8 0 w'.heap.size w' (.slice o (Ev.put e).1.length c) (Ev.put e).1) ∧ Kp 0 0 W w') := fun W hW => (HP _ _ e W _ (HD.out.keep0 hW) HF.out (by omega)).mono fun r w' h => by
    obtain ⟨v, he, ho, hk⟩ := h
    obtain ⟨o, c, rfl, _, _, _⟩ := ho.rd.open
    exact ⟨⟨o, c, he, ho.rd.wide (Nat.zero_le _) (Nat.le_refl _)⟩, hk⟩
  have HP2 : Hid (∀ W, Kp 0 0 w W → Calls Try.prog 14 #[.agg #[Value.int .i64 e.o, .int .i64 e.s, .int .i64 e.l, .slice ao e.d.length c, .int .i64 e.t, .int .i64 e.a, .int .i64 e.f, .int .i64 e.p, .int .i64 e.r, .int .i64 e.k]] W fun r w' => (∃ o c, r = .returned (.tuple #[.slice o (Ev.put e).1.length c, .int .i64 (Ev.put e).2]) ∧ RdI .u8 0 w'.heap.size w' (.slice o (Ev.put e).1.length c) (Ev.put e).1) ∧ Kp 0 0 W w') := fun W hW => (refPut_any e W _ (HD.out.keep0 hW) HF.out).mono fun r w' h => by
    obtain ⟨v, he, ho, hk⟩ := h
    obtain ⟨o, c, rfl, _, _, _⟩ := ho.rd.open
    exact ⟨⟨o, c, he, ho.rd.wide (Nat.zero_le _) (Nat.le_refl _)⟩, hk⟩
  have HG1 : Hid (∀ W, Kp 0 0 w W → Calls Try.prog 16 #[.slice bo B.length cb] W fun r w' => GotE W r w' (Ev.get B)) := fun W hW => HG _ _ B W _ (HBB.out.keep0 hW) HBY.out (by omega)
  have HG2 : Hid (∀ W, Kp 0 0 w W → Calls Try.prog 17 #[.slice bo B.length cb] W fun r w' => GotE W r w' (Ev.get B)) := fun W hW => refGetE_any B W _ (HBB.out.keep0 hW) (by omega) HBY.out
  generalize Ev.put e = pe at *
  obtain ⟨pb, er⟩ := pe
  generalize Ev.get B = ge at *
  obtain ⟨y, ey⟩ := ge
  simp only at HP1 HP2
  have hee : (er != er) = false := by simp
  have hyy : (ey == ey) = true := by simp
  go_enter Try.func4, Try.ntmps4
  go_wp2_with fail
  have d1 : decide ((200 : Int) < (e.d.length : Int)) = false := decide_eq_false (by omega)
  have d2 : decide ((4096 : Int) < (B.length : Int)) = false := decide_eq_false (by omega)
  try rw [d1, d2]
  clear d1 d2
  have HKA : Hid (Kp 0 0 w (w.alloc (.cells #[Value.int .i64 e.o, .int .i64 e.s, .int .i64 e.l, .slice ao e.d.length c, .int .i64 e.t, .int .i64 e.a, .int .i64 e.f, .int .i64 e.p, .int .i64 e.r, .int .i64 e.k] 26))) := (Kp.refl _ _ _).alloc _
  have HBA : Hid ((w.alloc (.cells #[Value.int .i64 e.o, .int .i64 e.s, .int .i64 e.l, .slice ao e.d.length c, .int .i64 e.t, .int .i64 e.a, .int .i64 e.f, .int .i64 e.p, .int .i64 e.r, .int .i64 e.k] 26)).heap[w.heap.size]? = some (.cells #[Value.int .i64 e.o, .int .i64 e.s, .int .i64 e.l, .slice ao e.d.length c, .int .i64 e.t, .int .i64 e.a, .int .i64 e.f, .int .i64 e.p, .int .i64 e.r, .int .i64 e.k] 26 (0, 0))) := heap_alloc_new w _
  generalize w.alloc (.cells #[Value.int .i64 e.o, .int .i64 e.s, .int .i64 e.l, .slice ao e.d.length c, .int .i64 e.t, .int .i64 e.a, .int .i64 e.f, .int .i64 e.p, .int .i64 e.r, .int .i64 e.k] 26) = wa at HKA HBA ⊢
  generalize w.heap.size = pa at HBA ⊢
  refine (HP1.out _ HKA.out).mono ?_
  rintro r w1 ⟨⟨o1, c1, rfl, hr⟩, hk⟩
  have HR1 := Lib.hid hr
  have hb1' := hk.heap HBA.out (.inr (Nat.zero_le _))
  have HK1 := Lib.hid (HKA.out.trans hk)
  clear hk hr
  obtain ⟨a0, _⟩ := rowE_cell hb1' (k := 0) (show 0 < 10 by decide)
  change _ = some (Value.int .i64 e.o) at a0
  obtain ⟨a1, _⟩ := rowE_cell hb1' (k := 1) (show 1 < 10 by decide)
  change _ = some (Value.int .i64 e.s) at a1
  obtain ⟨a2, _⟩ := rowE_cell hb1' (k := 2) (show 2 < 10 by decide)
  change _ = some (Value.int .i64 e.l) at a2
  obtain ⟨a3, _⟩ := rowE_cell hb1' (k := 3) (show 3 < 10 by decide)
  change _ = some (Value.slice ao e.d.length c) at a3
  obtain ⟨a4, _⟩ := rowE_cell hb1' (k := 4) (show 4 < 10 by decide)
  change _ = some (Value.int .i64 e.t) at a4
  obtain ⟨a5, _⟩ := rowE_cell hb1' (k := 5) (show 5 < 10 by decide)
  change _ = some (Value.int .i64 e.a) at a5
  obtain ⟨a6, _⟩ := rowE_cell hb1' (k := 6) (show 6 < 10 by decide)
  change _ = some (Value.int .i64 e.f) at a6
  obtain ⟨a7, _⟩ := rowE_cell hb1' (k := 7) (show 7 < 10 by decide)
  change _ = some (Value.int .i64 e.p) at a7
  obtain ⟨a8, _⟩ := rowE_cell hb1' (k := 8) (show 8 < 10 by decide)
  change _ = some (Value.int .i64 e.r) at a8
  obtain ⟨a9, _⟩ := rowE_cell hb1' (k := 9) (show 9 < 10 by decide)
  change _ = some (Value.int .i64 e.k) at a9
  clear hb1'
  go_wp2_with fail
  refine (HP2.out _ HK1.out).mono ?_
  rintro r w2 ⟨⟨o2, c2, rfl, hr⟩, hk⟩
  have HR2 := Lib.hid hr
  have HR1' := Lib.hid (HR1.out.keep0 hk)
  have HK2 := Lib.hid (HK1.out.trans hk)
  clear hk hr a0 a1 a2 a3 a4 a5 a6 a7 a8 a9
  go_wp2_with fail
  refine (same_yes _ _ _ pb HR1'.out HR2.out).mono ?_
  rintro r w3 ⟨rfl, hk⟩
  have HK3 := Lib.hid (HK2.out.trans hk)
  clear hk
  go_wp2_with fail
  refine (HG1.out _ HK3.out).mono ?_
  rintro r w4 ⟨dp, rfl, ho, hk⟩
  have HDP := Lib.hid (ho.rd.wide (Nat.zero_le _) (Nat.le_refl _))
  obtain ⟨op, cp, rfl, _, _, _⟩ := ho.rd.open
  have HK4 := Lib.hid (HK3.out.trans hk)
  clear hk ho
  unfold evV
  go_wp2_with fail
  have HBP : Hid ((w4.alloc (.cells #[Value.int .i64 y.o, .int .i64 y.s, .int .i64 y.l, .slice op y.d.length cp, .int .i64 y.t, .int .i64 y.a, .int .i64 y.f, .int .i64 y.p, .int .i64 y.r, .int .i64 y.k] 26)).heap[w4.heap.size]? = some (.cells #[Value.int .i64 y.o, .int .i64 y.s, .int .i64 y.l, .slice op y.d.length cp, .int .i64 y.t, .int .i64 y.a, .int .i64 y.f, .int .i64 y.p, .int .i64 y.r, .int .i64 y.k] 26 (0, 0))) := heap_alloc_new w4 _
  have HKP : Hid (Kp 0 0 w4 (w4.alloc (.cells #[Value.int .i64 y.o, .int .i64 y.s, .int .i64 y.l, .slice op y.d.length cp, .int .i64 y.t, .int .i64 y.a, .int .i64 y.f, .int .i64 y.p, .int .i64 y.r, .int .i64 y.k] 26))) := (Kp.refl _ _ _).alloc _
  generalize w4.alloc (.cells #[Value.int .i64 y.o, .int .i64 y.s, .int .i64 y.l, .slice op y.d.length cp, .int .i64 y.t, .int .i64 y.a, .int .i64 y.f, .int .i64 y.p, .int .i64 y.r, .int .i64 y.k] 26) = w5 at HBP HKP ⊢
  generalize w4.heap.size = pp at HBP ⊢
  have HK5 := Lib.hid (HK4.out.trans HKP.out)
  have HDP5 := Lib.hid (HDP.out.keep0 HKP.out)
  refine (HG2.out _ HK5.out).mono ?_
  rintro r w6 ⟨dq, rfl, ho, hk⟩
  have HDQ := Lib.hid (ho.rd.wide (Nat.zero_le _) (Nat.le_refl _))
  obtain ⟨oq, cq, rfl, _, _, _⟩ := ho.rd.open
  have HK6 := Lib.hid (HK5.out.trans hk)
  have HDP6 := Lib.hid (HDP5.out.keep0 hk)
  have HBP6 := Lib.hid (hk.heap HBP.out (.inr (Nat.zero_le _)))
  clear hk ho
  unfold evV
  have HKQ : Hid (Kp 0 0 w6 (w6.alloc (.cells #[Value.int .i64 y.o, .int .i64 y.s, .int .i64 y.l, .slice oq y.d.length cq, .int .i64 y.t, .int .i64 y.a, .int .i64 y.f, .int .i64 y.p, .int .i64 y.r, .int .i64 y.k] 26))) := (Kp.refl _ _ _).alloc _
  have hbp7 := HKQ.out.heap HBP6.out (.inr (Nat.zero_le _))
  obtain ⟨a0, _⟩ := rowE_cell hbp7 (k := 0) (show 0 < 10 by decide)
  change _ = some (Value.int .i64 y.o) at a0
  obtain ⟨a1, _⟩ := rowE_cell hbp7 (k := 1) (show 1 < 10 by decide)
  change _ = some (Value.int .i64 y.s) at a1
  obtain ⟨a2, _⟩ := rowE_cell hbp7 (k := 2) (show 2 < 10 by decide)
  change _ = some (Value.int .i64 y.l) at a2
  obtain ⟨a3, _⟩ := rowE_cell hbp7 (k := 3) (show 3 < 10 by decide)
  change _ = some (Value.slice op y.d.length cp) at a3
  obtain ⟨a4, _⟩ := rowE_cell hbp7 (k := 4) (show 4 < 10 by decide)
  change _ = some (Value.int .i64 y.t) at a4
  obtain ⟨a5, _⟩ := rowE_cell hbp7 (k := 5) (show 5 < 10 by decide)
  change _ = some (Value.int .i64 y.a) at a5
  obtain ⟨a6, _⟩ := rowE_cell hbp7 (k := 6) (show 6 < 10 by decide)
  change _ = some (Value.int .i64 y.f) at a6
  obtain ⟨a7, _⟩ := rowE_cell hbp7 (k := 7) (show 7 < 10 by decide)
  change _ = some (Value.int .i64 y.p) at a7
  obtain ⟨a8, _⟩ := rowE_cell hbp7 (k := 8) (show 8 < 10 by decide)
  change _ = some (Value.int .i64 y.r) at a8
  obtain ⟨a9, _⟩ := rowE_cell hbp7 (k := 9) (show 9 < 10 by decide)
  change _ = some (Value.int .i64 y.k) at a9
  clear hbp7
  go_wp2_with fail
  clear a0 a1 a2 a3 a4 a5 a6 a7 a8 a9
  generalize w6.alloc (.cells #[Value.int .i64 y.o, .int .i64 y.s, .int .i64 y.l, .slice oq y.d.length cq, .int .i64 y.t, .int .i64 y.a, .int .i64 y.f, .int .i64 y.p, .int .i64 y.r, .int .i64 y.k] 26) = w7 at HKQ ⊢
  have HK7 := Lib.hid (HK6.out.trans HKQ.out)
  have HDP7 := Lib.hid (HDP6.out.keep0 HKQ.out)
  have HDQ7 := Lib.hid (HDQ.out.keep0 HKQ.out)
  have HC3 : Hid (∀ W, Kp 0 0 w7 W → Calls Try.prog 12 #[.agg #[Value.int .i64 y.o, .int .i64 y.s, .int .i64 y.l, .slice op y.d.length cp, .int .i64 y.t, .int .i64 y.a, .int .i64 y.f, .int .i64 y.p, .int .i64 y.r, .int .i64 y.k], .agg #[Value.int .i64 y.o, .int .i64 y.s, .int .i64 y.l, .slice oq y.d.length cq, .int .i64 y.t, .int .i64 y.a, .int .i64 y.f, .int .i64 y.p, .int .i64 y.r, .int .i64 y.k]] W fun r w' => r = .returned (.bool true) ∧ Kp 0 0 w7 w') := fun W hW => (sameE_yes W y _ _ (HDP7.out.keep0 hW) (HDQ7.out.keep0 hW)).mono fun r w' h => ⟨h.1, hW.trans h.2⟩
  have HC4 : Hid (∀ W, Kp 0 0 w7 W → Calls Try.prog 8 #[] W fun r w' => r = .returned (.bool true) ∧ Kp 0 0 w7 w') := fun W hW => (eknown_any HC HP HG W).mono fun r w' h => ⟨h.1, hW.trans h.2⟩
  clear HBP6
  refine (HC3.out _ (Kp.refl 0 0 _)).mono ?_
  rintro r w8 ⟨rfl, hk⟩
  have HK78 := Lib.hid hk
  clear hk
  go_wp2_with fail
  refine (HC4.out _ HK78.out).mono ?_
  rintro r w9 ⟨rfl, hk8⟩
  have HK8 := Lib.hid (HK7.out.trans hk8)
  clear hk8
  go_wp2_with fail
  go_returns
  exact ⟨rfl, HK8.out⟩

end Go.Proofs.Ytnboeagallkooaa
