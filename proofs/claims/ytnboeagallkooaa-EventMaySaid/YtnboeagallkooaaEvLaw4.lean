/-
  EventMay as a contract.
-/
import Derived.Test.YtnboeagallkooaaEvSmall
import Derived.Test.YtnboeagallkooaaEv3
import Derived.Test.YtnboeagallkooaaPickI
import Derived.Deep.RegionHeld3
import Derived.Deep.Cut
namespace Go.Proofs.Ytnboeagallkooaa
open Go.RowKit

/-- An own row of ints, written at one place. -/
theorem own_set {lo hi g c : Nat} {w : World} {l : List Int} (h : OwnI .i64 3 lo hi w (.slice (some ⟨g, 0, none⟩) l.length c) l) {i : Nat} (hi' : i < l.length) (x : Int) :
    w.cell? ⟨g, i, none⟩ = some (.int .i64 (l.getD i 0)) ∧ w.frozen? ⟨g, i, none⟩ = false ∧ OwnI .i64 3 lo hi (w.setCell ⟨g, i, none⟩ (.int .i64 x)) (.slice (some ⟨g, 0, none⟩) l.length c) (l.set i x) ∧ lo ≤ g ∧ g < hi ∧ g < w.heap.size := by
  have hrd := h.rd
  obtain ⟨⟨h1, h2⟩, h3⟩ := h
  rcases h2 with ⟨hn, h0⟩ | ⟨g', cap, cur, hv, hb, hg, hn, hc, hs, ht⟩
  · cases hn
  · simp only [Value.slice.injEq, Option.some.injEq, Addr.mk.injEq] at hv
    obtain ⟨⟨rfl, _⟩, _, rfl⟩ := hv
    have hcl := rowE_cell hg (k := i) (by omega)
    obtain ⟨ao, c', hv', _, _, hcell⟩ := hrd.open
    simp only [Value.slice.injEq] at hv'
    obtain ⟨rfl, _, _⟩ := hv'
    obtain ⟨g2, o2, he2, _, _, hc2⟩ := hcell (by omega)
    simp only [Option.some.injEq, Addr.mk.injEq] at he2
    obtain ⟨rfl, rfl, _⟩ := he2
    have hci := hc2 i hi'
    rw [Nat.zero_add] at hci
    refine ⟨hci, hcl.2, ⟨⟨by simp, .inr ⟨g, c, cur.setIfInBounds i (.int .i64 x), by rw [List.length_set], hb, rowE_set hg i _, by rw [List.length_set]; exact hn, hc, by simpa using hs, ?_⟩⟩, fun k hk => h3 k hk⟩, hb, h3 g rfl, heap_lt hg⟩
    rw [List.length_set, Array.toList_setIfInBounds, List.take_set, ht, List.map_set]

set_option maxRecDepth 100000 in
set_option maxHeartbeats 4000000 in
theorem emay_any (HC : ECheckOk) (HP : EPutOk) (HG : EGetOk) {l1 h1 : Nat} (e : Evt) (k : Int) (w : World) (dv : Value) (hd : RdI .i64 l1 h1 w dv e.d) (he : Ev.Fits e) (hk0 : Ev.I64 k) :
    Calls Try.prog 6 #[evV e dv, .int .i64 k] w fun r w' => r = .returned (.bool true) ∧ Kp 0 0 w w' := by
  have HD := Lib.hid hd
  have HF := Lib.hid he
  have HKK := Lib.hid hk0
  obtain ⟨ao, c, rfl, hb1, hb2, _⟩ := hd.open
  clear hd he hk0
  unfold evV
  by_cases h64 : 64 < e.d.length
  · go_enter Try.func6, Try.ntmps6
    go_wp2_with fail
    refine (eknown_any HC HP HG _).mono ?_
    rintro r w1 ⟨rfl, hk⟩
    go_wp2_with fail
    go_returns
    exact ⟨rfl, ((Kp.refl _ _ _).alloc _).trans hk⟩
  have HC0 : Hid (∀ W n, Ev.I64 n → Kp 0 0 w W → Calls Try.prog 10 #[.agg #[Value.int .i64 e.o, .int .i64 e.s, .int .i64 e.l, .slice ao e.d.length c, .int .i64 e.t, .int .i64 e.a, .int .i64 e.f, .int .i64 e.p, .int .i64 e.r, .int .i64 e.k], .int .i64 n] W fun r w' => r = .returned (.int .i64 (Ev.check e n)) ∧ Kp 0 0 W w') := fun W n hn hW => (HC _ _ e n W _ (HD.out.keep0 hW) HF.out hn (by omega)).mono fun r w' h => ⟨h.1, h.2⟩
  go_enter Try.func6, Try.ntmps6
  go_wp2_with fail
  have d1 : decide ((64 : Int) < (e.d.length : Int)) = false := decide_eq_false (by omega)
  try rw [d1]
  clear d1
  have HKA : Hid (Kp 0 0 w (w.alloc (.cells #[Value.int .i64 e.o, .int .i64 e.s, .int .i64 e.l, .slice ao e.d.length c, .int .i64 e.t, .int .i64 e.a, .int .i64 e.f, .int .i64 e.p, .int .i64 e.r, .int .i64 e.k] 26))) := (Kp.refl _ _ _).alloc _
  have HBA : Hid ((w.alloc (.cells #[Value.int .i64 e.o, .int .i64 e.s, .int .i64 e.l, .slice ao e.d.length c, .int .i64 e.t, .int .i64 e.a, .int .i64 e.f, .int .i64 e.p, .int .i64 e.r, .int .i64 e.k] 26)).heap[w.heap.size]? = some (.cells #[Value.int .i64 e.o, .int .i64 e.s, .int .i64 e.l, .slice ao e.d.length c, .int .i64 e.t, .int .i64 e.a, .int .i64 e.f, .int .i64 e.p, .int .i64 e.r, .int .i64 e.k] 26 (0, 0))) := heap_alloc_new w _
  generalize w.alloc (.cells #[Value.int .i64 e.o, .int .i64 e.s, .int .i64 e.l, .slice ao e.d.length c, .int .i64 e.t, .int .i64 e.a, .int .i64 e.f, .int .i64 e.p, .int .i64 e.r, .int .i64 e.k] 26) = wa at HKA HBA ⊢
  generalize w.heap.size = pa at HBA ⊢
  refine (HC0.out _ (e.d.length : Int) ⟨by omega, by omega⟩ HKA.out).mono ?_
  rintro r w1 ⟨rfl, hk1⟩
  have HK1 := Lib.hid (HKA.out.trans hk1)
  have HW1 := Lib.hid hk1
  have HBK : Hid (∀ W, Kp 0 0 wa W → W.heap[pa]? = some (.cells #[Value.int .i64 e.o, .int .i64 e.s, .int .i64 e.l, .slice ao e.d.length c, .int .i64 e.t, .int .i64 e.a, .int .i64 e.f, .int .i64 e.p, .int .i64 e.r, .int .i64 e.k] 26 (0, 0))) := fun W hW => hW.heap HBA.out (.inr (Nat.zero_le _))
  have HPA : Hid (pa < wa.heap.size) := heap_lt HBA.out
  clear hk1
  by_cases hc : Ev.check e (e.d.length : Int) = 0
  · have hm := Ev.may_of hc
    have HM := Lib.hid hm
    rw [hc]
    clear hm hc
    have hb1' := HBK.out _ HW1.out
    obtain ⟨a0, _⟩ := rowE_cell hb1' (k := 0) (show 0 < 10 by decide)
    change _ = some (Value.int .i64 e.o) at a0
    obtain ⟨a1, _⟩ := rowE_cell hb1' (k := 1) (show 1 < 10 by decide)
    change _ = some (Value.int .i64 e.s) at a1
    obtain ⟨a2, _⟩ := rowE_cell hb1' (k := 2) (show 2 < 10 by decide)
    change _ = some (Value.int .i64 e.l) at a2
    obtain ⟨a3, _⟩ := rowE_cell hb1' (k := 3) (show 3 < 10 by decide)
    change _ = some (Value.slice ao e.d.length c) at a3
    obtain ⟨a4, _⟩ := rowE_cell hb1' (k := 4) (show 4 < 10 by decide)
    change _ = some (Value.int .i64 e.t) at a4
    obtain ⟨a5, _⟩ := rowE_cell hb1' (k := 5) (show 5 < 10 by decide)
    change _ = some (Value.int .i64 e.a) at a5
    obtain ⟨a6, _⟩ := rowE_cell hb1' (k := 6) (show 6 < 10 by decide)
    change _ = some (Value.int .i64 e.f) at a6
    obtain ⟨a7, _⟩ := rowE_cell hb1' (k := 7) (show 7 < 10 by decide)
    change _ = some (Value.int .i64 e.p) at a7
    obtain ⟨a8, _⟩ := rowE_cell hb1' (k := 8) (show 8 < 10 by decide)
    change _ = some (Value.int .i64 e.r) at a8
    obtain ⟨a9, _⟩ := rowE_cell hb1' (k := 9) (show 9 < 10 by decide)
    change _ = some (Value.int .i64 e.k) at a9
    clear hb1'
    go_wp2_with fail
    refine (HC0.out _ ((e.d.length : Int) + 1) ⟨by omega, by omega⟩ HK1.out).mono ?_
    rw [Ev.may_len HM.out (by omega)]
    rintro r w2 ⟨rfl, hk⟩
    have HW2 := Lib.hid (HW1.out.trans hk)
    have HK2 := Lib.hid (HK1.out.trans hk)
    clear hk a0 a1 a2 a3 a4 a5 a6 a7 a8 a9
    have hb1' := HBK.out _ HW2.out
    obtain ⟨a0, _⟩ := rowE_cell hb1' (k := 0) (show 0 < 10 by decide)
    change _ = some (Value.int .i64 e.o) at a0
    obtain ⟨a1, _⟩ := rowE_cell hb1' (k := 1) (show 1 < 10 by decide)
    change _ = some (Value.int .i64 e.s) at a1
    obtain ⟨a2, _⟩ := rowE_cell hb1' (k := 2) (show 2 < 10 by decide)
    change _ = some (Value.int .i64 e.l) at a2
    obtain ⟨a3, _⟩ := rowE_cell hb1' (k := 3) (show 3 < 10 by decide)
    change _ = some (Value.slice ao e.d.length c) at a3
    obtain ⟨a4, _⟩ := rowE_cell hb1' (k := 4) (show 4 < 10 by decide)
    change _ = some (Value.int .i64 e.t) at a4
    obtain ⟨a5, _⟩ := rowE_cell hb1' (k := 5) (show 5 < 10 by decide)
    change _ = some (Value.int .i64 e.a) at a5
    obtain ⟨a6, _⟩ := rowE_cell hb1' (k := 6) (show 6 < 10 by decide)
    change _ = some (Value.int .i64 e.f) at a6
    obtain ⟨a7, _⟩ := rowE_cell hb1' (k := 7) (show 7 < 10 by decide)
    change _ = some (Value.int .i64 e.p) at a7
    obtain ⟨a8, _⟩ := rowE_cell hb1' (k := 8) (show 8 < 10 by decide)
    change _ = some (Value.int .i64 e.r) at a8
    obtain ⟨a9, _⟩ := rowE_cell hb1' (k := 9) (show 9 < 10 by decide)
    change _ = some (Value.int .i64 e.k) at a9
    clear hb1'
    go_wp2_with fail
    refine (HC0.out _ ((e.d.length : Int) - 1) ⟨by omega, by omega⟩ HK2.out).mono ?_
    rw [Ev.may_len HM.out (by omega)]
    rintro r w3 ⟨rfl, hk⟩
    have HW3 := Lib.hid (HW2.out.trans hk)
    have HK3 := Lib.hid (HK2.out.trans hk)
    clear hk a0 a1 a2 a3 a4 a5 a6 a7 a8 a9
    have hb1' := HBK.out _ HW3.out
    obtain ⟨a0, _⟩ := rowE_cell hb1' (k := 0) (show 0 < 10 by decide)
    change _ = some (Value.int .i64 e.o) at a0
    obtain ⟨a1, _⟩ := rowE_cell hb1' (k := 1) (show 1 < 10 by decide)
    change _ = some (Value.int .i64 e.s) at a1
    obtain ⟨a2, _⟩ := rowE_cell hb1' (k := 2) (show 2 < 10 by decide)
    change _ = some (Value.int .i64 e.l) at a2
    obtain ⟨a3, _⟩ := rowE_cell hb1' (k := 3) (show 3 < 10 by decide)
    change _ = some (Value.slice ao e.d.length c) at a3
    obtain ⟨a4, _⟩ := rowE_cell hb1' (k := 4) (show 4 < 10 by decide)
    change _ = some (Value.int .i64 e.t) at a4
    obtain ⟨a5, _⟩ := rowE_cell hb1' (k := 5) (show 5 < 10 by decide)
    change _ = some (Value.int .i64 e.a) at a5
    obtain ⟨a6, _⟩ := rowE_cell hb1' (k := 6) (show 6 < 10 by decide)
    change _ = some (Value.int .i64 e.f) at a6
    obtain ⟨a7, _⟩ := rowE_cell hb1' (k := 7) (show 7 < 10 by decide)
    change _ = some (Value.int .i64 e.p) at a7
    obtain ⟨a8, _⟩ := rowE_cell hb1' (k := 8) (show 8 < 10 by decide)
    change _ = some (Value.int .i64 e.r) at a8
    obtain ⟨a9, _⟩ := rowE_cell hb1' (k := 9) (show 9 < 10 by decide)
    change _ = some (Value.int .i64 e.k) at a9
    clear hb1'
    go_upto_region 8 with fail
    clear a0 a1 a2 a3 a4 a5 a6 a7 a8 a9
    have HBa4 : Hid ((w3.alloc (.cells #[Value.int .i64 e.o, .int .i64 e.s, .int .i64 e.l, .slice ao e.d.length c, .int .i64 e.t, .int .i64 e.a, .int .i64 e.f, .int .i64 6, .int .i64 e.r, .int .i64 e.k] 26)).heap[w3.heap.size]? = some (.cells #[Value.int .i64 e.o, .int .i64 e.s, .int .i64 e.l, .slice ao e.d.length c, .int .i64 e.t, .int .i64 e.a, .int .i64 e.f, .int .i64 6, .int .i64 e.r, .int .i64 e.k] 26 (0, 0))) := heap_alloc_new w3 _
    have HN4 : Hid (Kp 0 0 w3 (w3.alloc (.cells #[Value.int .i64 e.o, .int .i64 e.s, .int .i64 e.l, .slice ao e.d.length c, .int .i64 e.t, .int .i64 e.a, .int .i64 e.f, .int .i64 6, .int .i64 e.r, .int .i64 e.k] 26))) := (Kp.refl _ _ _).alloc _
    generalize w3.alloc (.cells #[Value.int .i64 e.o, .int .i64 e.s, .int .i64 e.l, .slice ao e.d.length c, .int .i64 e.t, .int .i64 e.a, .int .i64 e.f, .int .i64 6, .int .i64 e.r, .int .i64 e.k] 26) = w4 at HBa4 HN4 ⊢
    generalize w3.heap.size = qa at HBa4 ⊢
    have HW4 := Lib.hid (HW3.out.trans HN4.out)
    have HK4 := Lib.hid (HK3.out.trans HN4.out)
    have hb1' := HBK.out _ HW4.out
    obtain ⟨a0, _⟩ := rowE_cell hb1' (k := 0) (show 0 < 10 by decide)
    change _ = some (Value.int .i64 e.o) at a0
    obtain ⟨a1, _⟩ := rowE_cell hb1' (k := 1) (show 1 < 10 by decide)
    change _ = some (Value.int .i64 e.s) at a1
    obtain ⟨a2, _⟩ := rowE_cell hb1' (k := 2) (show 2 < 10 by decide)
    change _ = some (Value.int .i64 e.l) at a2
    obtain ⟨a3, _⟩ := rowE_cell hb1' (k := 3) (show 3 < 10 by decide)
    change _ = some (Value.slice ao e.d.length c) at a3
    obtain ⟨a4, _⟩ := rowE_cell hb1' (k := 4) (show 4 < 10 by decide)
    change _ = some (Value.int .i64 e.t) at a4
    obtain ⟨a5, _⟩ := rowE_cell hb1' (k := 5) (show 5 < 10 by decide)
    change _ = some (Value.int .i64 e.a) at a5
    obtain ⟨a6, _⟩ := rowE_cell hb1' (k := 6) (show 6 < 10 by decide)
    change _ = some (Value.int .i64 e.f) at a6
    obtain ⟨a7, _⟩ := rowE_cell hb1' (k := 7) (show 7 < 10 by decide)
    change _ = some (Value.int .i64 e.p) at a7
    obtain ⟨a8, _⟩ := rowE_cell hb1' (k := 8) (show 8 < 10 by decide)
    change _ = some (Value.int .i64 e.r) at a8
    obtain ⟨a9, _⟩ := rowE_cell hb1' (k := 9) (show 9 < 10 by decide)
    change _ = some (Value.int .i64 e.k) at a9
    clear hb1'
    go_upto_region 10 with fail
    clear a0 a1 a2 a3 a4 a5 a6 a7 a8 a9
    have HBb5 : Hid ((w4.alloc (.cells #[Value.int .i64 e.o, .int .i64 e.s, .int .i64 e.l, .slice ao e.d.length c, .int .i64 8, .int .i64 e.a, .int .i64 e.f, .int .i64 e.p, .int .i64 e.r, .int .i64 e.k] 26)).heap[w4.heap.size]? = some (.cells #[Value.int .i64 e.o, .int .i64 e.s, .int .i64 e.l, .slice ao e.d.length c, .int .i64 8, .int .i64 e.a, .int .i64 e.f, .int .i64 e.p, .int .i64 e.r, .int .i64 e.k] 26 (0, 0))) := heap_alloc_new w4 _
    have HN5 : Hid (Kp 0 0 w4 (w4.alloc (.cells #[Value.int .i64 e.o, .int .i64 e.s, .int .i64 e.l, .slice ao e.d.length c, .int .i64 8, .int .i64 e.a, .int .i64 e.f, .int .i64 e.p, .int .i64 e.r, .int .i64 e.k] 26))) := (Kp.refl _ _ _).alloc _
    generalize w4.alloc (.cells #[Value.int .i64 e.o, .int .i64 e.s, .int .i64 e.l, .slice ao e.d.length c, .int .i64 8, .int .i64 e.a, .int .i64 e.f, .int .i64 e.p, .int .i64 e.r, .int .i64 e.k] 26) = w5 at HBb5 HN5 ⊢
    generalize w4.heap.size = qb at HBb5 ⊢
    have HW5 := Lib.hid (HW4.out.trans HN5.out)
    have HK5 := Lib.hid (HK4.out.trans HN5.out)
    have HBa5 := Lib.hid (HN5.out.heap HBa4.out (.inr (Nat.zero_le _)))
    have hb1' := HBK.out _ HW5.out
    obtain ⟨a0, _⟩ := rowE_cell hb1' (k := 0) (show 0 < 10 by decide)
    change _ = some (Value.int .i64 e.o) at a0
    obtain ⟨a1, _⟩ := rowE_cell hb1' (k := 1) (show 1 < 10 by decide)
    change _ = some (Value.int .i64 e.s) at a1
    obtain ⟨a2, _⟩ := rowE_cell hb1' (k := 2) (show 2 < 10 by decide)
    change _ = some (Value.int .i64 e.l) at a2
    obtain ⟨a3, _⟩ := rowE_cell hb1' (k := 3) (show 3 < 10 by decide)
    change _ = some (Value.slice ao e.d.length c) at a3
    obtain ⟨a4, _⟩ := rowE_cell hb1' (k := 4) (show 4 < 10 by decide)
    change _ = some (Value.int .i64 e.t) at a4
    obtain ⟨a5, _⟩ := rowE_cell hb1' (k := 5) (show 5 < 10 by decide)
    change _ = some (Value.int .i64 e.a) at a5
    obtain ⟨a6, _⟩ := rowE_cell hb1' (k := 6) (show 6 < 10 by decide)
    change _ = some (Value.int .i64 e.f) at a6
    obtain ⟨a7, _⟩ := rowE_cell hb1' (k := 7) (show 7 < 10 by decide)
    change _ = some (Value.int .i64 e.p) at a7
    obtain ⟨a8, _⟩ := rowE_cell hb1' (k := 8) (show 8 < 10 by decide)
    change _ = some (Value.int .i64 e.r) at a8
    obtain ⟨a9, _⟩ := rowE_cell hb1' (k := 9) (show 9 < 10 by decide)
    change _ = some (Value.int .i64 e.k) at a9
    clear hb1'
    go_upto_region 12 with fail
    clear a0 a1 a2 a3 a4 a5 a6 a7 a8 a9
    have HBc6 : Hid ((w5.alloc (.cells #[Value.int .i64 e.o, .int .i64 e.s, .int .i64 e.l, .slice ao e.d.length c, .int .i64 e.t, .int .i64 e.a, .int .i64 (-1), .int .i64 e.p, .int .i64 e.r, .int .i64 e.k] 26)).heap[w5.heap.size]? = some (.cells #[Value.int .i64 e.o, .int .i64 e.s, .int .i64 e.l, .slice ao e.d.length c, .int .i64 e.t, .int .i64 e.a, .int .i64 (-1), .int .i64 e.p, .int .i64 e.r, .int .i64 e.k] 26 (0, 0))) := heap_alloc_new w5 _
    have HN6 : Hid (Kp 0 0 w5 (w5.alloc (.cells #[Value.int .i64 e.o, .int .i64 e.s, .int .i64 e.l, .slice ao e.d.length c, .int .i64 e.t, .int .i64 e.a, .int .i64 (-1), .int .i64 e.p, .int .i64 e.r, .int .i64 e.k] 26))) := (Kp.refl _ _ _).alloc _
    generalize w5.alloc (.cells #[Value.int .i64 e.o, .int .i64 e.s, .int .i64 e.l, .slice ao e.d.length c, .int .i64 e.t, .int .i64 e.a, .int .i64 (-1), .int .i64 e.p, .int .i64 e.r, .int .i64 e.k] 26) = w6 at HBc6 HN6 ⊢
    generalize w5.heap.size = qc at HBc6 ⊢
    have HW6 := Lib.hid (HW5.out.trans HN6.out)
    have HK6 := Lib.hid (HK5.out.trans HN6.out)
    have HBa6 := Lib.hid (HN6.out.heap HBa5.out (.inr (Nat.zero_le _)))
    have HBb6 := Lib.hid (HN6.out.heap HBb5.out (.inr (Nat.zero_le _)))
    have hb1' := HBK.out _ HW6.out
    obtain ⟨a0, _⟩ := rowE_cell hb1' (k := 0) (show 0 < 10 by decide)
    change _ = some (Value.int .i64 e.o) at a0
    obtain ⟨a1, _⟩ := rowE_cell hb1' (k := 1) (show 1 < 10 by decide)
    change _ = some (Value.int .i64 e.s) at a1
    obtain ⟨a2, _⟩ := rowE_cell hb1' (k := 2) (show 2 < 10 by decide)
    change _ = some (Value.int .i64 e.l) at a2
    obtain ⟨a3, _⟩ := rowE_cell hb1' (k := 3) (show 3 < 10 by decide)
    change _ = some (Value.slice ao e.d.length c) at a3
    obtain ⟨a4, _⟩ := rowE_cell hb1' (k := 4) (show 4 < 10 by decide)
    change _ = some (Value.int .i64 e.t) at a4
    obtain ⟨a5, _⟩ := rowE_cell hb1' (k := 5) (show 5 < 10 by decide)
    change _ = some (Value.int .i64 e.a) at a5
    obtain ⟨a6, _⟩ := rowE_cell hb1' (k := 6) (show 6 < 10 by decide)
    change _ = some (Value.int .i64 e.f) at a6
    obtain ⟨a7, _⟩ := rowE_cell hb1' (k := 7) (show 7 < 10 by decide)
    change _ = some (Value.int .i64 e.p) at a7
    obtain ⟨a8, _⟩ := rowE_cell hb1' (k := 8) (show 8 < 10 by decide)
    change _ = some (Value.int .i64 e.r) at a8
    obtain ⟨a9, _⟩ := rowE_cell hb1' (k := 9) (show 9 < 10 by decide)
    change _ = some (Value.int .i64 e.k) at a9
    clear hb1'
    go_upto_region 14 with fail
    clear a0 a1 a2 a3 a4 a5 a6 a7 a8 a9
    have HBd7 : Hid ((w6.alloc (.cells #[Value.int .i64 e.o, .int .i64 e.s, .int .i64 0, .slice ao e.d.length c, .int .i64 e.t, .int .i64 e.a, .int .i64 e.f, .int .i64 e.p, .int .i64 e.r, .int .i64 e.k] 26)).heap[w6.heap.size]? = some (.cells #[Value.int .i64 e.o, .int .i64 e.s, .int .i64 0, .slice ao e.d.length c, .int .i64 e.t, .int .i64 e.a, .int .i64 e.f, .int .i64 e.p, .int .i64 e.r, .int .i64 e.k] 26 (0, 0))) := heap_alloc_new w6 _
    have HN7 : Hid (Kp 0 0 w6 (w6.alloc (.cells #[Value.int .i64 e.o, .int .i64 e.s, .int .i64 0, .slice ao e.d.length c, .int .i64 e.t, .int .i64 e.a, .int .i64 e.f, .int .i64 e.p, .int .i64 e.r, .int .i64 e.k] 26))) := (Kp.refl _ _ _).alloc _
    generalize w6.alloc (.cells #[Value.int .i64 e.o, .int .i64 e.s, .int .i64 0, .slice ao e.d.length c, .int .i64 e.t, .int .i64 e.a, .int .i64 e.f, .int .i64 e.p, .int .i64 e.r, .int .i64 e.k] 26) = w7 at HBd7 HN7 ⊢
    generalize w6.heap.size = qd at HBd7 ⊢
    have HW7 := Lib.hid (HW6.out.trans HN7.out)
    have HK7 := Lib.hid (HK6.out.trans HN7.out)
    have HBa7 := Lib.hid (HN7.out.heap HBa6.out (.inr (Nat.zero_le _)))
    have HBb7 := Lib.hid (HN7.out.heap HBb6.out (.inr (Nat.zero_le _)))
    have HBc7 := Lib.hid (HN7.out.heap HBc6.out (.inr (Nat.zero_le _)))
    have hb1' := HBK.out _ HW7.out
    obtain ⟨a0, _⟩ := rowE_cell hb1' (k := 0) (show 0 < 10 by decide)
    change _ = some (Value.int .i64 e.o) at a0
    obtain ⟨a1, _⟩ := rowE_cell hb1' (k := 1) (show 1 < 10 by decide)
    change _ = some (Value.int .i64 e.s) at a1
    obtain ⟨a2, _⟩ := rowE_cell hb1' (k := 2) (show 2 < 10 by decide)
    change _ = some (Value.int .i64 e.l) at a2
    obtain ⟨a3, _⟩ := rowE_cell hb1' (k := 3) (show 3 < 10 by decide)
    change _ = some (Value.slice ao e.d.length c) at a3
    obtain ⟨a4, _⟩ := rowE_cell hb1' (k := 4) (show 4 < 10 by decide)
    change _ = some (Value.int .i64 e.t) at a4
    obtain ⟨a5, _⟩ := rowE_cell hb1' (k := 5) (show 5 < 10 by decide)
    change _ = some (Value.int .i64 e.a) at a5
    obtain ⟨a6, _⟩ := rowE_cell hb1' (k := 6) (show 6 < 10 by decide)
    change _ = some (Value.int .i64 e.f) at a6
    obtain ⟨a7, _⟩ := rowE_cell hb1' (k := 7) (show 7 < 10 by decide)
    change _ = some (Value.int .i64 e.p) at a7
    obtain ⟨a8, _⟩ := rowE_cell hb1' (k := 8) (show 8 < 10 by decide)
    change _ = some (Value.int .i64 e.r) at a8
    obtain ⟨a9, _⟩ := rowE_cell hb1' (k := 9) (show 9 < 10 by decide)
    change _ = some (Value.int .i64 e.k) at a9
    clear hb1'
    have hO0 := HM.out.o0
    have hOn := HM.out.on
    obtain ⟨O, hO⟩ : ∃ O : Nat, e.o = (O : Int) := ⟨e.o.toNat, by omega⟩
    have hOl : O < e.d.length := by omega
    have HOE := Lib.hid hO
    have HCP : Hid (∀ W, Kp 0 0 w W → Calls Try.prog 9 #[.agg #[Value.int .i64 e.o, .int .i64 e.s, .int .i64 e.l, .slice ao e.d.length c, .int .i64 e.t, .int .i64 e.a, .int .i64 e.f, .int .i64 e.p, .int .i64 e.r, .int .i64 e.k]] W fun r w' => (∃ g c, r = .returned (.agg #[Value.int .i64 e.o, .int .i64 e.s, .int .i64 e.l, .slice (some ⟨g, 0, none⟩) e.d.length c, .int .i64 e.t, .int .i64 e.a, .int .i64 e.f, .int .i64 e.p, .int .i64 e.r, .int .i64 e.k]) ∧ OwnI .i64 3 W.heap.size w'.heap.size w' (.slice (some ⟨g, 0, none⟩) e.d.length c) e.d) ∧ Kp 0 0 W w') := fun W hW => (copyE_any W e _ (HD.out.keep0 hW) (by omega)).mono fun r w' h => by
      obtain ⟨dv, he, ho, hk⟩ := h
      obtain ⟨g, c, rfl, _, _⟩ := own_some ho.1 (by omega)
      exact ⟨⟨g, c, he, ho⟩, hk⟩
    clear hO hO0 hOn
    go_wp2_with fail
    refine (HCP.out _ HK7.out).mono ?_
    rintro r w8 ⟨⟨gf, cf, rfl, ho⟩, hk⟩
    have HW8 := Lib.hid (HW7.out.trans hk)
    have HK8 := Lib.hid (HK7.out.trans hk)
    have HOF8 := Lib.hid ho
    have HSF : Hid (w7.heap.size ≤ gf ∧ gf < w8.heap.size ∧ wa.heap.size ≤ w7.heap.size) := by
      have h := own_set ho (i := O) hOl 0
      exact ⟨h.2.2.2.1, h.2.2.2.2.1, HW7.out.size⟩
    have HBa8 := Lib.hid ((hk).heap HBa7.out (.inr (Nat.zero_le _)))
    have HBb8 := Lib.hid ((hk).heap HBb7.out (.inr (Nat.zero_le _)))
    have HBc8 := Lib.hid ((hk).heap HBc7.out (.inr (Nat.zero_le _)))
    have HBd8 := Lib.hid ((hk).heap HBd7.out (.inr (Nat.zero_le _)))
    clear hk ho a0 a1 a2 a3 a4 a5 a6 a7 a8 a9
    go_upto_region 15 with fail
    have HBf9 : Hid ((w8.alloc (.cells #[Value.int .i64 e.o, .int .i64 e.s, .int .i64 e.l, .slice (some ⟨gf, 0, none⟩) e.d.length cf, .int .i64 e.t, .int .i64 e.a, .int .i64 e.f, .int .i64 e.p, .int .i64 e.r, .int .i64 e.k] 26)).heap[w8.heap.size]? = some (.cells #[Value.int .i64 e.o, .int .i64 e.s, .int .i64 e.l, .slice (some ⟨gf, 0, none⟩) e.d.length cf, .int .i64 e.t, .int .i64 e.a, .int .i64 e.f, .int .i64 e.p, .int .i64 e.r, .int .i64 e.k] 26 (0, 0))) := heap_alloc_new w8 _
    have HN9 : Hid (Kp 0 0 w8 (w8.alloc (.cells #[Value.int .i64 e.o, .int .i64 e.s, .int .i64 e.l, .slice (some ⟨gf, 0, none⟩) e.d.length cf, .int .i64 e.t, .int .i64 e.a, .int .i64 e.f, .int .i64 e.p, .int .i64 e.r, .int .i64 e.k] 26))) := (Kp.refl _ _ _).alloc _
    generalize w8.alloc (.cells #[Value.int .i64 e.o, .int .i64 e.s, .int .i64 e.l, .slice (some ⟨gf, 0, none⟩) e.d.length cf, .int .i64 e.t, .int .i64 e.a, .int .i64 e.f, .int .i64 e.p, .int .i64 e.r, .int .i64 e.k] 26) = w9 at HBf9 HN9 ⊢
    generalize hqf : w8.heap.size = qf at HBf9 ⊢
    have HQF := Lib.hid hqf
    clear hqf
    have HW9 := Lib.hid (HW8.out.trans HN9.out)
    have HK9 := Lib.hid (HK8.out.trans HN9.out)
    have HOF9 := Lib.hid (HOF8.out.keep0 HN9.out)
    have HBa9 := Lib.hid ((HN9.out).heap HBa8.out (.inr (Nat.zero_le _)))
    have HBb9 := Lib.hid ((HN9.out).heap HBb8.out (.inr (Nat.zero_le _)))
    have HBc9 := Lib.hid ((HN9.out).heap HBc8.out (.inr (Nat.zero_le _)))
    have HBd9 := Lib.hid ((HN9.out).heap HBd8.out (.inr (Nat.zero_le _)))
    have hb1' := HBK.out _ HW9.out
    obtain ⟨a0, _⟩ := rowE_cell hb1' (k := 0) (show 0 < 10 by decide)
    change _ = some (Value.int .i64 e.o) at a0
    rw [HOE.out] at a0
    obtain ⟨a1, _⟩ := rowE_cell hb1' (k := 1) (show 1 < 10 by decide)
    change _ = some (Value.int .i64 e.s) at a1
    obtain ⟨f3, _⟩ := rowE_cell HBf9.out (k := 3) (show 3 < 10 by decide)
    change _ = some (Value.slice (some ⟨gf, 0, none⟩) e.d.length cf) at f3
    obtain ⟨s1, s2, s3, s4, s5, s6⟩ := own_set HOF9.out (i := O) hOl e.s
    have HOF10 := Lib.hid s3
    have HN10 : Hid (Kp gf (gf + 1) w9 (w9.setCell ⟨gf, O, none⟩ (.int .i64 e.s))) := Kp.setCell (p := ⟨gf, O, none⟩) (Kp.refl _ _ _) (.inr ⟨Nat.le_refl _, Nat.lt_succ_self _⟩) _
    have O0 : (0 : Int) ≤ (O : Int) := Int.natCast_nonneg _
    have O1 : (O : Int) < (e.d.length : Int) := by omega
    clear hb1' s3 s4 s5 s6
    go_upto_region 16 with fail
    clear a0 a1 f3 s1 s2
    have HBa10 := Lib.hid (HN10.out.heap HBa9.out (.inl (by have := HSF.out; have := heap_lt HBa7.out; omega)))
    have HBb10 := Lib.hid (HN10.out.heap HBb9.out (.inl (by have := HSF.out; have := heap_lt HBb7.out; omega)))
    have HBc10 := Lib.hid (HN10.out.heap HBc9.out (.inl (by have := HSF.out; have := heap_lt HBc7.out; omega)))
    have HBd10 := Lib.hid (HN10.out.heap HBd9.out (.inl (by have := HSF.out; have := heap_lt HBd7.out; omega)))
    have HBf10 := Lib.hid (HN10.out.heap HBf9.out (.inr (by have := HSF.out; have := HQF.out; omega)))
    have HW10 : Hid (Kp 0 0 wa (w9.setCell ⟨gf, O, none⟩ (.int .i64 e.s))) := HW9.out.step HN10.out fun j h1 h2 => .inl (by have := HSF.out; omega)
    have HK10 : Hid (Kp 0 0 w (w9.setCell ⟨gf, O, none⟩ (.int .i64 e.s))) := HK9.out.step HN10.out fun j h1 h2 => .inl (by have := HSF.out; have := HKA.out.size; omega)
    generalize w9.setCell ⟨gf, O, none⟩ (.int .i64 e.s) = w10 at HOF10 HN10 HBa10 HBb10 HBc10 HBd10 HBf10 HW10 HK10 ⊢
    have hb1' := HBK.out _ HW10.out
    obtain ⟨a0, _⟩ := rowE_cell hb1' (k := 0) (show 0 < 10 by decide)
    change _ = some (Value.int .i64 e.o) at a0
    obtain ⟨a1, _⟩ := rowE_cell hb1' (k := 1) (show 1 < 10 by decide)
    change _ = some (Value.int .i64 e.s) at a1
    obtain ⟨a2, _⟩ := rowE_cell hb1' (k := 2) (show 2 < 10 by decide)
    change _ = some (Value.int .i64 e.l) at a2
    obtain ⟨a3, _⟩ := rowE_cell hb1' (k := 3) (show 3 < 10 by decide)
    change _ = some (Value.slice ao e.d.length c) at a3
    obtain ⟨a4, _⟩ := rowE_cell hb1' (k := 4) (show 4 < 10 by decide)
    change _ = some (Value.int .i64 e.t) at a4
    obtain ⟨a5, _⟩ := rowE_cell hb1' (k := 5) (show 5 < 10 by decide)
    change _ = some (Value.int .i64 e.a) at a5
    obtain ⟨a6, _⟩ := rowE_cell hb1' (k := 6) (show 6 < 10 by decide)
    change _ = some (Value.int .i64 e.f) at a6
    obtain ⟨a7, _⟩ := rowE_cell hb1' (k := 7) (show 7 < 10 by decide)
    change _ = some (Value.int .i64 e.p) at a7
    obtain ⟨a8, _⟩ := rowE_cell hb1' (k := 8) (show 8 < 10 by decide)
    change _ = some (Value.int .i64 e.r) at a8
    obtain ⟨a9, _⟩ := rowE_cell hb1' (k := 9) (show 9 < 10 by decide)
    change _ = some (Value.int .i64 e.k) at a9
    clear hb1'
    go_wp2_with fail
    refine (HCP.out _ HK10.out).mono ?_
    rintro r w11 ⟨⟨gg, cg, rfl, ho⟩, hk⟩
    have HW11 := Lib.hid (HW10.out.trans hk)
    have HK11 := Lib.hid (HK10.out.trans hk)
    have HOG11 := Lib.hid ho
    have HSG : Hid (w10.heap.size ≤ gg ∧ gg < w11.heap.size ∧ wa.heap.size ≤ w10.heap.size) := by
      have h := own_set ho (i := O) hOl 0
      exact ⟨h.2.2.2.1, h.2.2.2.2.1, HW10.out.size⟩
    have HOF11 := Lib.hid ((HOF10.out.there).keep0 hk)
    have HBa11 := Lib.hid ((hk).heap HBa10.out (.inr (Nat.zero_le _)))
    have HBb11 := Lib.hid ((hk).heap HBb10.out (.inr (Nat.zero_le _)))
    have HBc11 := Lib.hid ((hk).heap HBc10.out (.inr (Nat.zero_le _)))
    have HBd11 := Lib.hid ((hk).heap HBd10.out (.inr (Nat.zero_le _)))
    have HBf11 := Lib.hid ((hk).heap HBf10.out (.inr (Nat.zero_le _)))
    clear hk ho a0 a1 a2 a3 a4 a5 a6 a7 a8 a9
    go_upto_region 17 with fail
    have HBg12 : Hid ((w11.alloc (.cells #[Value.int .i64 e.o, .int .i64 e.s, .int .i64 e.l, .slice (some ⟨gg, 0, none⟩) e.d.length cg, .int .i64 e.t, .int .i64 e.a, .int .i64 e.f, .int .i64 e.p, .int .i64 e.r, .int .i64 e.k] 26)).heap[w11.heap.size]? = some (.cells #[Value.int .i64 e.o, .int .i64 e.s, .int .i64 e.l, .slice (some ⟨gg, 0, none⟩) e.d.length cg, .int .i64 e.t, .int .i64 e.a, .int .i64 e.f, .int .i64 e.p, .int .i64 e.r, .int .i64 e.k] 26 (0, 0))) := heap_alloc_new w11 _
    have HN12 : Hid (Kp 0 0 w11 (w11.alloc (.cells #[Value.int .i64 e.o, .int .i64 e.s, .int .i64 e.l, .slice (some ⟨gg, 0, none⟩) e.d.length cg, .int .i64 e.t, .int .i64 e.a, .int .i64 e.f, .int .i64 e.p, .int .i64 e.r, .int .i64 e.k] 26))) := (Kp.refl _ _ _).alloc _
    generalize w11.alloc (.cells #[Value.int .i64 e.o, .int .i64 e.s, .int .i64 e.l, .slice (some ⟨gg, 0, none⟩) e.d.length cg, .int .i64 e.t, .int .i64 e.a, .int .i64 e.f, .int .i64 e.p, .int .i64 e.r, .int .i64 e.k] 26) = w12 at HBg12 HN12 ⊢
    generalize hqg : w11.heap.size = qg at HBg12 ⊢
    have HQG := Lib.hid hqg
    clear hqg
    have HW12 := Lib.hid (HW11.out.trans HN12.out)
    have HK12 := Lib.hid (HK11.out.trans HN12.out)
    have HOG12 := Lib.hid (HOG11.out.keep0 HN12.out)
    have HOF12 := Lib.hid (HOF11.out.keep0 HN12.out)
    have HBa12 := Lib.hid ((HN12.out).heap HBa11.out (.inr (Nat.zero_le _)))
    have HBb12 := Lib.hid ((HN12.out).heap HBb11.out (.inr (Nat.zero_le _)))
    have HBc12 := Lib.hid ((HN12.out).heap HBc11.out (.inr (Nat.zero_le _)))
    have HBd12 := Lib.hid ((HN12.out).heap HBd11.out (.inr (Nat.zero_le _)))
    have HBf12 := Lib.hid ((HN12.out).heap HBf11.out (.inr (Nat.zero_le _)))
    have hpk := pick_range (k := k) (n := (e.d.length : Int)) (by omega)
    have HPK : Hid (∀ W, Calls Try.prog 18 #[.int .i64 k, .int .i64 (e.d.length : Int)] W fun r w' => r = .returned (.int .i64 (pick k (e.d.length : Int))) ∧ W = w') := fun W => pick_any k _ W HKK.out.1 HKK.out.2 (by omega)
    generalize pick k (e.d.length : Int) = pk at hpk HPK
    obtain ⟨P, rfl⟩ : ∃ P : Nat, pk = (P : Int) := ⟨pk.toNat, by omega⟩
    have hPl : P < e.d.length := by omega
    have P0 : (0 : Int) ≤ (P : Int) := Int.natCast_nonneg _
    have P1 : (P : Int) < (e.d.length : Int) := by omega
    clear hpk
    have HD12 : Hid (Kp 0 0 w12 w12.drew) := (Kp.refl _ _ _).drew
    obtain ⟨f3, _⟩ := rowE_cell (HD12.out.heap HBg12.out (.inr (Nat.zero_le _))) (k := 3) (show 3 < 10 by decide)
    change _ = some (Value.slice (some ⟨gg, 0, none⟩) e.d.length cg) at f3
    obtain ⟨s1, s2, s3, s4, s5, s6⟩ := own_set (HOG12.out.keep0 HD12.out) (i := P) hPl (-1)
    have HOG13 := Lib.hid s3
    have HN13 : Hid (Kp gg (gg + 1) w12.drew (w12.drew.setCell ⟨gg, P, none⟩ (.int .i64 (-1)))) := Kp.setCell (p := ⟨gg, P, none⟩) (Kp.refl _ _ _) (.inr ⟨Nat.le_refl _, Nat.lt_succ_self _⟩) _
    have HGQ : Hid (gg + 1 ≤ qg ∧ pa < gg ∧ qa < gg ∧ qb < gg ∧ qc < gg ∧ qd < gg ∧ qf < gg ∧ gf < gg ∧ wa.heap.size ≤ gg) := by
      have h1 := HSG.out
      have h2 := HQG.out
      have h3 := HPA.out
      have h4 := heap_lt HBa10.out
      have h5 := heap_lt HBb10.out
      have h6 := heap_lt HBc10.out
      have h7 := heap_lt HBd10.out
      have h8 := heap_lt HBf10.out
      have h9 := HSF.out
      have h10 := HQF.out
      refine ⟨by omega, by omega, by omega, by omega, by omega, by omega, by omega, by omega, by omega⟩
    clear s3 s4 s5 s6
    go_region_held3 (fun w' => w'.cell? ⟨qg, 3, none⟩ = some (Value.slice (some ⟨gg, 0, none⟩) e.d.length cg))
      (first | exact f3 | exact HN13.out.cell f3 (.inr HGQ.out.1))
      ((first
        | (go_at_call 18
           refine (HPK.out _).mono ?_
           rintro r w13 ⟨rfl, rfl⟩)))
    have HN14 : Hid (Kp gg (gg + 1) w12 (w12.setCell ⟨gg, P, none⟩ (.int .i64 (-1))).drew) := (Kp.setCell (p := ⟨gg, P, none⟩) (Kp.refl _ _ _) (.inr ⟨Nat.le_refl _, Nat.lt_succ_self _⟩) _).drew
    have HOG14 : Hid (OwnI .i64 3 w10.heap.size w11.heap.size (w12.setCell ⟨gg, P, none⟩ (.int .i64 (-1))).drew (.slice (some ⟨gg, 0, none⟩) e.d.length cg) (e.d.set P (-1))) := ((own_set HOG12.out (i := P) hPl (-1)).2.2.1).keep0 ((Kp.refl 0 0 _).drew)
    have HOF14 := Lib.hid (HOF12.out.keep HN14.out fun b h1 h2 => .inl (by have := HSG.out; omega))
    have HW14 : Hid (Kp 0 0 wa (w12.setCell ⟨gg, P, none⟩ (.int .i64 (-1))).drew) := HW12.out.step HN14.out fun j h1 h2 => .inl (by have := HGQ.out; omega)
    have HK14 : Hid (Kp 0 0 w (w12.setCell ⟨gg, P, none⟩ (.int .i64 (-1))).drew) := HK12.out.step HN14.out fun j h1 h2 => .inl (by have := HGQ.out; have := HKA.out.size; omega)
    have HBa14 := Lib.hid (HN14.out.heap HBa12.out (.inl (by have := HGQ.out; omega)))
    have HBb14 := Lib.hid (HN14.out.heap HBb12.out (.inl (by have := HGQ.out; omega)))
    have HBc14 := Lib.hid (HN14.out.heap HBc12.out (.inl (by have := HGQ.out; omega)))
    have HBd14 := Lib.hid (HN14.out.heap HBd12.out (.inl (by have := HGQ.out; omega)))
    have HBf14 := Lib.hid (HN14.out.heap HBf12.out (.inl (by have := HGQ.out; omega)))
    have HBg14 := Lib.hid (HN14.out.heap HBg12.out (.inr HGQ.out.1))
    have HRF14 := Lib.hid HOF14.out.rd
    have HRG14 := Lib.hid HOG14.out.rd
    have hset : e.d.set e.o.toNat e.s = e.d.set O e.s := by rw [HOE.out, Int.toNat_natCast]
    have Va := Ev.may_p HM.out
    have Vb := Ev.may_t HM.out
    have Vc := Ev.may_f HM.out
    have Vd := Ev.may_l HM.out
    have Vf := Ev.may_d HM.out
    rw [hset] at Vf
    have Vg := Ev.may_g HM.out hPl
    have HVA := Lib.hid Va
    have HVB := Lib.hid Vb
    have HVC := Lib.hid Vc
    have HVD := Lib.hid Vd
    have HVF := Lib.hid Vf
    have HVG := Lib.hid Vg
    have IS := HF.out.s
    clear Va Vb Vc Vd Vf Vg hset s1 s2 f3 HOF14 HOG14 HOG13 HN13
    generalize (w12.setCell ⟨gg, P, none⟩ (.int .i64 (-1))).drew = v0 at HW14 HK14 HBa14 HBb14 HBc14 HBd14 HBf14 HBg14 HRF14 HRG14 ⊢
    have HV0 : Hid (Kp 0 0 v0 v0) := Kp.refl _ _ _
    have hb1' := HV0.out.heap HBa14.out (.inr (Nat.zero_le _))
    obtain ⟨a0, _⟩ := rowE_cell hb1' (k := 0) (show 0 < 10 by decide)
    change _ = some (Value.int .i64 e.o) at a0
    obtain ⟨a1, _⟩ := rowE_cell hb1' (k := 1) (show 1 < 10 by decide)
    change _ = some (Value.int .i64 e.s) at a1
    obtain ⟨a2, _⟩ := rowE_cell hb1' (k := 2) (show 2 < 10 by decide)
    change _ = some (Value.int .i64 e.l) at a2
    obtain ⟨a3, _⟩ := rowE_cell hb1' (k := 3) (show 3 < 10 by decide)
    change _ = some (Value.slice ao e.d.length c) at a3
    obtain ⟨a4, _⟩ := rowE_cell hb1' (k := 4) (show 4 < 10 by decide)
    change _ = some (Value.int .i64 e.t) at a4
    obtain ⟨a5, _⟩ := rowE_cell hb1' (k := 5) (show 5 < 10 by decide)
    change _ = some (Value.int .i64 e.a) at a5
    obtain ⟨a6, _⟩ := rowE_cell hb1' (k := 6) (show 6 < 10 by decide)
    change _ = some (Value.int .i64 e.f) at a6
    obtain ⟨a7, _⟩ := rowE_cell hb1' (k := 7) (show 7 < 10 by decide)
    change _ = some (Value.int .i64 6) at a7
    obtain ⟨a8, _⟩ := rowE_cell hb1' (k := 8) (show 8 < 10 by decide)
    change _ = some (Value.int .i64 e.r) at a8
    obtain ⟨a9, _⟩ := rowE_cell hb1' (k := 9) (show 9 < 10 by decide)
    change _ = some (Value.int .i64 e.k) at a9
    clear hb1'
    go_wp2_with fail
    have hm0 := HC _ _ { e with p := 6 } (e.d.length : Int) v0 _ (HD.out.keep0 (HK14.out.trans HV0.out)) { HF.out with p := (show Ev.I64 6 from ⟨by decide, by decide⟩) } ⟨by omega, by omega⟩ (by first | (simp only [List.length_set]; omega) | (show e.d.length ≤ 1000000; omega))
    rw [HVA.out] at hm0
    refine hm0.mono ?_
    clear hm0 a0 a1 a2 a3 a4 a5 a6 a7 a8 a9
    rintro r v1 ⟨rfl, hk⟩
    have HV1 := Lib.hid (HV0.out.trans hk)
    clear hk
    have hb1' := HV1.out.heap HBb14.out (.inr (Nat.zero_le _))
    obtain ⟨a0, _⟩ := rowE_cell hb1' (k := 0) (show 0 < 10 by decide)
    change _ = some (Value.int .i64 e.o) at a0
    obtain ⟨a1, _⟩ := rowE_cell hb1' (k := 1) (show 1 < 10 by decide)
    change _ = some (Value.int .i64 e.s) at a1
    obtain ⟨a2, _⟩ := rowE_cell hb1' (k := 2) (show 2 < 10 by decide)
    change _ = some (Value.int .i64 e.l) at a2
    obtain ⟨a3, _⟩ := rowE_cell hb1' (k := 3) (show 3 < 10 by decide)
    change _ = some (Value.slice ao e.d.length c) at a3
    obtain ⟨a4, _⟩ := rowE_cell hb1' (k := 4) (show 4 < 10 by decide)
    change _ = some (Value.int .i64 8) at a4
    obtain ⟨a5, _⟩ := rowE_cell hb1' (k := 5) (show 5 < 10 by decide)
    change _ = some (Value.int .i64 e.a) at a5
    obtain ⟨a6, _⟩ := rowE_cell hb1' (k := 6) (show 6 < 10 by decide)
    change _ = some (Value.int .i64 e.f) at a6
    obtain ⟨a7, _⟩ := rowE_cell hb1' (k := 7) (show 7 < 10 by decide)
    change _ = some (Value.int .i64 e.p) at a7
    obtain ⟨a8, _⟩ := rowE_cell hb1' (k := 8) (show 8 < 10 by decide)
    change _ = some (Value.int .i64 e.r) at a8
    obtain ⟨a9, _⟩ := rowE_cell hb1' (k := 9) (show 9 < 10 by decide)
    change _ = some (Value.int .i64 e.k) at a9
    clear hb1'
    go_wp2_with fail
    have hm1 := HC _ _ { e with t := 8 } (e.d.length : Int) v1 _ (HD.out.keep0 (HK14.out.trans HV1.out)) { HF.out with t := (show Ev.I64 8 from ⟨by decide, by decide⟩) } ⟨by omega, by omega⟩ (by first | (simp only [List.length_set]; omega) | (show e.d.length ≤ 1000000; omega))
    rw [HVB.out] at hm1
    refine hm1.mono ?_
    clear hm1 a0 a1 a2 a3 a4 a5 a6 a7 a8 a9
    rintro r v2 ⟨rfl, hk⟩
    have HV2 := Lib.hid (HV1.out.trans hk)
    clear hk
    have hb1' := HV2.out.heap HBc14.out (.inr (Nat.zero_le _))
    obtain ⟨a0, _⟩ := rowE_cell hb1' (k := 0) (show 0 < 10 by decide)
    change _ = some (Value.int .i64 e.o) at a0
    obtain ⟨a1, _⟩ := rowE_cell hb1' (k := 1) (show 1 < 10 by decide)
    change _ = some (Value.int .i64 e.s) at a1
    obtain ⟨a2, _⟩ := rowE_cell hb1' (k := 2) (show 2 < 10 by decide)
    change _ = some (Value.int .i64 e.l) at a2
    obtain ⟨a3, _⟩ := rowE_cell hb1' (k := 3) (show 3 < 10 by decide)
    change _ = some (Value.slice ao e.d.length c) at a3
    obtain ⟨a4, _⟩ := rowE_cell hb1' (k := 4) (show 4 < 10 by decide)
    change _ = some (Value.int .i64 e.t) at a4
    obtain ⟨a5, _⟩ := rowE_cell hb1' (k := 5) (show 5 < 10 by decide)
    change _ = some (Value.int .i64 e.a) at a5
    obtain ⟨a6, _⟩ := rowE_cell hb1' (k := 6) (show 6 < 10 by decide)
    change _ = some (Value.int .i64 (-1)) at a6
    obtain ⟨a7, _⟩ := rowE_cell hb1' (k := 7) (show 7 < 10 by decide)
    change _ = some (Value.int .i64 e.p) at a7
    obtain ⟨a8, _⟩ := rowE_cell hb1' (k := 8) (show 8 < 10 by decide)
    change _ = some (Value.int .i64 e.r) at a8
    obtain ⟨a9, _⟩ := rowE_cell hb1' (k := 9) (show 9 < 10 by decide)
    change _ = some (Value.int .i64 e.k) at a9
    clear hb1'
    go_wp2_with fail
    have hm2 := HC _ _ { e with f := -1 } (e.d.length : Int) v2 _ (HD.out.keep0 (HK14.out.trans HV2.out)) { HF.out with f := (show Ev.I64 (-1) from ⟨by decide, by decide⟩) } ⟨by omega, by omega⟩ (by first | (simp only [List.length_set]; omega) | (show e.d.length ≤ 1000000; omega))
    rw [HVC.out] at hm2
    refine hm2.mono ?_
    clear hm2 a0 a1 a2 a3 a4 a5 a6 a7 a8 a9
    rintro r v3 ⟨rfl, hk⟩
    have HV3 := Lib.hid (HV2.out.trans hk)
    clear hk
    have hb1' := HV3.out.heap HBd14.out (.inr (Nat.zero_le _))
    obtain ⟨a0, _⟩ := rowE_cell hb1' (k := 0) (show 0 < 10 by decide)
    change _ = some (Value.int .i64 e.o) at a0
    obtain ⟨a1, _⟩ := rowE_cell hb1' (k := 1) (show 1 < 10 by decide)
    change _ = some (Value.int .i64 e.s) at a1
    obtain ⟨a2, _⟩ := rowE_cell hb1' (k := 2) (show 2 < 10 by decide)
    change _ = some (Value.int .i64 0) at a2
    obtain ⟨a3, _⟩ := rowE_cell hb1' (k := 3) (show 3 < 10 by decide)
    change _ = some (Value.slice ao e.d.length c) at a3
    obtain ⟨a4, _⟩ := rowE_cell hb1' (k := 4) (show 4 < 10 by decide)
    change _ = some (Value.int .i64 e.t) at a4
    obtain ⟨a5, _⟩ := rowE_cell hb1' (k := 5) (show 5 < 10 by decide)
    change _ = some (Value.int .i64 e.a) at a5
    obtain ⟨a6, _⟩ := rowE_cell hb1' (k := 6) (show 6 < 10 by decide)
    change _ = some (Value.int .i64 e.f) at a6
    obtain ⟨a7, _⟩ := rowE_cell hb1' (k := 7) (show 7 < 10 by decide)
    change _ = some (Value.int .i64 e.p) at a7
    obtain ⟨a8, _⟩ := rowE_cell hb1' (k := 8) (show 8 < 10 by decide)
    change _ = some (Value.int .i64 e.r) at a8
    obtain ⟨a9, _⟩ := rowE_cell hb1' (k := 9) (show 9 < 10 by decide)
    change _ = some (Value.int .i64 e.k) at a9
    clear hb1'
    go_wp2_with fail
    have hm3 := HC _ _ { e with l := 0 } (e.d.length : Int) v3 _ (HD.out.keep0 (HK14.out.trans HV3.out)) { HF.out with l := (show Ev.I64 0 from ⟨by decide, by decide⟩) } ⟨by omega, by omega⟩ (by first | (simp only [List.length_set]; omega) | (show e.d.length ≤ 1000000; omega))
    rw [HVD.out] at hm3
    refine hm3.mono ?_
    clear hm3 a0 a1 a2 a3 a4 a5 a6 a7 a8 a9
    rintro r v4 ⟨rfl, hk⟩
    have HV4 := Lib.hid (HV3.out.trans hk)
    clear hk
    have hb1' := HV4.out.heap HBf14.out (.inr (Nat.zero_le _))
    obtain ⟨a0, _⟩ := rowE_cell hb1' (k := 0) (show 0 < 10 by decide)
    change _ = some (Value.int .i64 e.o) at a0
    obtain ⟨a1, _⟩ := rowE_cell hb1' (k := 1) (show 1 < 10 by decide)
    change _ = some (Value.int .i64 e.s) at a1
    obtain ⟨a2, _⟩ := rowE_cell hb1' (k := 2) (show 2 < 10 by decide)
    change _ = some (Value.int .i64 e.l) at a2
    obtain ⟨a3, _⟩ := rowE_cell hb1' (k := 3) (show 3 < 10 by decide)
    change _ = some (Value.slice (some ⟨gf, 0, none⟩) e.d.length cf) at a3
    obtain ⟨a4, _⟩ := rowE_cell hb1' (k := 4) (show 4 < 10 by decide)
    change _ = some (Value.int .i64 e.t) at a4
    obtain ⟨a5, _⟩ := rowE_cell hb1' (k := 5) (show 5 < 10 by decide)
    change _ = some (Value.int .i64 e.a) at a5
    obtain ⟨a6, _⟩ := rowE_cell hb1' (k := 6) (show 6 < 10 by decide)
    change _ = some (Value.int .i64 e.f) at a6
    obtain ⟨a7, _⟩ := rowE_cell hb1' (k := 7) (show 7 < 10 by decide)
    change _ = some (Value.int .i64 e.p) at a7
    obtain ⟨a8, _⟩ := rowE_cell hb1' (k := 8) (show 8 < 10 by decide)
    change _ = some (Value.int .i64 e.r) at a8
    obtain ⟨a9, _⟩ := rowE_cell hb1' (k := 9) (show 9 < 10 by decide)
    change _ = some (Value.int .i64 e.k) at a9
    clear hb1'
    go_wp2_with fail
    have hm4 := HC _ _ { e with d := e.d.set O e.s } (e.d.length : Int) v4 _ (HRF14.out.keep0 HV4.out) { HF.out with d := fun z hz => by rcases List.mem_or_eq_of_mem_set hz with h | h; exact HF.out.d z h; rw [h]; exact IS } ⟨by omega, by omega⟩ (by first | (simp only [List.length_set]; omega) | (show e.d.length ≤ 1000000; omega))
    rw [HVF.out] at hm4
    refine hm4.mono ?_
    clear hm4 a0 a1 a2 a3 a4 a5 a6 a7 a8 a9
    rintro r v5 ⟨rfl, hk⟩
    have HV5 := Lib.hid (HV4.out.trans hk)
    clear hk
    have hb1' := HV5.out.heap HBg14.out (.inr (Nat.zero_le _))
    obtain ⟨a0, _⟩ := rowE_cell hb1' (k := 0) (show 0 < 10 by decide)
    change _ = some (Value.int .i64 e.o) at a0
    obtain ⟨a1, _⟩ := rowE_cell hb1' (k := 1) (show 1 < 10 by decide)
    change _ = some (Value.int .i64 e.s) at a1
    obtain ⟨a2, _⟩ := rowE_cell hb1' (k := 2) (show 2 < 10 by decide)
    change _ = some (Value.int .i64 e.l) at a2
    obtain ⟨a3, _⟩ := rowE_cell hb1' (k := 3) (show 3 < 10 by decide)
    change _ = some (Value.slice (some ⟨gg, 0, none⟩) e.d.length cg) at a3
    obtain ⟨a4, _⟩ := rowE_cell hb1' (k := 4) (show 4 < 10 by decide)
    change _ = some (Value.int .i64 e.t) at a4
    obtain ⟨a5, _⟩ := rowE_cell hb1' (k := 5) (show 5 < 10 by decide)
    change _ = some (Value.int .i64 e.a) at a5
    obtain ⟨a6, _⟩ := rowE_cell hb1' (k := 6) (show 6 < 10 by decide)
    change _ = some (Value.int .i64 e.f) at a6
    obtain ⟨a7, _⟩ := rowE_cell hb1' (k := 7) (show 7 < 10 by decide)
    change _ = some (Value.int .i64 e.p) at a7
    obtain ⟨a8, _⟩ := rowE_cell hb1' (k := 8) (show 8 < 10 by decide)
    change _ = some (Value.int .i64 e.r) at a8
    obtain ⟨a9, _⟩ := rowE_cell hb1' (k := 9) (show 9 < 10 by decide)
    change _ = some (Value.int .i64 e.k) at a9
    clear hb1'
    go_wp2_with fail
    have hm5 := HC _ _ { e with d := e.d.set P (-1) } (e.d.length : Int) v5 _ (HRG14.out.keep0 HV5.out) { HF.out with d := fun z hz => by rcases List.mem_or_eq_of_mem_set hz with h | h; exact HF.out.d z h; rw [h]; exact ⟨by decide, by decide⟩ } ⟨by omega, by omega⟩ (by first | (simp only [List.length_set]; omega) | (show e.d.length ≤ 1000000; omega))
    rw [HVG.out] at hm5
    refine hm5.mono ?_
    clear hm5 a0 a1 a2 a3 a4 a5 a6 a7 a8 a9
    rintro r v6 ⟨rfl, hk⟩
    have HV6 := Lib.hid (HV5.out.trans hk)
    clear hk
    go_wp2_with fail
    refine (eknown_any HC HP HG v6).mono ?_
    rintro r v7 ⟨rfl, hk⟩
    have HV7 := Lib.hid ((HK14.out.trans HV6.out).trans hk)
    clear hk
    go_wp2_with fail
    go_returns
    exact ⟨rfl, HV7.out⟩
  · have hcb : (Ev.check e (e.d.length : Int) != 0) = true := bne_iff_ne.2 hc
    clear hc
    go_wp2_with fail
    refine (eknown_any HC HP HG _).mono ?_
    rintro r w2 ⟨rfl, hk⟩
    go_wp2_with fail
    go_returns
    exact ⟨rfl, HK1.out.trans hk⟩

end Go.Proofs.Ytnboeagallkooaa
