/-
  What the laws ask of package event's Check, Put and Get; and quaysidekit's SameEvent, CopyEvent.
-/
import Derived.Test.YtnboeagallkooaaEvGet
namespace Go.Proofs.Ytnboeagallkooaa
open Go.RowKit

/-- Check keeps the document. -/
def ECheckOk : Prop := ∀ (l1 h1 : Nat) (e : Evt) (n : Int) (w : World) (dv : Value), RdI .i64 l1 h1 w dv e.d → Ev.Fits e → Ev.I64 n → e.d.length ≤ 1000000 →
  Calls Try.prog 10 #[evV e dv, .int .i64 n] w fun r w' => r = .returned (.int .i64 (Ev.check e n)) ∧ Kp 0 0 w w'

/-- Put keeps the document. -/
def EPutOk : Prop := ∀ (l1 h1 : Nat) (e : Evt) (w : World) (dv : Value), RdI .i64 l1 h1 w dv e.d → Ev.Fits e → e.d.length ≤ 1000000 →
  Calls Try.prog 13 #[evV e dv] w fun r w' => ∃ v, r = .returned (.tuple #[v, .int .i64 (Ev.put e).2]) ∧ OwnI .u8 5 w.heap.size w'.heap.size w' v (Ev.put e).1 ∧ Kp 0 0 w w'

/-- Get keeps the document. -/
def EGetOk : Prop := ∀ (l1 h1 : Nat) (L : List Int) (w : World) (v : Value), RdI .u8 l1 h1 w v L → (∀ y ∈ L, 0 ≤ y ∧ y < 256) → L.length ≤ 1000000 →
  Calls Try.prog 16 #[v] w fun e w' => GotE w e w' (Ev.get L)

set_option maxRecDepth 100000 in
set_option maxHeartbeats 4000000 in
/-- SameEvent of one event twice: true. -/
theorem sameE_yes {l1 h1 l2 h2 : Nat} (w : World) (e : Evt) (va vb : Value) (ha : RdI .i64 l1 h1 w va e.d) (hb : RdI .i64 l2 h2 w vb e.d) :
    Calls Try.prog 12 #[evV e va, evV e vb] w fun r w' => r = .returned (.bool true) ∧ Kp 0 0 w w' := by
  have HA := Lib.hid ha
  have HB := Lib.hid hb
  obtain ⟨ao, ca, rfl, _, _, _⟩ := ha.open
  obtain ⟨bo, cb, rfl, _, _, _⟩ := hb.open
  clear ha hb
  unfold evV
  have b1 : (e.l == e.l) = true := by simp
  have b2 : (e.t == e.t) = true := by simp
  have b3 : (e.a == e.a) = true := by simp
  have b4 : (e.f == e.f) = true := by simp
  have b5 : (e.p == e.p) = true := by simp
  have b6 : (e.r == e.r) = true := by simp
  have b7 : (e.k == e.k) = true := by simp
  have b8 : (e.o == e.o) = true := by simp
  have b9 : (e.s == e.s) = true := by simp
  go_enter Try.func12, Try.ntmps12
  go_wp2_with fail
  have HB1 : Hid (((w.alloc (.cells #[Value.int .i64 e.o, .int .i64 e.s, .int .i64 e.l, .slice ao e.d.length ca, .int .i64 e.t, .int .i64 e.a, .int .i64 e.f, .int .i64 e.p, .int .i64 e.r, .int .i64 e.k] 26)).alloc (.cells #[Value.int .i64 e.o, .int .i64 e.s, .int .i64 e.l, .slice bo e.d.length cb, .int .i64 e.t, .int .i64 e.a, .int .i64 e.f, .int .i64 e.p, .int .i64 e.r, .int .i64 e.k] 26)).heap[w.heap.size]? = some (.cells #[Value.int .i64 e.o, .int .i64 e.s, .int .i64 e.l, .slice ao e.d.length ca, .int .i64 e.t, .int .i64 e.a, .int .i64 e.f, .int .i64 e.p, .int .i64 e.r, .int .i64 e.k] 26 (0, 0))) := ((Kp.refl 0 0 _).alloc _).heap (heap_alloc_new w _) (.inr (Nat.zero_le _))
  have HB2 : Hid (((w.alloc (.cells #[Value.int .i64 e.o, .int .i64 e.s, .int .i64 e.l, .slice ao e.d.length ca, .int .i64 e.t, .int .i64 e.a, .int .i64 e.f, .int .i64 e.p, .int .i64 e.r, .int .i64 e.k] 26)).alloc (.cells #[Value.int .i64 e.o, .int .i64 e.s, .int .i64 e.l, .slice bo e.d.length cb, .int .i64 e.t, .int .i64 e.a, .int .i64 e.f, .int .i64 e.p, .int .i64 e.r, .int .i64 e.k] 26)).heap[w.heap.size + 1]? = some (.cells #[Value.int .i64 e.o, .int .i64 e.s, .int .i64 e.l, .slice bo e.d.length cb, .int .i64 e.t, .int .i64 e.a, .int .i64 e.f, .int .i64 e.p, .int .i64 e.r, .int .i64 e.k] 26 (0, 0))) := by
    have h := heap_alloc_new (w.alloc (.cells #[Value.int .i64 e.o, .int .i64 e.s, .int .i64 e.l, .slice ao e.d.length ca, .int .i64 e.t, .int .i64 e.a, .int .i64 e.f, .int .i64 e.p, .int .i64 e.r, .int .i64 e.k] 26)) (.cells #[Value.int .i64 e.o, .int .i64 e.s, .int .i64 e.l, .slice bo e.d.length cb, .int .i64 e.t, .int .i64 e.a, .int .i64 e.f, .int .i64 e.p, .int .i64 e.r, .int .i64 e.k] 26)
    have hs : (w.alloc (.cells #[Value.int .i64 e.o, .int .i64 e.s, .int .i64 e.l, .slice ao e.d.length ca, .int .i64 e.t, .int .i64 e.a, .int .i64 e.f, .int .i64 e.p, .int .i64 e.r, .int .i64 e.k] 26)).heap.size = w.heap.size + 1 := by simp
    rw [hs] at h
    exact h
  have HK2 : Hid (Kp 0 0 w ((w.alloc (.cells #[Value.int .i64 e.o, .int .i64 e.s, .int .i64 e.l, .slice ao e.d.length ca, .int .i64 e.t, .int .i64 e.a, .int .i64 e.f, .int .i64 e.p, .int .i64 e.r, .int .i64 e.k] 26)).alloc (.cells #[Value.int .i64 e.o, .int .i64 e.s, .int .i64 e.l, .slice bo e.d.length cb, .int .i64 e.t, .int .i64 e.a, .int .i64 e.f, .int .i64 e.p, .int .i64 e.r, .int .i64 e.k] 26))) := ((Kp.refl _ _ _).alloc _).alloc _
  generalize (w.alloc (.cells #[Value.int .i64 e.o, .int .i64 e.s, .int .i64 e.l, .slice ao e.d.length ca, .int .i64 e.t, .int .i64 e.a, .int .i64 e.f, .int .i64 e.p, .int .i64 e.r, .int .i64 e.k] 26)).alloc (.cells #[Value.int .i64 e.o, .int .i64 e.s, .int .i64 e.l, .slice bo e.d.length cb, .int .i64 e.t, .int .i64 e.a, .int .i64 e.f, .int .i64 e.p, .int .i64 e.r, .int .i64 e.k] 26) = w2 at HB1 HB2 HK2 ⊢
  generalize w.heap.size = q at HB1 HB2 ⊢
  refine (sameI_yes w2 _ _ e.d (HA.out.keep0 HK2.out) (HB.out.keep0 HK2.out)).mono ?_
  rintro r w3 ⟨rfl, hk⟩
  have hb1 := hk.heap HB1.out (.inr (Nat.zero_le _))
  have hb2 := hk.heap HB2.out (.inr (Nat.zero_le _))
  have HK3 := Lib.hid (HK2.out.trans hk)
  clear hk
  obtain ⟨a0, _⟩ := rowE_cell hb1 (k := 0) (show 0 < 10 by decide)
  change _ = some (Value.int .i64 e.o) at a0
  obtain ⟨a1, _⟩ := rowE_cell hb1 (k := 1) (show 1 < 10 by decide)
  change _ = some (Value.int .i64 e.s) at a1
  obtain ⟨a2, _⟩ := rowE_cell hb1 (k := 2) (show 2 < 10 by decide)
  change _ = some (Value.int .i64 e.l) at a2
  obtain ⟨a3, _⟩ := rowE_cell hb1 (k := 3) (show 3 < 10 by decide)
  change _ = some (Value.slice ao e.d.length ca) at a3
  obtain ⟨a4, _⟩ := rowE_cell hb1 (k := 4) (show 4 < 10 by decide)
  change _ = some (Value.int .i64 e.t) at a4
  obtain ⟨a5, _⟩ := rowE_cell hb1 (k := 5) (show 5 < 10 by decide)
  change _ = some (Value.int .i64 e.a) at a5
  obtain ⟨a6, _⟩ := rowE_cell hb1 (k := 6) (show 6 < 10 by decide)
  change _ = some (Value.int .i64 e.f) at a6
  obtain ⟨a7, _⟩ := rowE_cell hb1 (k := 7) (show 7 < 10 by decide)
  change _ = some (Value.int .i64 e.p) at a7
  obtain ⟨a8, _⟩ := rowE_cell hb1 (k := 8) (show 8 < 10 by decide)
  change _ = some (Value.int .i64 e.r) at a8
  obtain ⟨a9, _⟩ := rowE_cell hb1 (k := 9) (show 9 < 10 by decide)
  change _ = some (Value.int .i64 e.k) at a9
  obtain ⟨b0, _⟩ := rowE_cell hb2 (k := 0) (show 0 < 10 by decide)
  change _ = some (Value.int .i64 e.o) at b0
  obtain ⟨b1, _⟩ := rowE_cell hb2 (k := 1) (show 1 < 10 by decide)
  change _ = some (Value.int .i64 e.s) at b1
  obtain ⟨b2, _⟩ := rowE_cell hb2 (k := 2) (show 2 < 10 by decide)
  change _ = some (Value.int .i64 e.l) at b2
  obtain ⟨b3, _⟩ := rowE_cell hb2 (k := 3) (show 3 < 10 by decide)
  change _ = some (Value.slice bo e.d.length cb) at b3
  obtain ⟨b4, _⟩ := rowE_cell hb2 (k := 4) (show 4 < 10 by decide)
  change _ = some (Value.int .i64 e.t) at b4
  obtain ⟨b5, _⟩ := rowE_cell hb2 (k := 5) (show 5 < 10 by decide)
  change _ = some (Value.int .i64 e.a) at b5
  obtain ⟨b6, _⟩ := rowE_cell hb2 (k := 6) (show 6 < 10 by decide)
  change _ = some (Value.int .i64 e.f) at b6
  obtain ⟨b7, _⟩ := rowE_cell hb2 (k := 7) (show 7 < 10 by decide)
  change _ = some (Value.int .i64 e.p) at b7
  obtain ⟨b8, _⟩ := rowE_cell hb2 (k := 8) (show 8 < 10 by decide)
  change _ = some (Value.int .i64 e.r) at b8
  obtain ⟨b9, _⟩ := rowE_cell hb2 (k := 9) (show 9 < 10 by decide)
  change _ = some (Value.int .i64 e.k) at b9
  clear hb1 hb2
  go_wp2_with fail
  go_returns
  exact ⟨rfl, HK3.out⟩

set_option maxRecDepth 100000 in
set_option maxHeartbeats 4000000 in
/-- CopyEvent: the same event, in memory of the call's own. -/
theorem copyE_any {l1 h1 : Nat} (w : World) (e : Evt) (va : Value) (ha : RdI .i64 l1 h1 w va e.d) (hl : e.d.length ≤ 900000) :
    Calls Try.prog 9 #[evV e va] w fun r w' => ∃ dv, r = .returned (evV e dv) ∧ OwnI .i64 3 w.heap.size w'.heap.size w' dv e.d ∧ Kp 0 0 w w' := by
  have HA := Lib.hid ha
  obtain ⟨ao, ca, rfl, _, _, _⟩ := ha.open
  clear ha
  unfold evV
  go_enter Try.func9, Try.ntmps9
  go_wp2_with fail
  have HB1 : Hid (((w.alloc (.cells #[Value.int .i64 e.o, .int .i64 e.s, .int .i64 e.l, .slice ao e.d.length ca, .int .i64 e.t, .int .i64 e.a, .int .i64 e.f, .int .i64 e.p, .int .i64 e.r, .int .i64 e.k] 26)).alloc (.cells #[Value.int .i64 0, .int .i64 0, .int .i64 0, .slice none 0 0, .int .i64 0, .int .i64 0, .int .i64 0, .int .i64 0, .int .i64 0, .int .i64 0] 26)).heap[w.heap.size]? = some (.cells #[Value.int .i64 e.o, .int .i64 e.s, .int .i64 e.l, .slice ao e.d.length ca, .int .i64 e.t, .int .i64 e.a, .int .i64 e.f, .int .i64 e.p, .int .i64 e.r, .int .i64 e.k] 26 (0, 0))) := ((Kp.refl 0 0 _).alloc _).heap (heap_alloc_new w _) (.inr (Nat.zero_le _))
  have HB2 : Hid (((w.alloc (.cells #[Value.int .i64 e.o, .int .i64 e.s, .int .i64 e.l, .slice ao e.d.length ca, .int .i64 e.t, .int .i64 e.a, .int .i64 e.f, .int .i64 e.p, .int .i64 e.r, .int .i64 e.k] 26)).alloc (.cells #[Value.int .i64 0, .int .i64 0, .int .i64 0, .slice none 0 0, .int .i64 0, .int .i64 0, .int .i64 0, .int .i64 0, .int .i64 0, .int .i64 0] 26)).heap[w.heap.size + 1]? = some (.cells #[Value.int .i64 0, .int .i64 0, .int .i64 0, .slice none 0 0, .int .i64 0, .int .i64 0, .int .i64 0, .int .i64 0, .int .i64 0, .int .i64 0] 26 (0, 0))) := by
    have h := heap_alloc_new (w.alloc (.cells #[Value.int .i64 e.o, .int .i64 e.s, .int .i64 e.l, .slice ao e.d.length ca, .int .i64 e.t, .int .i64 e.a, .int .i64 e.f, .int .i64 e.p, .int .i64 e.r, .int .i64 e.k] 26)) (.cells #[Value.int .i64 0, .int .i64 0, .int .i64 0, .slice none 0 0, .int .i64 0, .int .i64 0, .int .i64 0, .int .i64 0, .int .i64 0, .int .i64 0] 26)
    have hs : (w.alloc (.cells #[Value.int .i64 e.o, .int .i64 e.s, .int .i64 e.l, .slice ao e.d.length ca, .int .i64 e.t, .int .i64 e.a, .int .i64 e.f, .int .i64 e.p, .int .i64 e.r, .int .i64 e.k] 26)).heap.size = w.heap.size + 1 := by simp
    rw [hs] at h
    exact h
  have HK2 : Hid (Kp 0 0 w ((w.alloc (.cells #[Value.int .i64 e.o, .int .i64 e.s, .int .i64 e.l, .slice ao e.d.length ca, .int .i64 e.t, .int .i64 e.a, .int .i64 e.f, .int .i64 e.p, .int .i64 e.r, .int .i64 e.k] 26)).alloc (.cells #[Value.int .i64 0, .int .i64 0, .int .i64 0, .slice none 0 0, .int .i64 0, .int .i64 0, .int .i64 0, .int .i64 0, .int .i64 0, .int .i64 0] 26))) := ((Kp.refl _ _ _).alloc _).alloc _
  generalize (w.alloc (.cells #[Value.int .i64 e.o, .int .i64 e.s, .int .i64 e.l, .slice ao e.d.length ca, .int .i64 e.t, .int .i64 e.a, .int .i64 e.f, .int .i64 e.p, .int .i64 e.r, .int .i64 e.k] 26)).alloc (.cells #[Value.int .i64 0, .int .i64 0, .int .i64 0, .slice none 0 0, .int .i64 0, .int .i64 0, .int .i64 0, .int .i64 0, .int .i64 0, .int .i64 0] 26) = w2 at HB1 HB2 HK2 ⊢
  generalize hq : w.heap.size = q at HB1 HB2 ⊢
  have HQE := Lib.hid hq
  clear hq
  refine (copyI_any w2 _ e.d (HA.out.keep0 HK2.out) (by omega)).mono ?_
  rintro r w3 ⟨dv, rfl, hown, hk⟩
  have hb1 := hk.heap HB1.out (.inr (Nat.zero_le _))
  have hb2 := hk.heap HB2.out (.inr (Nat.zero_le _))
  have HK3 := Lib.hid (HK2.out.trans hk)
  have HO3 := Lib.hid hown
  have HSZ : Hid (w.heap.size ≤ w2.heap.size ∧ q + 1 < w2.heap.size) := ⟨HK2.out.size, heap_lt HB2.out⟩
  obtain ⟨od, cd, rfl, _, _, _⟩ := hown.rd.open
  clear hk hown
  obtain ⟨r0, f0⟩ := rowE_cell hb1 (k := 3) (show 3 < 10 by decide)
  have hb4 : (w3.setCell ⟨q, 3, none⟩ (Value.slice od e.d.length cd)).heap[q]? = some (.cells #[Value.int .i64 e.o, .int .i64 e.s, .int .i64 e.l, .slice od e.d.length cd, .int .i64 e.t, .int .i64 e.a, .int .i64 e.f, .int .i64 e.p, .int .i64 e.r, .int .i64 e.k] 26 (0, 0)) := rowE_set hb1 3 _
  have hks : Kp q (q + 1) w3 (w3.setCell ⟨q, 3, none⟩ (Value.slice od e.d.length cd)) := Kp.setCell (p := ⟨q, 3, none⟩) (Kp.refl _ _ _) (.inr ⟨Nat.le_refl _, Nat.lt_succ_self _⟩) _
  have hq4 : (w3.setCell ⟨q, 3, none⟩ (Value.slice od e.d.length cd)).heap[q + 1]? = some (.cells #[Value.int .i64 0, .int .i64 0, .int .i64 0, .slice none 0 0, .int .i64 0, .int .i64 0, .int .i64 0, .int .i64 0, .int .i64 0, .int .i64 0] 26 (0, 0)) := hks.heap hb2 (.inr (Nat.le_refl _))
  have HO4 : Hid (OwnI .i64 3 w2.heap.size w3.heap.size (w3.setCell ⟨q, 3, none⟩ (Value.slice od e.d.length cd)) (Value.slice od e.d.length cd) e.d) := HO3.out.keep hks (fun b h1 h2 => .inr (by have := HSZ.out; omega))
  have HK4 : Hid (Kp 0 0 w (w3.setCell ⟨q, 3, none⟩ (Value.slice od e.d.length cd))) := HK3.out.step hks (fun j h1 h2 => .inl (by have := HQE.out; omega))
  generalize (Array.getD _ 3 undef) = y0 at r0
  clear hb1 hb2 hks
  obtain ⟨a0, _⟩ := rowE_cell hb4 (k := 0) (show 0 < 10 by decide)
  change _ = some (Value.int .i64 e.o) at a0
  obtain ⟨a1, _⟩ := rowE_cell hb4 (k := 1) (show 1 < 10 by decide)
  change _ = some (Value.int .i64 e.s) at a1
  obtain ⟨a2, _⟩ := rowE_cell hb4 (k := 2) (show 2 < 10 by decide)
  change _ = some (Value.int .i64 e.l) at a2
  obtain ⟨a3, _⟩ := rowE_cell hb4 (k := 3) (show 3 < 10 by decide)
  change _ = some (Value.slice od e.d.length cd) at a3
  obtain ⟨a4, _⟩ := rowE_cell hb4 (k := 4) (show 4 < 10 by decide)
  change _ = some (Value.int .i64 e.t) at a4
  obtain ⟨a5, _⟩ := rowE_cell hb4 (k := 5) (show 5 < 10 by decide)
  change _ = some (Value.int .i64 e.a) at a5
  obtain ⟨a6, _⟩ := rowE_cell hb4 (k := 6) (show 6 < 10 by decide)
  change _ = some (Value.int .i64 e.f) at a6
  obtain ⟨a7, _⟩ := rowE_cell hb4 (k := 7) (show 7 < 10 by decide)
  change _ = some (Value.int .i64 e.p) at a7
  obtain ⟨a8, _⟩ := rowE_cell hb4 (k := 8) (show 8 < 10 by decide)
  change _ = some (Value.int .i64 e.r) at a8
  obtain ⟨a9, _⟩ := rowE_cell hb4 (k := 9) (show 9 < 10 by decide)
  change _ = some (Value.int .i64 e.k) at a9
  obtain ⟨b0, gb0⟩ := rowE_cell hq4 (k := 0) (show 0 < 10 by decide)
  obtain ⟨b1, gb1⟩ := rowE_cell hq4 (k := 1) (show 1 < 10 by decide)
  obtain ⟨b2, gb2⟩ := rowE_cell hq4 (k := 2) (show 2 < 10 by decide)
  obtain ⟨b3, gb3⟩ := rowE_cell hq4 (k := 3) (show 3 < 10 by decide)
  obtain ⟨b4, gb4⟩ := rowE_cell hq4 (k := 4) (show 4 < 10 by decide)
  obtain ⟨b5, gb5⟩ := rowE_cell hq4 (k := 5) (show 5 < 10 by decide)
  obtain ⟨b6, gb6⟩ := rowE_cell hq4 (k := 6) (show 6 < 10 by decide)
  obtain ⟨b7, gb7⟩ := rowE_cell hq4 (k := 7) (show 7 < 10 by decide)
  obtain ⟨b8, gb8⟩ := rowE_cell hq4 (k := 8) (show 8 < 10 by decide)
  obtain ⟨b9, gb9⟩ := rowE_cell hq4 (k := 9) (show 9 < 10 by decide)
  generalize (Array.getD _ 0 undef) = z0 at b0
  generalize (Array.getD _ 1 undef) = z1 at b1
  generalize (Array.getD _ 2 undef) = z2 at b2
  generalize (Array.getD _ 3 undef) = z3 at b3
  generalize (Array.getD _ 4 undef) = z4 at b4
  generalize (Array.getD _ 5 undef) = z5 at b5
  generalize (Array.getD _ 6 undef) = z6 at b6
  generalize (Array.getD _ 7 undef) = z7 at b7
  generalize (Array.getD _ 8 undef) = z8 at b8
  generalize (Array.getD _ 9 undef) = z9 at b9
  have HQ4 := Lib.hid hq4
  clear hb4 hq4
  go_wp2_with fail
  obtain ⟨hst, hsk⟩ := store_ten HQ4.out rfl (Value.int .i64 e.o) (Value.int .i64 e.s) (Value.int .i64 e.l) (Value.slice od e.d.length cd) (Value.int .i64 e.t) (Value.int .i64 e.a) (Value.int .i64 e.f) (Value.int .i64 e.p) (Value.int .i64 e.r) (Value.int .i64 e.k)
  generalize hF : (((((((((((w3.setCell ⟨q, 3, none⟩ (Value.slice od e.d.length cd)).setCell ⟨q + 1, 0, none⟩ (Value.int .i64 e.o)).setCell ⟨q + 1, 1, none⟩ (Value.int .i64 e.s)).setCell ⟨q + 1, 2, none⟩ (Value.int .i64 e.l)).setCell ⟨q + 1, 3, none⟩ (Value.slice od e.d.length cd)).setCell ⟨q + 1, 4, none⟩ (Value.int .i64 e.t)).setCell ⟨q + 1, 5, none⟩ (Value.int .i64 e.a)).setCell ⟨q + 1, 6, none⟩ (Value.int .i64 e.f)).setCell ⟨q + 1, 7, none⟩ (Value.int .i64 e.p)).setCell ⟨q + 1, 8, none⟩ (Value.int .i64 e.r)).setCell ⟨q + 1, 9, none⟩ (Value.int .i64 e.k)) = F at hst hsk ⊢
  clear hF
  obtain ⟨e0, _⟩ := rowE_cell hst (k := 0) (show 0 < 10 by decide)
  change _ = some (Value.int .i64 e.o) at e0
  obtain ⟨e1, _⟩ := rowE_cell hst (k := 1) (show 1 < 10 by decide)
  change _ = some (Value.int .i64 e.s) at e1
  obtain ⟨e2, _⟩ := rowE_cell hst (k := 2) (show 2 < 10 by decide)
  change _ = some (Value.int .i64 e.l) at e2
  obtain ⟨e3, _⟩ := rowE_cell hst (k := 3) (show 3 < 10 by decide)
  change _ = some (Value.slice od e.d.length cd) at e3
  obtain ⟨e4, _⟩ := rowE_cell hst (k := 4) (show 4 < 10 by decide)
  change _ = some (Value.int .i64 e.t) at e4
  obtain ⟨e5, _⟩ := rowE_cell hst (k := 5) (show 5 < 10 by decide)
  change _ = some (Value.int .i64 e.a) at e5
  obtain ⟨e6, _⟩ := rowE_cell hst (k := 6) (show 6 < 10 by decide)
  change _ = some (Value.int .i64 e.f) at e6
  obtain ⟨e7, _⟩ := rowE_cell hst (k := 7) (show 7 < 10 by decide)
  change _ = some (Value.int .i64 e.p) at e7
  obtain ⟨e8, _⟩ := rowE_cell hst (k := 8) (show 8 < 10 by decide)
  change _ = some (Value.int .i64 e.r) at e8
  obtain ⟨e9, _⟩ := rowE_cell hst (k := 9) (show 9 < 10 by decide)
  change _ = some (Value.int .i64 e.k) at e9
  try simp only [Exit.inBlock, Exit.then]
  refine bodyPost_ret (by simp [results, Try.results9, go_sem, e0, e1, e2, e3, e4, e5, e6, e7, e8, e9]; try rfl) rfl ?_
  refine ⟨Value.slice od e.d.length cd, rfl, ?_, ?_⟩
  · exact ((HO4.out.keep hsk (fun b h1 h2 => .inr (by have := HSZ.out; omega))).wide HSZ.out.1 (Nat.le_refl _)).there
  · exact HK4.out.step hsk (fun j h1 h2 => .inl (by have := HQE.out; omega))

end Go.Proofs.Ytnboeagallkooaa
