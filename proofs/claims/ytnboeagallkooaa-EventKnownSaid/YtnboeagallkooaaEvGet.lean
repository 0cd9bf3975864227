/-
  The document's answer for package event: Get.
-/
import Derived.Test.YtnboeagallkooaaEvRead
namespace Go.Proofs.Ytnboeagallkooaa
open Go.RowKit

/-- What Get answers, as values. -/
def GotE (w : World) (e : Ending) (w' : World) (r : Evt × Int) : Prop :=
  ∃ dv, e = .returned (.tuple #[evV r.1 dv, .int .i64 r.2]) ∧ OwnI .i64 3 w.heap.size w'.heap.size w' dv r.1.d ∧ Kp 0 0 w w'

theorem RefR.rs {p lo : Nat} {w : World} {L : List Int} (h : RefR p lo w L 0 0) : RS p lo w L (L, 0) := ⟨0, rfl, h⟩

set_option maxRecDepth 100000 in
set_option maxHeartbeats 4000000 in
theorem refGetE_any {l1 h1 : Nat} (L : List Int) (w : World) (v : Value) (hl : RdI .u8 l1 h1 w v L) (hL : L.length ≤ 1000000) (hb : ∀ y ∈ L, 0 ≤ y ∧ y < 256) :
    Calls Try.prog 17 #[v] w fun e w' => GotE w e w' (Ev.get L) := by
  have HL := Lib.hid hl
  have HBY := Lib.hid hb
  have HG : Hid (Ev.get L = if Ev.err L = 0 then (Ev.read L, 0) else (Ev.zero, Ev.err L)) := rfl
  have HE : Hid (Ev.err L = Pk.dne (Ev.s11 L).2.1 (Ev.s11 L).2.2) := rfl
  obtain ⟨ao, c, rfl, _, _, _⟩ := hl.open
  clear hl hb
  go_enter Try.func17, Try.ntmps17
  go_wp2_with fail
  have HKA : Hid (Kp 0 0 w (w.alloc (.cells #[Value.int .i64 0, .int .i64 0, .int .i64 0, .slice none 0 0, .int .i64 0, .int .i64 0, .int .i64 0, .int .i64 0, .int .i64 0, .int .i64 0] 26))) := (Kp.refl _ _ _).alloc _
  have HQA : Hid ((w.alloc (.cells #[Value.int .i64 0, .int .i64 0, .int .i64 0, .slice none 0 0, .int .i64 0, .int .i64 0, .int .i64 0, .int .i64 0, .int .i64 0, .int .i64 0] 26)).heap[w.heap.size]? = some (.cells #[Value.int .i64 0, .int .i64 0, .int .i64 0, .slice none 0 0, .int .i64 0, .int .i64 0, .int .i64 0, .int .i64 0, .int .i64 0, .int .i64 0] 26 (0, 0))) := heap_alloc_new w _
  have hsa : (w.alloc (.cells #[Value.int .i64 0, .int .i64 0, .int .i64 0, .slice none 0 0, .int .i64 0, .int .i64 0, .int .i64 0, .int .i64 0, .int .i64 0, .int .i64 0] 26)).heap.size = w.heap.size + 1 := by simp
  have HSA := Lib.hid hsa
  clear hsa
  generalize w.alloc (.cells #[Value.int .i64 0, .int .i64 0, .int .i64 0, .slice none 0 0, .int .i64 0, .int .i64 0, .int .i64 0, .int .i64 0, .int .i64 0, .int .i64 0] 26) = wa at HKA HQA HSA ⊢
  generalize hq : w.heap.size = q at HQA HSA ⊢
  have HQE := Lib.hid hq
  clear hq
  refine (refFrom_any _ L wa (HL.out.keep0 HKA.out) (by omega)).mono ?_
  rintro r w1 ⟨p, rfl, hp, hr, hk⟩
  have HR1 := Lib.hid hr.rs
  have hq1 := hk.heap HQA.out (.inr (Nat.zero_le _))
  have HK1 := Lib.hid (HKA.out.trans hk)
  have HP1 : Hid (q + 1 ≤ p ∧ wa.heap.size ≤ p) := ⟨by have := HSA.out; omega, hp⟩
  have HQ1 := Lib.hid hq1
  clear hr hk hq1 hp
  go_wp2_with fail
  refine (refRead_any L w1 HR1.out HP1.out.2 hL HBY.out).mono ?_
  rintro r w2 ⟨dv, rfl, hown, hr, hk⟩
  have HO2 := Lib.hid hown
  have HR2 := Lib.hid hr
  have HQ2 := Lib.hid (hk.heap HQ1.out (.inl (by have := HP1.out; omega)))
  have HK2 : Hid (Kp 0 0 w w2) := HK1.out.step hk fun j h1 h2 => .inl (by have := HP1.out; have := HQE.out; omega)
  have HSZ : Hid (w.heap.size ≤ w1.heap.size ∧ q < w1.heap.size) := ⟨HK1.out.size, heap_lt HQ1.out⟩
  obtain ⟨od, cd, rfl, _, _, _⟩ := hown.rd.open
  clear hown hr hk
  unfold evV
  go_wp2_with fail
  have HB3 : Hid ((w2.alloc (.cells #[Value.int .i64 (Ev.read L).o, .int .i64 (Ev.read L).s, .int .i64 (Ev.read L).l, .slice od (Ev.read L).d.length cd, .int .i64 (Ev.read L).t, .int .i64 (Ev.read L).a, .int .i64 (Ev.read L).f, .int .i64 (Ev.read L).p, .int .i64 (Ev.read L).r, .int .i64 (Ev.read L).k] 26)).heap[w2.heap.size]? = some (.cells #[Value.int .i64 (Ev.read L).o, .int .i64 (Ev.read L).s, .int .i64 (Ev.read L).l, .slice od (Ev.read L).d.length cd, .int .i64 (Ev.read L).t, .int .i64 (Ev.read L).a, .int .i64 (Ev.read L).f, .int .i64 (Ev.read L).p, .int .i64 (Ev.read L).r, .int .i64 (Ev.read L).k] 26 (0, 0))) := heap_alloc_new w2 _
  have HKB : Hid (Kp 0 0 w2 (w2.alloc (.cells #[Value.int .i64 (Ev.read L).o, .int .i64 (Ev.read L).s, .int .i64 (Ev.read L).l, .slice od (Ev.read L).d.length cd, .int .i64 (Ev.read L).t, .int .i64 (Ev.read L).a, .int .i64 (Ev.read L).f, .int .i64 (Ev.read L).p, .int .i64 (Ev.read L).r, .int .i64 (Ev.read L).k] 26))) := (Kp.refl _ _ _).alloc _
  generalize w2.alloc (.cells #[Value.int .i64 (Ev.read L).o, .int .i64 (Ev.read L).s, .int .i64 (Ev.read L).l, .slice od (Ev.read L).d.length cd, .int .i64 (Ev.read L).t, .int .i64 (Ev.read L).a, .int .i64 (Ev.read L).f, .int .i64 (Ev.read L).p, .int .i64 (Ev.read L).r, .int .i64 (Ev.read L).k] 26) = w3 at HB3 HKB ⊢
  generalize w2.heap.size = pe at HB3 ⊢
  have HR3 := Lib.hid (HR2.out.keep HKB.out (fun _ _ _ => .inr (Nat.zero_le _)) HP1.out.2)
  have HDN : Hid (∀ W, Kp 0 0 w3 W → Calls Try.prog 33 #[.pointer (some ⟨p, 0, none⟩)] W fun e w' => e = .returned (.int .i64 (Ev.err L)) ∧ Kp 0 0 w3 w') := fun W hW => by
    have h := rs_done L _ W (HR3.out.keep hW (fun _ _ _ => .inr (Nat.zero_le _)) HP1.out.2)
    rw [← HE.out] at h
    exact h.mono fun e w' h => ⟨h.1, hW.trans h.2⟩
  generalize Ev.err L = er at *
  refine (HDN.out _ (Kp.refl _ _ _)).mono ?_
  rintro r w4 ⟨rfl, hk⟩
  have HK34 := Lib.hid hk
  have HK4 : Hid (Kp 0 0 w w4) := (HK2.out.trans HKB.out).trans hk
  have HO4 : Hid (OwnI .i64 3 w1.heap.size w2.heap.size w4 (.slice od (Ev.read L).d.length cd) (Ev.read L).d) := (HO2.out.keep0 HKB.out).keep0 hk
  have hb4 := hk.heap HB3.out (.inr (Nat.zero_le _))
  have hq4 := hk.heap (HKB.out.heap HQ2.out (.inr (Nat.zero_le _))) (.inr (Nat.zero_le _))
  have HQ4 := Lib.hid hq4
  clear hk
  by_cases he : er = 0
  · have hb : (er != 0) = false := by simp [he]
    rw [if_pos he] at HG
    clear he
    obtain ⟨a0, _⟩ := rowE_cell hb4 (k := 0) (show 0 < 10 by decide)
    change _ = some (Value.int .i64 (Ev.read L).o) at a0
    obtain ⟨a1, _⟩ := rowE_cell hb4 (k := 1) (show 1 < 10 by decide)
    change _ = some (Value.int .i64 (Ev.read L).s) at a1
    obtain ⟨a2, _⟩ := rowE_cell hb4 (k := 2) (show 2 < 10 by decide)
    change _ = some (Value.int .i64 (Ev.read L).l) at a2
    obtain ⟨a3, _⟩ := rowE_cell hb4 (k := 3) (show 3 < 10 by decide)
    change _ = some (Value.slice od (Ev.read L).d.length cd) at a3
    obtain ⟨a4, _⟩ := rowE_cell hb4 (k := 4) (show 4 < 10 by decide)
    change _ = some (Value.int .i64 (Ev.read L).t) at a4
    obtain ⟨a5, _⟩ := rowE_cell hb4 (k := 5) (show 5 < 10 by decide)
    change _ = some (Value.int .i64 (Ev.read L).a) at a5
    obtain ⟨a6, _⟩ := rowE_cell hb4 (k := 6) (show 6 < 10 by decide)
    change _ = some (Value.int .i64 (Ev.read L).f) at a6
    obtain ⟨a7, _⟩ := rowE_cell hb4 (k := 7) (show 7 < 10 by decide)
    change _ = some (Value.int .i64 (Ev.read L).p) at a7
    obtain ⟨a8, _⟩ := rowE_cell hb4 (k := 8) (show 8 < 10 by decide)
    change _ = some (Value.int .i64 (Ev.read L).r) at a8
    obtain ⟨a9, _⟩ := rowE_cell hb4 (k := 9) (show 9 < 10 by decide)
    change _ = some (Value.int .i64 (Ev.read L).k) at a9
    obtain ⟨b0, g0⟩ := rowE_cell hq4 (k := 0) (show 0 < 10 by decide)
    obtain ⟨b1, g1⟩ := rowE_cell hq4 (k := 1) (show 1 < 10 by decide)
    obtain ⟨b2, g2⟩ := rowE_cell hq4 (k := 2) (show 2 < 10 by decide)
    obtain ⟨b3, g3⟩ := rowE_cell hq4 (k := 3) (show 3 < 10 by decide)
    obtain ⟨b4, g4⟩ := rowE_cell hq4 (k := 4) (show 4 < 10 by decide)
    obtain ⟨b5, g5⟩ := rowE_cell hq4 (k := 5) (show 5 < 10 by decide)
    obtain ⟨b6, g6⟩ := rowE_cell hq4 (k := 6) (show 6 < 10 by decide)
    obtain ⟨b7, g7⟩ := rowE_cell hq4 (k := 7) (show 7 < 10 by decide)
    obtain ⟨b8, g8⟩ := rowE_cell hq4 (k := 8) (show 8 < 10 by decide)
    obtain ⟨b9, g9⟩ := rowE_cell hq4 (k := 9) (show 9 < 10 by decide)
    generalize (Array.getD _ 0 undef) = z0 at b0
    generalize (Array.getD _ 1 undef) = z1 at b1
    generalize (Array.getD _ 2 undef) = z2 at b2
    generalize (Array.getD _ 3 undef) = z3 at b3
    generalize (Array.getD _ 4 undef) = z4 at b4
    generalize (Array.getD _ 5 undef) = z5 at b5
    generalize (Array.getD _ 6 undef) = z6 at b6
    generalize (Array.getD _ 7 undef) = z7 at b7
    generalize (Array.getD _ 8 undef) = z8 at b8
    generalize (Array.getD _ 9 undef) = z9 at b9
    clear hb4
    go_wp2_with fail
    obtain ⟨hst, hsk⟩ := store_ten hq4 rfl (Value.int .i64 (Ev.read L).o) (Value.int .i64 (Ev.read L).s) (Value.int .i64 (Ev.read L).l) (Value.slice od (Ev.read L).d.length cd) (Value.int .i64 (Ev.read L).t) (Value.int .i64 (Ev.read L).a) (Value.int .i64 (Ev.read L).f) (Value.int .i64 (Ev.read L).p) (Value.int .i64 (Ev.read L).r) (Value.int .i64 (Ev.read L).k)
    generalize hF : ((((((((((w4.setCell ⟨q, 0, none⟩ (Value.int .i64 (Ev.read L).o)).setCell ⟨q, 1, none⟩ (Value.int .i64 (Ev.read L).s)).setCell ⟨q, 2, none⟩ (Value.int .i64 (Ev.read L).l)).setCell ⟨q, 3, none⟩ (Value.slice od (Ev.read L).d.length cd)).setCell ⟨q, 4, none⟩ (Value.int .i64 (Ev.read L).t)).setCell ⟨q, 5, none⟩ (Value.int .i64 (Ev.read L).a)).setCell ⟨q, 6, none⟩ (Value.int .i64 (Ev.read L).f)).setCell ⟨q, 7, none⟩ (Value.int .i64 (Ev.read L).p)).setCell ⟨q, 8, none⟩ (Value.int .i64 (Ev.read L).r)).setCell ⟨q, 9, none⟩ (Value.int .i64 (Ev.read L).k)) = F at hst hsk ⊢
    clear hF
    obtain ⟨e0, _⟩ := rowE_cell hst (k := 0) (show 0 < 10 by decide)
    change _ = some (Value.int .i64 (Ev.read L).o) at e0
    obtain ⟨e1, _⟩ := rowE_cell hst (k := 1) (show 1 < 10 by decide)
    change _ = some (Value.int .i64 (Ev.read L).s) at e1
    obtain ⟨e2, _⟩ := rowE_cell hst (k := 2) (show 2 < 10 by decide)
    change _ = some (Value.int .i64 (Ev.read L).l) at e2
    obtain ⟨e3, _⟩ := rowE_cell hst (k := 3) (show 3 < 10 by decide)
    change _ = some (Value.slice od (Ev.read L).d.length cd) at e3
    obtain ⟨e4, _⟩ := rowE_cell hst (k := 4) (show 4 < 10 by decide)
    change _ = some (Value.int .i64 (Ev.read L).t) at e4
    obtain ⟨e5, _⟩ := rowE_cell hst (k := 5) (show 5 < 10 by decide)
    change _ = some (Value.int .i64 (Ev.read L).a) at e5
    obtain ⟨e6, _⟩ := rowE_cell hst (k := 6) (show 6 < 10 by decide)
    change _ = some (Value.int .i64 (Ev.read L).f) at e6
    obtain ⟨e7, _⟩ := rowE_cell hst (k := 7) (show 7 < 10 by decide)
    change _ = some (Value.int .i64 (Ev.read L).p) at e7
    obtain ⟨e8, _⟩ := rowE_cell hst (k := 8) (show 8 < 10 by decide)
    change _ = some (Value.int .i64 (Ev.read L).r) at e8
    obtain ⟨e9, _⟩ := rowE_cell hst (k := 9) (show 9 < 10 by decide)
    change _ = some (Value.int .i64 (Ev.read L).k) at e9
    try simp only [Exit.inBlock, Exit.then]
    refine bodyPost_ret (by simp [results, Try.results17, go_sem, e0, e1, e2, e3, e4, e5, e6, e7, e8, e9]; try rfl) rfl ?_
    rw [HG.out]
    refine ⟨.slice od (Ev.read L).d.length cd, rfl, ?_, ?_⟩
    · exact ((HO4.out.keep hsk (fun b h1 h2 => .inr (by have := HSZ.out; omega))).wide HSZ.out.1 (Nat.le_refl _)).there
    · exact HK4.out.step hsk (fun j h1 h2 => .inl (by have := HQE.out; omega))
  · have hb : (er != 0) = true := bne_iff_ne.2 he
    rw [if_neg he] at HG
    clear he hb4
    go_wp2_with fail
    refine (HDN.out w4 HK34.out).mono ?_
    rintro r w5 ⟨rfl, hk5⟩
    have hk45 : Kp 0 0 w3 w5 := hk5
    have HK5 : Hid (Kp 0 0 w w5) := (HK2.out.trans HKB.out).trans hk5
    have hq5 := hk5.heap (HKB.out.heap HQ2.out (.inr (Nat.zero_le _))) (.inr (Nat.zero_le _))
    clear hk5 hk45
    obtain ⟨b0, g0⟩ := rowE_cell hq5 (k := 0) (show 0 < 10 by decide)
    obtain ⟨b1, g1⟩ := rowE_cell hq5 (k := 1) (show 1 < 10 by decide)
    obtain ⟨b2, g2⟩ := rowE_cell hq5 (k := 2) (show 2 < 10 by decide)
    obtain ⟨b3, g3⟩ := rowE_cell hq5 (k := 3) (show 3 < 10 by decide)
    obtain ⟨b4, g4⟩ := rowE_cell hq5 (k := 4) (show 4 < 10 by decide)
    obtain ⟨b5, g5⟩ := rowE_cell hq5 (k := 5) (show 5 < 10 by decide)
    obtain ⟨b6, g6⟩ := rowE_cell hq5 (k := 6) (show 6 < 10 by decide)
    obtain ⟨b7, g7⟩ := rowE_cell hq5 (k := 7) (show 7 < 10 by decide)
    obtain ⟨b8, g8⟩ := rowE_cell hq5 (k := 8) (show 8 < 10 by decide)
    obtain ⟨b9, g9⟩ := rowE_cell hq5 (k := 9) (show 9 < 10 by decide)
    generalize (Array.getD _ 0 undef) = z0 at b0
    generalize (Array.getD _ 1 undef) = z1 at b1
    generalize (Array.getD _ 2 undef) = z2 at b2
    generalize (Array.getD _ 3 undef) = z3 at b3
    generalize (Array.getD _ 4 undef) = z4 at b4
    generalize (Array.getD _ 5 undef) = z5 at b5
    generalize (Array.getD _ 6 undef) = z6 at b6
    generalize (Array.getD _ 7 undef) = z7 at b7
    generalize (Array.getD _ 8 undef) = z8 at b8
    generalize (Array.getD _ 9 undef) = z9 at b9
    go_wp2_with fail
    obtain ⟨hst, hsk⟩ := store_ten hq5 rfl (Value.int .i64 0) (Value.int .i64 0) (Value.int .i64 0) (Value.slice none 0 0) (Value.int .i64 0) (Value.int .i64 0) (Value.int .i64 0) (Value.int .i64 0) (Value.int .i64 0) (Value.int .i64 0)
    generalize hF : ((((((((((w5.setCell ⟨q, 0, none⟩ (Value.int .i64 0)).setCell ⟨q, 1, none⟩ (Value.int .i64 0)).setCell ⟨q, 2, none⟩ (Value.int .i64 0)).setCell ⟨q, 3, none⟩ (Value.slice none 0 0)).setCell ⟨q, 4, none⟩ (Value.int .i64 0)).setCell ⟨q, 5, none⟩ (Value.int .i64 0)).setCell ⟨q, 6, none⟩ (Value.int .i64 0)).setCell ⟨q, 7, none⟩ (Value.int .i64 0)).setCell ⟨q, 8, none⟩ (Value.int .i64 0)).setCell ⟨q, 9, none⟩ (Value.int .i64 0)) = F at hst hsk ⊢
    clear hF
    obtain ⟨e0, _⟩ := rowE_cell hst (k := 0) (show 0 < 10 by decide)
    change _ = some (Value.int .i64 0) at e0
    obtain ⟨e1, _⟩ := rowE_cell hst (k := 1) (show 1 < 10 by decide)
    change _ = some (Value.int .i64 0) at e1
    obtain ⟨e2, _⟩ := rowE_cell hst (k := 2) (show 2 < 10 by decide)
    change _ = some (Value.int .i64 0) at e2
    obtain ⟨e3, _⟩ := rowE_cell hst (k := 3) (show 3 < 10 by decide)
    change _ = some (Value.slice none 0 0) at e3
    obtain ⟨e4, _⟩ := rowE_cell hst (k := 4) (show 4 < 10 by decide)
    change _ = some (Value.int .i64 0) at e4
    obtain ⟨e5, _⟩ := rowE_cell hst (k := 5) (show 5 < 10 by decide)
    change _ = some (Value.int .i64 0) at e5
    obtain ⟨e6, _⟩ := rowE_cell hst (k := 6) (show 6 < 10 by decide)
    change _ = some (Value.int .i64 0) at e6
    obtain ⟨e7, _⟩ := rowE_cell hst (k := 7) (show 7 < 10 by decide)
    change _ = some (Value.int .i64 0) at e7
    obtain ⟨e8, _⟩ := rowE_cell hst (k := 8) (show 8 < 10 by decide)
    change _ = some (Value.int .i64 0) at e8
    obtain ⟨e9, _⟩ := rowE_cell hst (k := 9) (show 9 < 10 by decide)
    change _ = some (Value.int .i64 0) at e9
    try simp only [Exit.inBlock, Exit.then]
    refine bodyPost_ret (by simp [results, Try.results17, go_sem, e0, e1, e2, e3, e4, e5, e6, e7, e8, e9]; try rfl) rfl ?_
    rw [HG.out]
    refine ⟨.slice none 0 0, rfl, OwnI.nil _ _ _ _ _, ?_⟩
    exact HK5.out.step hsk (fun j h1 h2 => .inl (by have := HQE.out; omega))

end Go.Proofs.Ytnboeagallkooaa
