/-
  The document's answer for package event: Read and Get.
-/
import Derived.Test.YtnboeagallkooaaRep
import Derived.Test.YtnboeagallkooaaEvRef2
import Derived.Deep.RegionHeld3
import Derived.Deep.RegionLaw
namespace Go.Proofs.Ytnboeagallkooaa
open Go.RowKit

theorem rowE_cell {w : World} {g : Nat} {cur : Array Value} {e : TypeId} (h : w.heap[g]? = some (.cells cur e (0, 0))) {k : Nat} (hk : k < cur.size) :
    w.cell? ⟨g, k, none⟩ = some (cur.getD k undef) ∧ w.frozen? ⟨g, k, none⟩ = false := by
  simp [World.cell?, World.frozen?, h, hk]

theorem rowE_set {w : World} {g : Nat} {cur : Array Value} {e : TypeId} (h : w.heap[g]? = some (.cells cur e (0, 0))) (k : Nat) (u : Value) :
    (w.setCell ⟨g, k, none⟩ u).heap[g]? = some (.cells (cur.setIfInBounds k u) e (0, 0)) := by
  simp [World.setCell, Array.getElem?_modify, h]

/-- The document's reader, at a state of the plain reading. -/
def RS (p lo : Nat) (w : World) (L : List Int) (s : Ev.St) : Prop := ∃ a, L.drop a = s.1 ∧ RefR p lo w L a s.2

theorem RS.keep {p lo lo' hi' : Nat} {w w' : World} {L : List Int} {s : Ev.St} (h : RS p lo w L s) (hk : Kp lo' hi' w w') (hd : ∀ b, lo ≤ b → b ≤ p → b < lo' ∨ hi' ≤ b) (hlp : lo ≤ p) : RS p lo w' L s := by
  obtain ⟨a, h1, h2⟩ := h
  exact ⟨a, h1, h2.keep hk hd hlp⟩

theorem rs_int {p lo : Nat} (L : List Int) (s : Ev.St) (w : World) (h : RS p lo w L s) (hL : L.length ≤ 1000000) (hb : ∀ y ∈ L, 0 ≤ y ∧ y < 256) :
    Calls Try.prog 45 #[.pointer (some ⟨p, 0, none⟩)] w fun e w' => e = .returned (.int .i64 (Ev.i1 s).1) ∧ RS p lo w' L (Ev.i1 s).2 ∧ Kp p (p + 1) w w' := by
  obtain ⟨a, h1, h2⟩ := h
  have := refRInt_any L a s.2 w h2 (by omega) hb
  rw [h1] at this
  exact this

theorem rs_cnt {p lo : Nat} (L : List Int) (s : Ev.St) (w : World) (h : RS p lo w L s) (hL : L.length ≤ 1000000) (hb : ∀ y ∈ L, 0 ≤ y ∧ y < 256) :
    Calls Try.prog 46 #[.pointer (some ⟨p, 0, none⟩), .int .i64 64] w fun e w' => e = .returned (.int .i64 (Ev.c1 s).1) ∧ RS p lo w' L (Ev.c1 s).2 ∧ Kp p (p + 1) w w' := by
  obtain ⟨a, h1, h2⟩ := h
  have := refRCnt_any 64 L a s.2 w h2 (by omega) hb
  rw [h1] at this
  exact this

theorem rs_done {p lo : Nat} (L : List Int) (s : Ev.St) (w : World) (h : RS p lo w L s) :
    Calls Try.prog 33 #[.pointer (some ⟨p, 0, none⟩)] w fun e w' => e = .returned (.int .i64 (Pk.dne s.1 s.2)) ∧ Kp 0 0 w w' := by
  obtain ⟨a, h1, h2⟩ := h
  have := refDone_any L a s.2 w h2
  rw [h1] at this
  exact this

/-- Ten cells are stored in a block. -/
theorem store_ten {W : World} {q : Nat} {zs : Array Value} {e : TypeId} (h : W.heap[q]? = some (.cells zs e (0, 0))) (hz : zs.size = 10) (v0 v1 v2 v3 v4 v5 v6 v7 v8 v9 : Value) :
    ((((((((((W.setCell ⟨q, 0, none⟩ v0).setCell ⟨q, 1, none⟩ v1).setCell ⟨q, 2, none⟩ v2).setCell ⟨q, 3, none⟩ v3).setCell ⟨q, 4, none⟩ v4).setCell ⟨q, 5, none⟩ v5).setCell ⟨q, 6, none⟩ v6).setCell ⟨q, 7, none⟩ v7).setCell ⟨q, 8, none⟩ v8).setCell ⟨q, 9, none⟩ v9).heap[q]? = some (.cells #[v0, v1, v2, v3, v4, v5, v6, v7, v8, v9] e (0, 0)) ∧ Kp q (q + 1) W ((((((((((W.setCell ⟨q, 0, none⟩ v0).setCell ⟨q, 1, none⟩ v1).setCell ⟨q, 2, none⟩ v2).setCell ⟨q, 3, none⟩ v3).setCell ⟨q, 4, none⟩ v4).setCell ⟨q, 5, none⟩ v5).setCell ⟨q, 6, none⟩ v6).setCell ⟨q, 7, none⟩ v7).setCell ⟨q, 8, none⟩ v8).setCell ⟨q, 9, none⟩ v9) := by
  have e1 : (((((((((((zs.setIfInBounds 0 v0).setIfInBounds 1 v1).setIfInBounds 2 v2).setIfInBounds 3 v3).setIfInBounds 4 v4).setIfInBounds 5 v5).setIfInBounds 6 v6).setIfInBounds 7 v7).setIfInBounds 8 v8).setIfInBounds 9 v9) : Array Value) = #[v0, v1, v2, v3, v4, v5, v6, v7, v8, v9] := by
    obtain ⟨l⟩ := zs
    match l, hz with
    | [_, _, _, _, _, _, _, _, _, _], _ => simp
  have s0 := rowE_set h 0 v0
  have s1 := rowE_set s0 1 v1
  have s2 := rowE_set s1 2 v2
  have s3 := rowE_set s2 3 v3
  have s4 := rowE_set s3 4 v4
  have s5 := rowE_set s4 5 v5
  have s6 := rowE_set s5 6 v6
  have s7 := rowE_set s6 7 v7
  have s8 := rowE_set s7 8 v8
  have s9 := rowE_set s8 9 v9
  rw [e1] at s9
  exact ⟨s9, (Kp.setCell (p := ⟨q, 9, none⟩) (Kp.setCell (p := ⟨q, 8, none⟩) (Kp.setCell (p := ⟨q, 7, none⟩) (Kp.setCell (p := ⟨q, 6, none⟩) (Kp.setCell (p := ⟨q, 5, none⟩) (Kp.setCell (p := ⟨q, 4, none⟩) (Kp.setCell (p := ⟨q, 3, none⟩) (Kp.setCell (p := ⟨q, 2, none⟩) (Kp.setCell (p := ⟨q, 1, none⟩) (Kp.setCell (p := ⟨q, 0, none⟩) (Kp.refl q (q + 1) W) (.inr ⟨Nat.le_refl q, Nat.lt_succ_self q⟩) v0) (.inr ⟨Nat.le_refl q, Nat.lt_succ_self q⟩) v1) (.inr ⟨Nat.le_refl q, Nat.lt_succ_self q⟩) v2) (.inr ⟨Nat.le_refl q, Nat.lt_succ_self q⟩) v3) (.inr ⟨Nat.le_refl q, Nat.lt_succ_self q⟩) v4) (.inr ⟨Nat.le_refl q, Nat.lt_succ_self q⟩) v5) (.inr ⟨Nat.le_refl q, Nat.lt_succ_self q⟩) v6) (.inr ⟨Nat.le_refl q, Nat.lt_succ_self q⟩) v7) (.inr ⟨Nat.le_refl q, Nat.lt_succ_self q⟩) v8) (.inr ⟨Nat.le_refl q, Nat.lt_succ_self q⟩) v9)⟩

set_option maxRecDepth 100000 in
set_option maxHeartbeats 4000000 in
theorem refRead_any {p lo : Nat} (L : List Int) (w : World) (h : RS p lo w L (L, 0)) (hlp : lo ≤ p) (hL : L.length ≤ 1000000) (hb : ∀ y ∈ L, 0 ≤ y ∧ y < 256) :
    Calls Try.prog 32 #[.pointer (some ⟨p, 0, none⟩)] w fun r w' => ∃ dv, r = .returned (evV (Ev.read L) dv) ∧ OwnI .i64 3 w.heap.size w'.heap.size w' dv (Ev.read L).d ∧ RS p lo w' L (Ev.s11 L).2 ∧ Kp p (p + 1) w w' := by
  have HI := Lib.hid (fun (s : Ev.St) W (h : RS p lo W L s) => rs_int L s W h hL hb)
  have HCT := Lib.hid (fun (s : Ev.St) W (h : RS p lo W L s) => rs_cnt L s W h hL hb)
  have hpw : p < w.heap.size := by
    obtain ⟨a, _, h2⟩ := h
    exact h2.lt
  have HR0 : Hid (RS p lo ((w.alloc (.cells #[Value.int .i64 0, .int .i64 0, .int .i64 0, .slice none 0 0, .int .i64 0, .int .i64 0, .int .i64 0, .int .i64 0, .int .i64 0, .int .i64 0] 26)).alloc (.cells #[Value.int .i64 0, .int .i64 0, .int .i64 0, .slice none 0 0, .int .i64 0, .int .i64 0, .int .i64 0, .int .i64 0, .int .i64 0, .int .i64 0] 26)) L (L, 0)) := (h.keep ((Kp.refl 0 0 _).alloc _) (fun _ _ _ => .inr (Nat.zero_le _)) hlp).keep ((Kp.refl 0 0 _).alloc _) (fun _ _ _ => .inr (Nat.zero_le _)) hlp
  have HK0 : Hid (Kp p (p + 1) w ((w.alloc (.cells #[Value.int .i64 0, .int .i64 0, .int .i64 0, .slice none 0 0, .int .i64 0, .int .i64 0, .int .i64 0, .int .i64 0, .int .i64 0, .int .i64 0] 26)).alloc (.cells #[Value.int .i64 0, .int .i64 0, .int .i64 0, .slice none 0 0, .int .i64 0, .int .i64 0, .int .i64 0, .int .i64 0, .int .i64 0, .int .i64 0] 26))) := ((Kp.refl _ _ _).alloc _).alloc _
  have hs1 : (w.alloc (.cells #[Value.int .i64 0, .int .i64 0, .int .i64 0, .slice none 0 0, .int .i64 0, .int .i64 0, .int .i64 0, .int .i64 0, .int .i64 0, .int .i64 0] 26)).heap.size = w.heap.size + 1 := by simp
  have HB0 : Hid (((w.alloc (.cells #[Value.int .i64 0, .int .i64 0, .int .i64 0, .slice none 0 0, .int .i64 0, .int .i64 0, .int .i64 0, .int .i64 0, .int .i64 0, .int .i64 0] 26)).alloc (.cells #[Value.int .i64 0, .int .i64 0, .int .i64 0, .slice none 0 0, .int .i64 0, .int .i64 0, .int .i64 0, .int .i64 0, .int .i64 0, .int .i64 0] 26)).heap[w.heap.size + 1]? = some (.cells #[Value.int .i64 0, .int .i64 0, .int .i64 0, .slice none 0 0, .int .i64 0, .int .i64 0, .int .i64 0, .int .i64 0, .int .i64 0, .int .i64 0] 26 (0, 0))) := by
    have h := heap_alloc_new (w.alloc (.cells #[Value.int .i64 0, .int .i64 0, .int .i64 0, .slice none 0 0, .int .i64 0, .int .i64 0, .int .i64 0, .int .i64 0, .int .i64 0, .int .i64 0] 26)) (.cells #[Value.int .i64 0, .int .i64 0, .int .i64 0, .slice none 0 0, .int .i64 0, .int .i64 0, .int .i64 0, .int .i64 0, .int .i64 0, .int .i64 0] 26)
    rw [hs1] at h
    exact h
  have HQ0 : Hid (((w.alloc (.cells #[Value.int .i64 0, .int .i64 0, .int .i64 0, .slice none 0 0, .int .i64 0, .int .i64 0, .int .i64 0, .int .i64 0, .int .i64 0, .int .i64 0] 26)).alloc (.cells #[Value.int .i64 0, .int .i64 0, .int .i64 0, .slice none 0 0, .int .i64 0, .int .i64 0, .int .i64 0, .int .i64 0, .int .i64 0, .int .i64 0] 26)).heap[w.heap.size]? = some (.cells #[Value.int .i64 0, .int .i64 0, .int .i64 0, .slice none 0 0, .int .i64 0, .int .i64 0, .int .i64 0, .int .i64 0, .int .i64 0, .int .i64 0] 26 (0, 0))) := ((Kp.refl 0 0 _).alloc _).heap (heap_alloc_new w _) (.inr (Nat.zero_le _))
  clear hs1 h
  go_enter Try.func32, Try.ntmps32
  go_wp2_with fail
  generalize (w.alloc (.cells #[Value.int .i64 0, .int .i64 0, .int .i64 0, .slice none 0 0, .int .i64 0, .int .i64 0, .int .i64 0, .int .i64 0, .int .i64 0, .int .i64 0] 26)).alloc (.cells #[Value.int .i64 0, .int .i64 0, .int .i64 0, .slice none 0 0, .int .i64 0, .int .i64 0, .int .i64 0, .int .i64 0, .int .i64 0, .int .i64 0] 26) = W0 at HR0 HK0 HB0 HQ0 ⊢
  generalize hq : w.heap.size = q at HB0 HQ0 hpw ⊢
  have HQE := Lib.hid hq
  clear hq
  refine (HI.out _ _ HR0.out).mono ?_
  rintro r V1 ⟨rfl, hr, hk⟩
  have hbk := hk.heap HB0.out (.inr (show p + 1 ≤ q + 1 by omega))
  have hqk := hk.heap HQ0.out (.inr (show p + 1 ≤ q by omega))
  obtain ⟨r0, f0⟩ := rowE_cell hbk (k := 0) (show 0 < 10 by decide)
  have HB1 : Hid ((V1.setCell ⟨q + 1, 0, none⟩ (.int .i64 (Ev.s1 L).1)).heap[q + 1]? = some (.cells #[Value.int .i64 (Ev.s1 L).1, .int .i64 0, .int .i64 0, .slice none 0 0, .int .i64 0, .int .i64 0, .int .i64 0, .int .i64 0, .int .i64 0, .int .i64 0] 26 (0, 0))) := rowE_set hbk 0 _
  have hks : Kp (q + 1) (q + 2) V1 (V1.setCell ⟨q + 1, 0, none⟩ (.int .i64 (Ev.s1 L).1)) := Kp.setCell (p := ⟨q + 1, 0, none⟩) (Kp.refl _ _ _) (.inr ⟨Nat.le_refl _, Nat.lt_succ_self _⟩) _
  have HQ1 : Hid ((V1.setCell ⟨q + 1, 0, none⟩ (.int .i64 (Ev.s1 L).1)).heap[q]? = some (.cells #[Value.int .i64 0, .int .i64 0, .int .i64 0, .slice none 0 0, .int .i64 0, .int .i64 0, .int .i64 0, .int .i64 0, .int .i64 0, .int .i64 0] 26 (0, 0))) := hks.heap hqk (.inl (Nat.lt_succ_self _))
  have HR1 : Hid (RS p lo (V1.setCell ⟨q + 1, 0, none⟩ (.int .i64 (Ev.s1 L).1)) L (Ev.s1 L).2) := hr.keep hks (fun b h1 h2 => .inl (by omega)) hlp
  have HK1 : Hid (Kp p (p + 1) w (V1.setCell ⟨q + 1, 0, none⟩ (.int .i64 (Ev.s1 L).1))) := (HK0.out.trans hk).step hks (fun j h1 h2 => .inl (by have := HQE.out; omega))
  generalize (Array.getD _ 0 undef) = y0 at r0
  clear hr hk hbk hqk hks
  change Hid _ at HB1
  have hv : (Ev.i1 (L, 0)).1 = (Ev.s1 L).1 := rfl
  rw [hv]
  clear hv
  go_wp2_with fail
  generalize V1.setCell ⟨q + 1, 0, none⟩ (.int .i64 (Ev.s1 L).1) = W1 at HB1 HQ1 HR1 HK1 ⊢
  clear r0 f0
  refine (HI.out _ _ HR1.out).mono ?_
  rintro r V2 ⟨rfl, hr, hk⟩
  have hbk := hk.heap HB1.out (.inr (show p + 1 ≤ q + 1 by omega))
  have hqk := hk.heap HQ1.out (.inr (show p + 1 ≤ q by omega))
  obtain ⟨r0, f0⟩ := rowE_cell hbk (k := 1) (show 1 < 10 by decide)
  have HB2 : Hid ((V2.setCell ⟨q + 1, 1, none⟩ (.int .i64 (Ev.s2 L).1)).heap[q + 1]? = some (.cells #[Value.int .i64 (Ev.s1 L).1, .int .i64 (Ev.s2 L).1, .int .i64 0, .slice none 0 0, .int .i64 0, .int .i64 0, .int .i64 0, .int .i64 0, .int .i64 0, .int .i64 0] 26 (0, 0))) := rowE_set hbk 1 _
  have hks : Kp (q + 1) (q + 2) V2 (V2.setCell ⟨q + 1, 1, none⟩ (.int .i64 (Ev.s2 L).1)) := Kp.setCell (p := ⟨q + 1, 1, none⟩) (Kp.refl _ _ _) (.inr ⟨Nat.le_refl _, Nat.lt_succ_self _⟩) _
  have HQ2 : Hid ((V2.setCell ⟨q + 1, 1, none⟩ (.int .i64 (Ev.s2 L).1)).heap[q]? = some (.cells #[Value.int .i64 0, .int .i64 0, .int .i64 0, .slice none 0 0, .int .i64 0, .int .i64 0, .int .i64 0, .int .i64 0, .int .i64 0, .int .i64 0] 26 (0, 0))) := hks.heap hqk (.inl (Nat.lt_succ_self _))
  have HR2 : Hid (RS p lo (V2.setCell ⟨q + 1, 1, none⟩ (.int .i64 (Ev.s2 L).1)) L (Ev.s2 L).2) := hr.keep hks (fun b h1 h2 => .inl (by omega)) hlp
  have HK2 : Hid (Kp p (p + 1) w (V2.setCell ⟨q + 1, 1, none⟩ (.int .i64 (Ev.s2 L).1))) := (HK1.out.trans hk).step hks (fun j h1 h2 => .inl (by have := HQE.out; omega))
  generalize (Array.getD _ 1 undef) = y0 at r0
  clear hr hk hbk hqk hks
  change Hid _ at HB2
  have hv : (Ev.i1 (Ev.s1 L).2).1 = (Ev.s2 L).1 := rfl
  rw [hv]
  clear hv
  go_wp2_with fail
  generalize V2.setCell ⟨q + 1, 1, none⟩ (.int .i64 (Ev.s2 L).1) = W2 at HB2 HQ2 HR2 HK2 ⊢
  clear r0 f0
  refine (HI.out _ _ HR2.out).mono ?_
  rintro r V3 ⟨rfl, hr, hk⟩
  have hbk := hk.heap HB2.out (.inr (show p + 1 ≤ q + 1 by omega))
  have hqk := hk.heap HQ2.out (.inr (show p + 1 ≤ q by omega))
  obtain ⟨r0, f0⟩ := rowE_cell hbk (k := 2) (show 2 < 10 by decide)
  have HB3 : Hid ((V3.setCell ⟨q + 1, 2, none⟩ (.int .i64 (Ev.s3 L).1)).heap[q + 1]? = some (.cells #[Value.int .i64 (Ev.s1 L).1, .int .i64 (Ev.s2 L).1, .int .i64 (Ev.s3 L).1, .slice none 0 0, .int .i64 0, .int .i64 0, .int .i64 0, .int .i64 0, .int .i64 0, .int .i64 0] 26 (0, 0))) := rowE_set hbk 2 _
  have hks : Kp (q + 1) (q + 2) V3 (V3.setCell ⟨q + 1, 2, none⟩ (.int .i64 (Ev.s3 L).1)) := Kp.setCell (p := ⟨q + 1, 2, none⟩) (Kp.refl _ _ _) (.inr ⟨Nat.le_refl _, Nat.lt_succ_self _⟩) _
  have HQ3 : Hid ((V3.setCell ⟨q + 1, 2, none⟩ (.int .i64 (Ev.s3 L).1)).heap[q]? = some (.cells #[Value.int .i64 0, .int .i64 0, .int .i64 0, .slice none 0 0, .int .i64 0, .int .i64 0, .int .i64 0, .int .i64 0, .int .i64 0, .int .i64 0] 26 (0, 0))) := hks.heap hqk (.inl (Nat.lt_succ_self _))
  have HR3 : Hid (RS p lo (V3.setCell ⟨q + 1, 2, none⟩ (.int .i64 (Ev.s3 L).1)) L (Ev.s3 L).2) := hr.keep hks (fun b h1 h2 => .inl (by omega)) hlp
  have HK3 : Hid (Kp p (p + 1) w (V3.setCell ⟨q + 1, 2, none⟩ (.int .i64 (Ev.s3 L).1))) := (HK2.out.trans hk).step hks (fun j h1 h2 => .inl (by have := HQE.out; omega))
  generalize (Array.getD _ 2 undef) = y0 at r0
  clear hr hk hbk hqk hks
  change Hid _ at HB3
  have hv : (Ev.i1 (Ev.s2 L).2).1 = (Ev.s3 L).1 := rfl
  rw [hv]
  clear hv
  go_wp2_with fail
  generalize V3.setCell ⟨q + 1, 2, none⟩ (.int .i64 (Ev.s3 L).1) = W3 at HB3 HQ3 HR3 HK3 ⊢
  clear r0 f0
  refine (HCT.out _ _ HR3.out).mono ?_
  rintro r V4 ⟨rfl, hr, hk⟩
  have hcr := Ev.c1_range (Ev.s3 L).2
  have hv : (Ev.c1 (Ev.s3 L).2).1 = (Ev.s4 L).1 := rfl
  rw [hv] at hcr ⊢
  clear hv
  obtain ⟨N, hN⟩ : ∃ N : Nat, (Ev.s4 L).1 = (N : Int) := ⟨(Ev.s4 L).1.toNat, by omega⟩
  have hN64 : N ≤ 64 := by omega
  have HNN := Lib.hid hN
  rw [hN]
  have HR4 : Hid (RS p lo V4 L (Ev.s4 L).2) := hr
  have HB4 := Lib.hid (hk.heap HB3.out (.inr (show p + 1 ≤ q + 1 by omega)))
  have HQ4 := Lib.hid (hk.heap HQ3.out (.inr (show p + 1 ≤ q by omega)))
  have HK4 := Lib.hid (HK3.out.trans hk)
  have HP4 : Hid (q + 2 ≤ V4.heap.size) := by
    have h := heap_lt HB4.out
    exact h
  clear hr hk hcr hN
  go_wp2_with fail
  go_loopw [5] (fun i wr => ∃ (k : Nat) (dv : Value), k ≤ N ∧ i = .int .i64 k ∧ wr.heap[q + 1]? = some (.cells #[Value.int .i64 (Ev.s1 L).1, .int .i64 (Ev.s2 L).1, .int .i64 (Ev.s3 L).1, dv, .int .i64 0, .int .i64 0, .int .i64 0, .int .i64 0, .int .i64 0, .int .i64 0] 26 (0, 0)) ∧ wr.heap[q]? = some (.cells #[Value.int .i64 0, .int .i64 0, .int .i64 0, .slice none 0 0, .int .i64 0, .int .i64 0, .int .i64 0, .int .i64 0, .int .i64 0, .int .i64 0] 26 (0, 0)) ∧ OwnI .i64 3 (q + 2) wr.heap.size wr dv (Ev.n1 k (Ev.s4 L).2).1 ∧ RS p lo wr L (Ev.n1 k (Ev.s4 L).2).2 ∧ Kp p (p + 1) w wr) (fun i _ => N - (intOf i).toNat)
  case atStart => exact ⟨0, .slice none 0 0, Nat.zero_le _, rfl, HB4.out, HQ4.out, OwnI.nil _ _ _ _ _, HR4.out, HK4.out⟩
  case round =>
    obtain ⟨k, dv, hk, rfl, hb1, hq1, hown, hr, hkp⟩ := hrel
    have HBk := Lib.hid hb1
    have HQk := Lib.hid hq1
    have HOk := Lib.hid hown
    have HRk := Lib.hid hr
    have HKk := Lib.hid hkp
    have hszq := heap_lt hb1
    have hlen : (Ev.n1 k (Ev.s4 L).2).1.length = k := Ev.n1_len _ _ _
    obtain ⟨od, cd, rfl, _, _, _⟩ := hown.rd.open
    have HLEN := Lib.hid hlen
    rw [hlen] at HBk HOk
    clear hlen
    clear hb1 hq1 hown hr hkp
    by_cases hlt : k < N
    · have HSN := Lib.hid (Ev.n1_snoc k (Ev.s4 L).2)
      generalize Ev.n1 k (Ev.s4 L).2 = nk at *
      obtain ⟨ds, st⟩ := nk
      simp only at HOk HRk HSN HLEN
      obtain ⟨c3, f3⟩ := rowE_cell HBk.out (k := 3) (show 3 < 10 by decide)
      change wr.cell? ⟨q + 1, 3, none⟩ = some (.slice od k cd) at c3
      have HCALL : Hid (∀ W, (W = wr.drew) → Calls Try.prog 45 #[.pointer (some ⟨p, 0, none⟩)] W fun r w' => r = .returned (.int .i64 (Ev.i1 st).1) ∧ RS p lo w' L (Ev.i1 st).2 ∧ Kp p (p + 1) W w') := fun W hW => HI.out st W (by rw [hW]; exact HRk.out.keep ((Kp.refl 0 0 _).drew) (fun _ _ _ => .inr (Nat.zero_le _)) hlp)
      generalize (Ev.i1 st).1 = x at *
      generalize (Ev.i1 st).2 = st2 at *
      have HW7 : Hid (∀ W, Kp p (p + 1) wr.drew W → W.heap[q + 1]? = some (.cells #[Value.int .i64 (Ev.s1 L).1, .int .i64 (Ev.s2 L).1, .int .i64 (Ev.s3 L).1, .slice od k cd, .int .i64 0, .int .i64 0, .int .i64 0, .int .i64 0, .int .i64 0, .int .i64 0] 26 (0, 0)) ∧ W.heap[q]? = some (.cells #[Value.int .i64 0, .int .i64 0, .int .i64 0, .slice none 0 0, .int .i64 0, .int .i64 0, .int .i64 0, .int .i64 0, .int .i64 0, .int .i64 0] 26 (0, 0)) ∧ OwnI .i64 3 (q + 2) W.heap.size W (.slice od k cd) ds) := fun W hW => by
        have hW' : Kp p (p + 1) wr W := (Kp.refl p (p + 1) wr).drew.trans hW
        exact ⟨hW'.heap HBk.out (.inr (by omega)), hW'.heap HQk.out (.inr (by omega)), (HOk.out.keep hW' (fun b h1 h2 => .inr (by omega))).there⟩
      obtain ⟨i0, hi, hz0, hz1, hz2⟩ := info_parts info_int
      go_wp2_with fail
      go_region_law (first
          | (refine step_own rfl (.tmp 26) (.tmp 29) 24 rfl (q + 2) 3 i0 (.int .i64 0) 1 8 Try.underlying24 hi hz0 hz1 hz2 rfl (by decide) (.slice od k cd) k (ds.map (.int .i64)) (by simp [Act.eval]) (by have h := hw7.2.2.1; rw [HLEN.out] at h; exact h.alloc _) ⟨w7.heap.size, 0, none⟩ 1 1 [.int .i64 x] (by simp [Act.eval]) rfl (cell_one _ _ _) (by simp [Value.oneCell']) (by unfold maxLen; omega) (by omega) (by simp; have h := hk7.size; simp at h; omega) ?_
             intro v8 w8 hown8 hg8 _
             obtain ⟨g8, c8, rfl, hg81, hg82⟩ := own_some hown8 (by omega)
             have hk8 : Kp (q + 2) w7.heap.size w7 w8 := ((Kp.refl _ _ _).alloc _).grown hg8 fun j hj => .inr (hw7.2.2.1.lt j hj)
             have hb8 := hk8.heap hw7.1 (.inl (by omega))
             obtain ⟨c38, f38⟩ := rowE_cell hb8 (k := 3) (show 3 < 10 by decide))
          | (go_simp
             go_at_call 45
             refine (HCALL.out _ rfl).mono ?_
             rintro r w7 ⟨rfl, hr7, hk7⟩
             have hw7 := HW7.out w7 hk7
             obtain ⟨c37, _⟩ := rowE_cell hw7.1 (k := 3) (show 3 < 10 by decide)
             change w7.cell? ⟨q + 1, 3, none⟩ = some (.slice od k cd) at c37
             have c37a : (w7.alloc (.cells #[.int .i64 x] 3)).cell? ⟨q + 1, 3, none⟩ = some (.slice od k cd) := ((Kp.refl 0 0 w7).alloc _).cell c37 (.inr (Nat.zero_le _))))
      all_goals
        have hks : Kp (q + 1) (q + 2) w8 (w8.setCell ⟨q + 1, 3, none⟩ (.slice (some ⟨g8, 0, none⟩) (k + 1) c8)) := Kp.setCell (p := ⟨q + 1, 3, none⟩) (Kp.refl _ _ _) (.inr ⟨Nat.le_refl _, Nat.lt_succ_self _⟩) _
        have HB9 : Hid ((w8.setCell ⟨q + 1, 3, none⟩ (.slice (some ⟨g8, 0, none⟩) (k + 1) c8)).heap[q + 1]? = some (.cells #[Value.int .i64 (Ev.s1 L).1, .int .i64 (Ev.s2 L).1, .int .i64 (Ev.s3 L).1, .slice (some ⟨g8, 0, none⟩) (k + 1) c8, .int .i64 0, .int .i64 0, .int .i64 0, .int .i64 0, .int .i64 0, .int .i64 0] 26 (0, 0))) := rowE_set hb8 3 _
        have HQ9 : Hid ((w8.setCell ⟨q + 1, 3, none⟩ (.slice (some ⟨g8, 0, none⟩) (k + 1) c8)).heap[q]? = some (.cells #[Value.int .i64 0, .int .i64 0, .int .i64 0, .slice none 0 0, .int .i64 0, .int .i64 0, .int .i64 0, .int .i64 0, .int .i64 0, .int .i64 0] 26 (0, 0))) := hks.heap (hk8.heap hw7.2.1 (.inl (by omega))) (.inl (Nat.lt_succ_self _))
        have HR9 : Hid (RS p lo (w8.setCell ⟨q + 1, 3, none⟩ (.slice (some ⟨g8, 0, none⟩) (k + 1) c8)) L st2) := (hr7.keep hk8 (fun b h1 h2 => .inl (by omega)) hlp).keep hks (fun b h1 h2 => .inl (by omega)) hlp
        have HO9 : Hid (OwnI .i64 3 (q + 2) (w8.setCell ⟨q + 1, 3, none⟩ (.slice (some ⟨g8, 0, none⟩) (k + 1) c8)).heap.size (w8.setCell ⟨q + 1, 3, none⟩ (.slice (some ⟨g8, 0, none⟩) (k + 1) c8)) (.slice (some ⟨g8, 0, none⟩) (k + 1) c8) (ds ++ [x])) := ((OwnI.of_rowN (l := ds ++ [x]) (by rw [List.map_append]; exact hown8) (by rw [List.length_append, HLEN.out]; rfl)).keep hks (fun b h1 h2 => .inr h1)).there
        have HK9 : Hid (Kp p (p + 1) w (w8.setCell ⟨q + 1, 3, none⟩ (.slice (some ⟨g8, 0, none⟩) (k + 1) c8))) := (((HKk.out.drew).trans hk7).step hk8 (fun j h1 h2 => .inl (by have := HQE.out; omega))).step hks (fun j h1 h2 => .inl (by have := HQE.out; omega))
        clear hown8 hg8 hk8 hb8 hks hr7 hk7 hw7 c37 c37a c38 f38 c3 f3
        go_wp2_with fail
        go_roundw
        case rel => exact ⟨k + 1, _, by omega, by go_num, HB9.out, HQ9.out, by rw [HSN.out]; exact HO9.out, by rw [HSN.out]; exact HR9.out, HK9.out⟩
        case measure => simp [intOf]; omega
    · obtain rfl : k = N := by omega
      have e5 : Ev.n1 k (Ev.s4 L).2 = Ev.s5 L := by
        unfold Ev.s5
        rw [HNN.out, Int.toNat_natCast]
      rw [e5] at HOk HRk
      have HR5 : Hid (RS p lo wr L (Ev.s5 L).2) := HRk
      have HK5 : Hid (Kp p (p + 1) w wr) := HKk
      have HB5 : Hid (wr.heap[q + 1]? = some (.cells #[Value.int .i64 (Ev.s1 L).1, .int .i64 (Ev.s2 L).1, .int .i64 (Ev.s3 L).1, .slice od k cd, .int .i64 0, .int .i64 0, .int .i64 0, .int .i64 0, .int .i64 0, .int .i64 0] 26 (0, 0))) := HBk
      have HQ5 : Hid (wr.heap[q]? = some (.cells #[Value.int .i64 0, .int .i64 0, .int .i64 0, .slice none 0 0, .int .i64 0, .int .i64 0, .int .i64 0, .int .i64 0, .int .i64 0, .int .i64 0] 26 (0, 0))) := HQk
      have HD5 : Hid (OwnI .i64 3 (q + 2) wr.heap.size wr (.slice od k cd) (Ev.s5 L).1) := HOk
      clear HOk HRk HKk HBk HQk e5
      go_wp2_with fail
      refine (HI.out _ _ HR5.out).mono ?_
      rintro r V6 ⟨rfl, hr, hk⟩
      have hbk := hk.heap HB5.out (.inr (show p + 1 ≤ q + 1 by omega))
      have hqk := hk.heap HQ5.out (.inr (show p + 1 ≤ q by omega))
      obtain ⟨r0, f0⟩ := rowE_cell hbk (k := 4) (show 4 < 10 by decide)
      have HB6 : Hid ((V6.setCell ⟨q + 1, 4, none⟩ (.int .i64 (Ev.s6 L).1)).heap[q + 1]? = some (.cells #[Value.int .i64 (Ev.s1 L).1, .int .i64 (Ev.s2 L).1, .int .i64 (Ev.s3 L).1, .slice od k cd, .int .i64 (Ev.s6 L).1, .int .i64 0, .int .i64 0, .int .i64 0, .int .i64 0, .int .i64 0] 26 (0, 0))) := rowE_set hbk 4 _
      have hks : Kp (q + 1) (q + 2) V6 (V6.setCell ⟨q + 1, 4, none⟩ (.int .i64 (Ev.s6 L).1)) := Kp.setCell (p := ⟨q + 1, 4, none⟩) (Kp.refl _ _ _) (.inr ⟨Nat.le_refl _, Nat.lt_succ_self _⟩) _
      have HQ6 : Hid ((V6.setCell ⟨q + 1, 4, none⟩ (.int .i64 (Ev.s6 L).1)).heap[q]? = some (.cells #[Value.int .i64 0, .int .i64 0, .int .i64 0, .slice none 0 0, .int .i64 0, .int .i64 0, .int .i64 0, .int .i64 0, .int .i64 0, .int .i64 0] 26 (0, 0))) := hks.heap hqk (.inl (Nat.lt_succ_self _))
      have HR6 : Hid (RS p lo (V6.setCell ⟨q + 1, 4, none⟩ (.int .i64 (Ev.s6 L).1)) L (Ev.s6 L).2) := hr.keep hks (fun b h1 h2 => .inl (by omega)) hlp
      have HK6 : Hid (Kp p (p + 1) w (V6.setCell ⟨q + 1, 4, none⟩ (.int .i64 (Ev.s6 L).1))) := (HK5.out.trans hk).step hks (fun j h1 h2 => .inl (by have := HQE.out; omega))
      have HD6 := Lib.hid ((HD5.out.keep hk (fun b h1 h2 => .inr (by have := HQE.out; omega))).keep hks (fun b h1 h2 => .inr h1))
      generalize (Array.getD _ 4 undef) = y0 at r0
      clear hr hk hbk hqk hks
      change Hid _ at HB6
      have hv : (Ev.i1 (Ev.s5 L).2).1 = (Ev.s6 L).1 := rfl
      rw [hv]
      clear hv
      go_wp2_with fail
      generalize V6.setCell ⟨q + 1, 4, none⟩ (.int .i64 (Ev.s6 L).1) = W6 at HB6 HQ6 HR6 HK6 HD6 ⊢
      clear r0 f0
      refine (HI.out _ _ HR6.out).mono ?_
      rintro r V7 ⟨rfl, hr, hk⟩
      have hbk := hk.heap HB6.out (.inr (show p + 1 ≤ q + 1 by omega))
      have hqk := hk.heap HQ6.out (.inr (show p + 1 ≤ q by omega))
      obtain ⟨r0, f0⟩ := rowE_cell hbk (k := 5) (show 5 < 10 by decide)
      have HB7 : Hid ((V7.setCell ⟨q + 1, 5, none⟩ (.int .i64 (Ev.s7 L).1)).heap[q + 1]? = some (.cells #[Value.int .i64 (Ev.s1 L).1, .int .i64 (Ev.s2 L).1, .int .i64 (Ev.s3 L).1, .slice od k cd, .int .i64 (Ev.s6 L).1, .int .i64 (Ev.s7 L).1, .int .i64 0, .int .i64 0, .int .i64 0, .int .i64 0] 26 (0, 0))) := rowE_set hbk 5 _
      have hks : Kp (q + 1) (q + 2) V7 (V7.setCell ⟨q + 1, 5, none⟩ (.int .i64 (Ev.s7 L).1)) := Kp.setCell (p := ⟨q + 1, 5, none⟩) (Kp.refl _ _ _) (.inr ⟨Nat.le_refl _, Nat.lt_succ_self _⟩) _
      have HQ7 : Hid ((V7.setCell ⟨q + 1, 5, none⟩ (.int .i64 (Ev.s7 L).1)).heap[q]? = some (.cells #[Value.int .i64 0, .int .i64 0, .int .i64 0, .slice none 0 0, .int .i64 0, .int .i64 0, .int .i64 0, .int .i64 0, .int .i64 0, .int .i64 0] 26 (0, 0))) := hks.heap hqk (.inl (Nat.lt_succ_self _))
      have HR7 : Hid (RS p lo (V7.setCell ⟨q + 1, 5, none⟩ (.int .i64 (Ev.s7 L).1)) L (Ev.s7 L).2) := hr.keep hks (fun b h1 h2 => .inl (by omega)) hlp
      have HK7 : Hid (Kp p (p + 1) w (V7.setCell ⟨q + 1, 5, none⟩ (.int .i64 (Ev.s7 L).1))) := (HK6.out.trans hk).step hks (fun j h1 h2 => .inl (by have := HQE.out; omega))
      have HD7 := Lib.hid ((HD6.out.keep hk (fun b h1 h2 => .inr (by have := HQE.out; omega))).keep hks (fun b h1 h2 => .inr h1))
      generalize (Array.getD _ 5 undef) = y0 at r0
      clear hr hk hbk hqk hks
      change Hid _ at HB7
      have hv : (Ev.i1 (Ev.s6 L).2).1 = (Ev.s7 L).1 := rfl
      rw [hv]
      clear hv
      go_wp2_with fail
      generalize V7.setCell ⟨q + 1, 5, none⟩ (.int .i64 (Ev.s7 L).1) = W7 at HB7 HQ7 HR7 HK7 HD7 ⊢
      clear r0 f0
      refine (HI.out _ _ HR7.out).mono ?_
      rintro r V8 ⟨rfl, hr, hk⟩
      have hbk := hk.heap HB7.out (.inr (show p + 1 ≤ q + 1 by omega))
      have hqk := hk.heap HQ7.out (.inr (show p + 1 ≤ q by omega))
      obtain ⟨r0, f0⟩ := rowE_cell hbk (k := 6) (show 6 < 10 by decide)
      have HB8 : Hid ((V8.setCell ⟨q + 1, 6, none⟩ (.int .i64 (Ev.s8 L).1)).heap[q + 1]? = some (.cells #[Value.int .i64 (Ev.s1 L).1, .int .i64 (Ev.s2 L).1, .int .i64 (Ev.s3 L).1, .slice od k cd, .int .i64 (Ev.s6 L).1, .int .i64 (Ev.s7 L).1, .int .i64 (Ev.s8 L).1, .int .i64 0, .int .i64 0, .int .i64 0] 26 (0, 0))) := rowE_set hbk 6 _
      have hks : Kp (q + 1) (q + 2) V8 (V8.setCell ⟨q + 1, 6, none⟩ (.int .i64 (Ev.s8 L).1)) := Kp.setCell (p := ⟨q + 1, 6, none⟩) (Kp.refl _ _ _) (.inr ⟨Nat.le_refl _, Nat.lt_succ_self _⟩) _
      have HQ8 : Hid ((V8.setCell ⟨q + 1, 6, none⟩ (.int .i64 (Ev.s8 L).1)).heap[q]? = some (.cells #[Value.int .i64 0, .int .i64 0, .int .i64 0, .slice none 0 0, .int .i64 0, .int .i64 0, .int .i64 0, .int .i64 0, .int .i64 0, .int .i64 0] 26 (0, 0))) := hks.heap hqk (.inl (Nat.lt_succ_self _))
      have HR8 : Hid (RS p lo (V8.setCell ⟨q + 1, 6, none⟩ (.int .i64 (Ev.s8 L).1)) L (Ev.s8 L).2) := hr.keep hks (fun b h1 h2 => .inl (by omega)) hlp
      have HK8 : Hid (Kp p (p + 1) w (V8.setCell ⟨q + 1, 6, none⟩ (.int .i64 (Ev.s8 L).1))) := (HK7.out.trans hk).step hks (fun j h1 h2 => .inl (by have := HQE.out; omega))
      have HD8 := Lib.hid ((HD7.out.keep hk (fun b h1 h2 => .inr (by have := HQE.out; omega))).keep hks (fun b h1 h2 => .inr h1))
      generalize (Array.getD _ 6 undef) = y0 at r0
      clear hr hk hbk hqk hks
      change Hid _ at HB8
      have hv : (Ev.i1 (Ev.s7 L).2).1 = (Ev.s8 L).1 := rfl
      rw [hv]
      clear hv
      go_wp2_with fail
      generalize V8.setCell ⟨q + 1, 6, none⟩ (.int .i64 (Ev.s8 L).1) = W8 at HB8 HQ8 HR8 HK8 HD8 ⊢
      clear r0 f0
      refine (HI.out _ _ HR8.out).mono ?_
      rintro r V9 ⟨rfl, hr, hk⟩
      have hbk := hk.heap HB8.out (.inr (show p + 1 ≤ q + 1 by omega))
      have hqk := hk.heap HQ8.out (.inr (show p + 1 ≤ q by omega))
      obtain ⟨r0, f0⟩ := rowE_cell hbk (k := 7) (show 7 < 10 by decide)
      have HB9 : Hid ((V9.setCell ⟨q + 1, 7, none⟩ (.int .i64 (Ev.s9 L).1)).heap[q + 1]? = some (.cells #[Value.int .i64 (Ev.s1 L).1, .int .i64 (Ev.s2 L).1, .int .i64 (Ev.s3 L).1, .slice od k cd, .int .i64 (Ev.s6 L).1, .int .i64 (Ev.s7 L).1, .int .i64 (Ev.s8 L).1, .int .i64 (Ev.s9 L).1, .int .i64 0, .int .i64 0] 26 (0, 0))) := rowE_set hbk 7 _
      have hks : Kp (q + 1) (q + 2) V9 (V9.setCell ⟨q + 1, 7, none⟩ (.int .i64 (Ev.s9 L).1)) := Kp.setCell (p := ⟨q + 1, 7, none⟩) (Kp.refl _ _ _) (.inr ⟨Nat.le_refl _, Nat.lt_succ_self _⟩) _
      have HQ9 : Hid ((V9.setCell ⟨q + 1, 7, none⟩ (.int .i64 (Ev.s9 L).1)).heap[q]? = some (.cells #[Value.int .i64 0, .int .i64 0, .int .i64 0, .slice none 0 0, .int .i64 0, .int .i64 0, .int .i64 0, .int .i64 0, .int .i64 0, .int .i64 0] 26 (0, 0))) := hks.heap hqk (.inl (Nat.lt_succ_self _))
      have HR9 : Hid (RS p lo (V9.setCell ⟨q + 1, 7, none⟩ (.int .i64 (Ev.s9 L).1)) L (Ev.s9 L).2) := hr.keep hks (fun b h1 h2 => .inl (by omega)) hlp
      have HK9 : Hid (Kp p (p + 1) w (V9.setCell ⟨q + 1, 7, none⟩ (.int .i64 (Ev.s9 L).1))) := (HK8.out.trans hk).step hks (fun j h1 h2 => .inl (by have := HQE.out; omega))
      have HD9 := Lib.hid ((HD8.out.keep hk (fun b h1 h2 => .inr (by have := HQE.out; omega))).keep hks (fun b h1 h2 => .inr h1))
      generalize (Array.getD _ 7 undef) = y0 at r0
      clear hr hk hbk hqk hks
      change Hid _ at HB9
      have hv : (Ev.i1 (Ev.s8 L).2).1 = (Ev.s9 L).1 := rfl
      rw [hv]
      clear hv
      go_wp2_with fail
      generalize V9.setCell ⟨q + 1, 7, none⟩ (.int .i64 (Ev.s9 L).1) = W9 at HB9 HQ9 HR9 HK9 HD9 ⊢
      clear r0 f0
      refine (HI.out _ _ HR9.out).mono ?_
      rintro r V10 ⟨rfl, hr, hk⟩
      have hbk := hk.heap HB9.out (.inr (show p + 1 ≤ q + 1 by omega))
      have hqk := hk.heap HQ9.out (.inr (show p + 1 ≤ q by omega))
      obtain ⟨r0, f0⟩ := rowE_cell hbk (k := 8) (show 8 < 10 by decide)
      have HB10 : Hid ((V10.setCell ⟨q + 1, 8, none⟩ (.int .i64 (Ev.s10 L).1)).heap[q + 1]? = some (.cells #[Value.int .i64 (Ev.s1 L).1, .int .i64 (Ev.s2 L).1, .int .i64 (Ev.s3 L).1, .slice od k cd, .int .i64 (Ev.s6 L).1, .int .i64 (Ev.s7 L).1, .int .i64 (Ev.s8 L).1, .int .i64 (Ev.s9 L).1, .int .i64 (Ev.s10 L).1, .int .i64 0] 26 (0, 0))) := rowE_set hbk 8 _
      have hks : Kp (q + 1) (q + 2) V10 (V10.setCell ⟨q + 1, 8, none⟩ (.int .i64 (Ev.s10 L).1)) := Kp.setCell (p := ⟨q + 1, 8, none⟩) (Kp.refl _ _ _) (.inr ⟨Nat.le_refl _, Nat.lt_succ_self _⟩) _
      have HQ10 : Hid ((V10.setCell ⟨q + 1, 8, none⟩ (.int .i64 (Ev.s10 L).1)).heap[q]? = some (.cells #[Value.int .i64 0, .int .i64 0, .int .i64 0, .slice none 0 0, .int .i64 0, .int .i64 0, .int .i64 0, .int .i64 0, .int .i64 0, .int .i64 0] 26 (0, 0))) := hks.heap hqk (.inl (Nat.lt_succ_self _))
      have HR10 : Hid (RS p lo (V10.setCell ⟨q + 1, 8, none⟩ (.int .i64 (Ev.s10 L).1)) L (Ev.s10 L).2) := hr.keep hks (fun b h1 h2 => .inl (by omega)) hlp
      have HK10 : Hid (Kp p (p + 1) w (V10.setCell ⟨q + 1, 8, none⟩ (.int .i64 (Ev.s10 L).1))) := (HK9.out.trans hk).step hks (fun j h1 h2 => .inl (by have := HQE.out; omega))
      have HD10 := Lib.hid ((HD9.out.keep hk (fun b h1 h2 => .inr (by have := HQE.out; omega))).keep hks (fun b h1 h2 => .inr h1))
      generalize (Array.getD _ 8 undef) = y0 at r0
      clear hr hk hbk hqk hks
      change Hid _ at HB10
      have hv : (Ev.i1 (Ev.s9 L).2).1 = (Ev.s10 L).1 := rfl
      rw [hv]
      clear hv
      go_wp2_with fail
      generalize V10.setCell ⟨q + 1, 8, none⟩ (.int .i64 (Ev.s10 L).1) = W10 at HB10 HQ10 HR10 HK10 HD10 ⊢
      clear r0 f0
      refine (HI.out _ _ HR10.out).mono ?_
      rintro r V11 ⟨rfl, hr, hk⟩
      have hbk := hk.heap HB10.out (.inr (show p + 1 ≤ q + 1 by omega))
      have hqk := hk.heap HQ10.out (.inr (show p + 1 ≤ q by omega))
      obtain ⟨r0, f0⟩ := rowE_cell hbk (k := 9) (show 9 < 10 by decide)
      have HB11 : Hid ((V11.setCell ⟨q + 1, 9, none⟩ (.int .i64 (Ev.s11 L).1)).heap[q + 1]? = some (.cells #[Value.int .i64 (Ev.s1 L).1, .int .i64 (Ev.s2 L).1, .int .i64 (Ev.s3 L).1, .slice od k cd, .int .i64 (Ev.s6 L).1, .int .i64 (Ev.s7 L).1, .int .i64 (Ev.s8 L).1, .int .i64 (Ev.s9 L).1, .int .i64 (Ev.s10 L).1, .int .i64 (Ev.s11 L).1] 26 (0, 0))) := rowE_set hbk 9 _
      have hks : Kp (q + 1) (q + 2) V11 (V11.setCell ⟨q + 1, 9, none⟩ (.int .i64 (Ev.s11 L).1)) := Kp.setCell (p := ⟨q + 1, 9, none⟩) (Kp.refl _ _ _) (.inr ⟨Nat.le_refl _, Nat.lt_succ_self _⟩) _
      have HQ11 : Hid ((V11.setCell ⟨q + 1, 9, none⟩ (.int .i64 (Ev.s11 L).1)).heap[q]? = some (.cells #[Value.int .i64 0, .int .i64 0, .int .i64 0, .slice none 0 0, .int .i64 0, .int .i64 0, .int .i64 0, .int .i64 0, .int .i64 0, .int .i64 0] 26 (0, 0))) := hks.heap hqk (.inl (Nat.lt_succ_self _))
      have HR11 : Hid (RS p lo (V11.setCell ⟨q + 1, 9, none⟩ (.int .i64 (Ev.s11 L).1)) L (Ev.s11 L).2) := hr.keep hks (fun b h1 h2 => .inl (by omega)) hlp
      have HK11 : Hid (Kp p (p + 1) w (V11.setCell ⟨q + 1, 9, none⟩ (.int .i64 (Ev.s11 L).1))) := (HK10.out.trans hk).step hks (fun j h1 h2 => .inl (by have := HQE.out; omega))
      have HD11 := Lib.hid ((HD10.out.keep hk (fun b h1 h2 => .inr (by have := HQE.out; omega))).keep hks (fun b h1 h2 => .inr h1))
      generalize (Array.getD _ 9 undef) = y0 at r0
      clear hr hk hbk hqk hks
      change Hid _ at HB11
      have hv : (Ev.i1 (Ev.s10 L).2).1 = (Ev.s11 L).1 := rfl
      rw [hv]
      clear hv
      obtain ⟨a0, _⟩ := rowE_cell HB11.out (k := 0) (show 0 < 10 by decide)
      change _ = some (Value.int .i64 (Ev.s1 L).1) at a0
      obtain ⟨b0, g0⟩ := rowE_cell HQ11.out (k := 0) (show 0 < 10 by decide)
      obtain ⟨a1, _⟩ := rowE_cell HB11.out (k := 1) (show 1 < 10 by decide)
      change _ = some (Value.int .i64 (Ev.s2 L).1) at a1
      obtain ⟨b1, g1⟩ := rowE_cell HQ11.out (k := 1) (show 1 < 10 by decide)
      obtain ⟨a2, _⟩ := rowE_cell HB11.out (k := 2) (show 2 < 10 by decide)
      change _ = some (Value.int .i64 (Ev.s3 L).1) at a2
      obtain ⟨b2, g2⟩ := rowE_cell HQ11.out (k := 2) (show 2 < 10 by decide)
      obtain ⟨a3, _⟩ := rowE_cell HB11.out (k := 3) (show 3 < 10 by decide)
      change _ = some (Value.slice od k cd) at a3
      obtain ⟨b3, g3⟩ := rowE_cell HQ11.out (k := 3) (show 3 < 10 by decide)
      obtain ⟨a4, _⟩ := rowE_cell HB11.out (k := 4) (show 4 < 10 by decide)
      change _ = some (Value.int .i64 (Ev.s6 L).1) at a4
      obtain ⟨b4, g4⟩ := rowE_cell HQ11.out (k := 4) (show 4 < 10 by decide)
      obtain ⟨a5, _⟩ := rowE_cell HB11.out (k := 5) (show 5 < 10 by decide)
      change _ = some (Value.int .i64 (Ev.s7 L).1) at a5
      obtain ⟨b5, g5⟩ := rowE_cell HQ11.out (k := 5) (show 5 < 10 by decide)
      obtain ⟨a6, _⟩ := rowE_cell HB11.out (k := 6) (show 6 < 10 by decide)
      change _ = some (Value.int .i64 (Ev.s8 L).1) at a6
      obtain ⟨b6, g6⟩ := rowE_cell HQ11.out (k := 6) (show 6 < 10 by decide)
      obtain ⟨a7, _⟩ := rowE_cell HB11.out (k := 7) (show 7 < 10 by decide)
      change _ = some (Value.int .i64 (Ev.s9 L).1) at a7
      obtain ⟨b7, g7⟩ := rowE_cell HQ11.out (k := 7) (show 7 < 10 by decide)
      obtain ⟨a8, _⟩ := rowE_cell HB11.out (k := 8) (show 8 < 10 by decide)
      change _ = some (Value.int .i64 (Ev.s10 L).1) at a8
      obtain ⟨b8, g8⟩ := rowE_cell HQ11.out (k := 8) (show 8 < 10 by decide)
      obtain ⟨a9, _⟩ := rowE_cell HB11.out (k := 9) (show 9 < 10 by decide)
      change _ = some (Value.int .i64 (Ev.s11 L).1) at a9
      obtain ⟨b9, g9⟩ := rowE_cell HQ11.out (k := 9) (show 9 < 10 by decide)
      generalize (Array.getD _ 0 undef) = z0 at b0
      generalize (Array.getD _ 1 undef) = z1 at b1
      generalize (Array.getD _ 2 undef) = z2 at b2
      generalize (Array.getD _ 3 undef) = z3 at b3
      generalize (Array.getD _ 4 undef) = z4 at b4
      generalize (Array.getD _ 5 undef) = z5 at b5
      generalize (Array.getD _ 6 undef) = z6 at b6
      generalize (Array.getD _ 7 undef) = z7 at b7
      generalize (Array.getD _ 8 undef) = z8 at b8
      generalize (Array.getD _ 9 undef) = z9 at b9
      have hq11 := HQ11.out
      go_wp2_with fail
      obtain ⟨hst, hsk⟩ := store_ten hq11 rfl (Value.int .i64 (Ev.s1 L).1) (Value.int .i64 (Ev.s2 L).1) (Value.int .i64 (Ev.s3 L).1) (Value.slice od k cd) (Value.int .i64 (Ev.s6 L).1) (Value.int .i64 (Ev.s7 L).1) (Value.int .i64 (Ev.s8 L).1) (Value.int .i64 (Ev.s9 L).1) (Value.int .i64 (Ev.s10 L).1) (Value.int .i64 (Ev.s11 L).1)
      generalize hF : ((((((((((V11.setCell ⟨q + 1, 9, none⟩ (.int .i64 (Ev.s11 L).1)).setCell ⟨q, 0, none⟩ (Value.int .i64 (Ev.s1 L).1)).setCell ⟨q, 1, none⟩ (Value.int .i64 (Ev.s2 L).1)).setCell ⟨q, 2, none⟩ (Value.int .i64 (Ev.s3 L).1)).setCell ⟨q, 3, none⟩ (Value.slice od k cd)).setCell ⟨q, 4, none⟩ (Value.int .i64 (Ev.s6 L).1)).setCell ⟨q, 5, none⟩ (Value.int .i64 (Ev.s7 L).1)).setCell ⟨q, 6, none⟩ (Value.int .i64 (Ev.s8 L).1)).setCell ⟨q, 7, none⟩ (Value.int .i64 (Ev.s9 L).1)).setCell ⟨q, 8, none⟩ (Value.int .i64 (Ev.s10 L).1)).setCell ⟨q, 9, none⟩ (Value.int .i64 (Ev.s11 L).1) = F at hst hsk ⊢
      clear hF
      obtain ⟨e0, _⟩ := rowE_cell hst (k := 0) (show 0 < 10 by decide)
      change _ = some (Value.int .i64 (Ev.s1 L).1) at e0
      obtain ⟨e1, _⟩ := rowE_cell hst (k := 1) (show 1 < 10 by decide)
      change _ = some (Value.int .i64 (Ev.s2 L).1) at e1
      obtain ⟨e2, _⟩ := rowE_cell hst (k := 2) (show 2 < 10 by decide)
      change _ = some (Value.int .i64 (Ev.s3 L).1) at e2
      obtain ⟨e3, _⟩ := rowE_cell hst (k := 3) (show 3 < 10 by decide)
      change _ = some (Value.slice od k cd) at e3
      obtain ⟨e4, _⟩ := rowE_cell hst (k := 4) (show 4 < 10 by decide)
      change _ = some (Value.int .i64 (Ev.s6 L).1) at e4
      obtain ⟨e5, _⟩ := rowE_cell hst (k := 5) (show 5 < 10 by decide)
      change _ = some (Value.int .i64 (Ev.s7 L).1) at e5
      obtain ⟨e6, _⟩ := rowE_cell hst (k := 6) (show 6 < 10 by decide)
      change _ = some (Value.int .i64 (Ev.s8 L).1) at e6
      obtain ⟨e7, _⟩ := rowE_cell hst (k := 7) (show 7 < 10 by decide)
      change _ = some (Value.int .i64 (Ev.s9 L).1) at e7
      obtain ⟨e8, _⟩ := rowE_cell hst (k := 8) (show 8 < 10 by decide)
      change _ = some (Value.int .i64 (Ev.s10 L).1) at e8
      obtain ⟨e9, _⟩ := rowE_cell hst (k := 9) (show 9 < 10 by decide)
      change _ = some (Value.int .i64 (Ev.s11 L).1) at e9
      try simp only [Exit.inBlock, Exit.then]
      refine bodyPost_ret (by simp [results, Try.results32, go_sem, e0, e1, e2, e3, e4, e5, e6, e7, e8, e9]; try rfl) rfl ?_
      refine ⟨.slice od k cd, rfl, ?_, ?_, ?_⟩
      · exact (((HD11.out.keep hsk (fun b h1 h2 => .inr (by omega))).wide (by have := HQE.out; omega) (Nat.le_refl _))).there
      · exact HR11.out.keep hsk (fun b h1 h2 => .inl (by omega)) hlp
      · exact HK11.out.step hsk (fun j h1 h2 => .inl (by have := HQE.out; omega))

end Go.Proofs.Ytnboeagallkooaa
