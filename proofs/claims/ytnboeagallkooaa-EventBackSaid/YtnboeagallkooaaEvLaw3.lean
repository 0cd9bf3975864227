/-
  EventBack as a contract.
-/
import Derived.Test.YtnboeagallkooaaEvLaw2
namespace Go.Proofs.Ytnboeagallkooaa
open Go.RowKit

set_option maxRecDepth 100000 in
set_option maxHeartbeats 4000000 in
theorem eback_any (HC : ECheckOk) (HP : EPutOk) (HG : EGetOk) {l1 h1 l2 h2 : Nat} (e : Evt) (B : List Int) (m : Nat) (w : World) (dv vb : Value) (hd : RdI .i64 l1 h1 w dv e.d) (he : Ev.Fits e) (hb : RdI .u8 l2 h2 w vb B) (hB : ∀ y ∈ B, 0 ≤ y ∧ y < 256) (hm : m < 256) :
    Calls Try.prog 5 #[evV e dv, vb, .int .u8 (m : Int)] w fun r w' => r = .returned (.bool true) ∧ Kp 0 0 w w' := by
  have HD := Lib.hid hd
  have HF := Lib.hid he
  have HBB := Lib.hid hb
  have HBY := Lib.hid hB
  obtain ⟨ao, c, rfl, hb1, hb2, _⟩ := hd.open
  obtain ⟨bo, cb, rfl, hb3, hb4, _⟩ := hb.open
  clear hd he hb hB
  unfold evV
  by_cases h20 : 200 < e.d.length
  · go_enter Try.func5, Try.ntmps5
    go_wp2_with fail
    refine (eknown_any HC HP HG _).mono ?_
    rintro r w1 ⟨rfl, hk⟩
    go_wp2_with fail
    go_returns
    exact ⟨rfl, ((Kp.refl _ _ _).alloc _).trans hk⟩
  by_cases h21 : 4096 < B.length
  · go_enter Try.func5, Try.ntmps5
    go_wp2_with fail
    refine (eknown_any HC HP HG _).mono ?_
    rintro r w1 ⟨rfl, hk⟩
    go_wp2_with fail
    go_returns
    exact ⟨rfl, ((Kp.refl _ _ _).alloc _).trans hk⟩
  have HP1 : Hid (∀ W, Kp 0 0 w W → Calls Try.prog 13 #[.agg #[Value.int .i64 e.o, .int .i64 e.s, .int .i64 e.l, .slice ao e.d.length c, .int .i64 e.t, .int .i64 e.a, .int .i64 e.f, .int .i64 e.p, .int .i64 e.r, .int .i64 e.k]] W fun r w' => (∃ o c, r = .returned (.tuple #[.slice o (Ev.put e).1.length c, .int .i64 (Ev.put e).2]) ∧ RdI .u8 0 w'.heap.size w' (.slice o (Ev.put e).1.length c) (Ev.put e).1) ∧ Kp 0 0 W w') := fun W hW => (HP _ _ e W _ (HD.out.keep0 hW) HF.out (by omega)).mono fun r w' h => by
    obtain ⟨v, he, ho, hk⟩ := h
    obtain ⟨o, c, rfl, _, _, _⟩ := ho.rd.open
    exact ⟨⟨o, c, he, ho.rd.wide (Nat.zero_le _) (Nat.le_refl _)⟩, hk⟩
  have HG1 : Hid (∀ W (L : List Int) v hi, RdI .u8 0 hi W v L → (∀ y ∈ L, 0 ≤ y ∧ y < 256) → L.length ≤ 10000 → Calls Try.prog 16 #[v] W fun r w' => (∃ o c, r = .returned (.tuple #[evV (Ev.get L).1 (.slice o (Ev.get L).1.d.length c), .int .i64 (Ev.get L).2]) ∧ RdI .i64 0 w'.heap.size w' (.slice o (Ev.get L).1.d.length c) (Ev.get L).1.d) ∧ Kp 0 0 W w') := fun W L v hi hv hl hn => (HG _ _ L W v hv hl (by omega)).mono fun r w' h => by
    obtain ⟨v, he, ho, hk⟩ := h
    obtain ⟨o, c, rfl, _, _, _⟩ := ho.rd.open
    exact ⟨⟨o, c, he, ho.rd.wide (Nat.zero_le _) (Nat.le_refl _)⟩, hk⟩
  by_cases h64 : e.d.length ≤ 64
  · have hpe : Ev.put e = (Ev.encs (Ev.nums e), 0) := if_neg (by omega)
    have hpl := put_len e HF.out
    rw [hpe] at HP1 hpl
    have hln : 1 ≤ (Ev.encs (Ev.nums e)).length := by
      have := (Ev.encs_len (i64s_nums HF.out (by omega))).1
      have h2 : (Ev.nums e).length = 4 + e.d.length + 6 := by simp [Ev.nums, Ev.pre, Ev.post]; omega
      omega
    have HXB : Hid (∀ y ∈ Ev.encs (Ev.nums e), 0 ≤ y ∧ y < 256) := Ev.encs_range (i64s_nums HF.out (by omega))
    have GX1 := Lib.hid (Ev.get_put HF.out h64)
    have GX2 := Lib.hid (Ev.get_more HF.out h64 (m : Int))
    have GX3 := Lib.hid (Ev.get_less HF.out h64)
    clear hpe
    generalize Ev.encs (Ev.nums e) = X at *
    simp only at HP1 hpl
    have hle : (e.d.length : Int) ≤ 64 := by omega
    go_enter Try.func5, Try.ntmps5
    go_wp2_with fail
    have d1 : decide ((200 : Int) < (e.d.length : Int)) = false := decide_eq_false (by omega)
    have d2 : decide ((4096 : Int) < (B.length : Int)) = false := decide_eq_false (by omega)
    try rw [d1, d2]
    clear d1 d2
    have HKA : Hid (Kp 0 0 w (w.alloc (.cells #[Value.int .i64 e.o, .int .i64 e.s, .int .i64 e.l, .slice ao e.d.length c, .int .i64 e.t, .int .i64 e.a, .int .i64 e.f, .int .i64 e.p, .int .i64 e.r, .int .i64 e.k] 26))) := (Kp.refl _ _ _).alloc _
    have HBA : Hid ((w.alloc (.cells #[Value.int .i64 e.o, .int .i64 e.s, .int .i64 e.l, .slice ao e.d.length c, .int .i64 e.t, .int .i64 e.a, .int .i64 e.f, .int .i64 e.p, .int .i64 e.r, .int .i64 e.k] 26)).heap[w.heap.size]? = some (.cells #[Value.int .i64 e.o, .int .i64 e.s, .int .i64 e.l, .slice ao e.d.length c, .int .i64 e.t, .int .i64 e.a, .int .i64 e.f, .int .i64 e.p, .int .i64 e.r, .int .i64 e.k] 26 (0, 0))) := heap_alloc_new w _
    generalize w.alloc (.cells #[Value.int .i64 e.o, .int .i64 e.s, .int .i64 e.l, .slice ao e.d.length c, .int .i64 e.t, .int .i64 e.a, .int .i64 e.f, .int .i64 e.p, .int .i64 e.r, .int .i64 e.k] 26) = wa at HKA HBA ⊢
    generalize w.heap.size = pa at HBA ⊢
    refine (HP1.out _ HKA.out).mono ?_
    rintro r w1 ⟨⟨o1, c1, rfl, hr⟩, hk⟩
    have HX1 := Lib.hid hr
    have hb1' := hk.heap HBA.out (.inr (Nat.zero_le _))
    have HBA1 := Lib.hid hb1'
    have HK1 := Lib.hid (HKA.out.trans hk)
    obtain ⟨_, _, he', hx1, hx2, _⟩ := hr.open
    cases he'
    clear hk hr
    obtain ⟨a0, _⟩ := rowE_cell hb1' (k := 0) (show 0 < 10 by decide)
    change _ = some (Value.int .i64 e.o) at a0
    obtain ⟨a1, _⟩ := rowE_cell hb1' (k := 1) (show 1 < 10 by decide)
    change _ = some (Value.int .i64 e.s) at a1
    obtain ⟨a2, _⟩ := rowE_cell hb1' (k := 2) (show 2 < 10 by decide)
    change _ = some (Value.int .i64 e.l) at a2
    obtain ⟨a3, _⟩ := rowE_cell hb1' (k := 3) (show 3 < 10 by decide)
    change _ = some (Value.slice ao e.d.length c) at a3
    obtain ⟨a4, _⟩ := rowE_cell hb1' (k := 4) (show 4 < 10 by decide)
    change _ = some (Value.int .i64 e.t) at a4
    obtain ⟨a5, _⟩ := rowE_cell hb1' (k := 5) (show 5 < 10 by decide)
    change _ = some (Value.int .i64 e.a) at a5
    obtain ⟨a6, _⟩ := rowE_cell hb1' (k := 6) (show 6 < 10 by decide)
    change _ = some (Value.int .i64 e.f) at a6
    obtain ⟨a7, _⟩ := rowE_cell hb1' (k := 7) (show 7 < 10 by decide)
    change _ = some (Value.int .i64 e.p) at a7
    obtain ⟨a8, _⟩ := rowE_cell hb1' (k := 8) (show 8 < 10 by decide)
    change _ = some (Value.int .i64 e.r) at a8
    obtain ⟨a9, _⟩ := rowE_cell hb1' (k := 9) (show 9 < 10 by decide)
    change _ = some (Value.int .i64 e.k) at a9
    clear hb1'
    go_wp2_with fail
    clear a0 a1 a2 a3 a4 a5 a6 a7 a8 a9
    refine (HG1.out _ X _ _ HX1.out HXB.out (by omega)).mono ?_
    rw [GX1.out]
    rintro r w2 ⟨⟨oy, cy, rfl, hr⟩, hk⟩
    have HY2 := Lib.hid hr
    have HX2 := Lib.hid (HX1.out.keep0 hk)
    have HBA2 := Lib.hid (hk.heap HBA1.out (.inr (Nat.zero_le _)))
    have HK2 := Lib.hid (HK1.out.trans hk)
    clear hk hr
    unfold evV
    have HKY : Hid (Kp 0 0 w2 (w2.alloc (.cells #[Value.int .i64 e.o, .int .i64 e.s, .int .i64 e.l, .slice oy e.d.length cy, .int .i64 e.t, .int .i64 e.a, .int .i64 e.f, .int .i64 e.p, .int .i64 e.r, .int .i64 e.k] 26))) := (Kp.refl _ _ _).alloc _
    have HKE : Hid (Kp 0 0 w2 ((w2.alloc (.cells #[Value.int .i64 e.o, .int .i64 e.s, .int .i64 e.l, .slice oy e.d.length cy, .int .i64 e.t, .int .i64 e.a, .int .i64 e.f, .int .i64 e.p, .int .i64 e.r, .int .i64 e.k] 26)).alloc (.cells #[] 5))) := HKY.out.alloc _
    have hs2 : (w2.alloc (.cells #[Value.int .i64 e.o, .int .i64 e.s, .int .i64 e.l, .slice oy e.d.length cy, .int .i64 e.t, .int .i64 e.a, .int .i64 e.f, .int .i64 e.p, .int .i64 e.r, .int .i64 e.k] 26)).heap.size = w2.heap.size + 1 := by simp
    have HBY2 : Hid (((w2.alloc (.cells #[Value.int .i64 e.o, .int .i64 e.s, .int .i64 e.l, .slice oy e.d.length cy, .int .i64 e.t, .int .i64 e.a, .int .i64 e.f, .int .i64 e.p, .int .i64 e.r, .int .i64 e.k] 26)).alloc (.cells #[] 5)).heap[w2.heap.size]? = some (.cells #[Value.int .i64 e.o, .int .i64 e.s, .int .i64 e.l, .slice oy e.d.length cy, .int .i64 e.t, .int .i64 e.a, .int .i64 e.f, .int .i64 e.p, .int .i64 e.r, .int .i64 e.k] 26 (0, 0))) := ((Kp.refl 0 0 _).alloc _).heap (heap_alloc_new w2 _) (.inr (Nat.zero_le _))
    have HE0 : Hid (((w2.alloc (.cells #[Value.int .i64 e.o, .int .i64 e.s, .int .i64 e.l, .slice oy e.d.length cy, .int .i64 e.t, .int .i64 e.a, .int .i64 e.f, .int .i64 e.p, .int .i64 e.r, .int .i64 e.k] 26)).alloc (.cells #[] 5)).ownsRow (w2.heap.size + 1) 5 1 (.slice (some ⟨w2.heap.size + 1, 0, none⟩) 0 0) 0 []) := by
      have h := own_lit (w := w2.alloc (.cells #[Value.int .i64 e.o, .int .i64 e.s, .int .i64 e.l, .slice oy e.d.length cy, .int .i64 e.t, .int .i64 e.a, .int .i64 e.f, .int .i64 e.p, .int .i64 e.r, .int .i64 e.k] 26)) (base := w2.heap.size + 1) (n := 0) #[] 5 (by rw [hs2]; exact Nat.le_refl _) rfl (by decide)
      rw [hs2] at h
      exact h
    have hse : w2.heap.size + 1 ≤ ((w2.alloc (.cells #[Value.int .i64 e.o, .int .i64 e.s, .int .i64 e.l, .slice oy e.d.length cy, .int .i64 e.t, .int .i64 e.a, .int .i64 e.f, .int .i64 e.p, .int .i64 e.r, .int .i64 e.k] 26)).alloc (.cells #[] 5)).heap.size := by simp
    have HSE := Lib.hid hse
    clear hs2 hse
    obtain ⟨i0, hi, hz0, hz1, hz2⟩ := info_parts info_u8
    go_wp2_with (at_builtin; refine wpList_app rfl _ _ 33 rfl (w2.heap.size + 1) 5 .u8 1 Try.underlying33 info_u8 _ 0 [] rfl HE0.out _ rfl X (HX2.out.keep0 HKE.out) ?c3 ?c4 ?c5 ?_)
    case c3 => unfold maxLen; omega
    case c4 => omega
    case c5 => exact HSE.out
    intro v3 w3 hown hg
    have HKW : Hid (Kp (w2.heap.size + 1) (w2.heap.size + 2) w2 w3) := HKE.out.any.grown hg fun j hj => .inr (by simp only [Value.ownBlock, Option.some.injEq] at hj; omega)
    have HO3 := Lib.hid hown
    have HBY3 : Hid (w3.heap[w2.heap.size]? = some (.cells #[Value.int .i64 e.o, .int .i64 e.s, .int .i64 e.l, .slice oy e.d.length cy, .int .i64 e.t, .int .i64 e.a, .int .i64 e.f, .int .i64 e.p, .int .i64 e.r, .int .i64 e.k] 26 (0, 0))) := by
      have hne : (Value.slice (some ⟨w2.heap.size + 1, 0, none⟩) 0 0).ownBlock ≠ some w2.heap.size := by simp [Value.ownBlock]
      rw [hg.block w2.heap.size (heap_lt HBY2.out) (fun h => hne h.symm)]
      exact HBY2.out
    have HK3 : Hid (Kp 0 0 w w3) := HK2.out.step HKW.out fun j h1 h2 => .inl (by have := HK2.out.size; omega)
    have HX3 := Lib.hid (HX2.out.there.keep HKW.out fun b h1 h2 => .inl (by omega))
    have HY3 := Lib.hid (HY2.out.keep HKW.out fun b h1 h2 => .inl (by omega))
    have HBA3 := Lib.hid (HKW.out.heap HBA2.out (.inl (by have := heap_lt HBA2.out; omega)))
    have HSZ3 : Hid (w2.heap.size + 1 ≤ w3.heap.size) := Nat.le_trans HSE.out hg.size
    generalize hpy : w2.heap.size = py at HBY3 HSZ3 HO3 HX3 HY3 ⊢
    have HPY := Lib.hid hpy
    clear hown hg HE0 HSE HBY2 HKE HKY HKW hpy
    go_wp2_with (at_builtin; refine wpList_append_own _ rfl _ _ 33 rfl (py + 1) 5 i0 (.int .u8 0) 1 1 Try.underlying33 hi hz0 hz1 hz2 rfl (by decide) _ _ _ rfl (HO3.out.alloc _) ⟨w3.heap.size, 0, none⟩ 1 1 [.int .u8 (m : Int)] rfl rfl (cell_one _ _ _) (by simp [Value.oneCell']) ?c3 ?c4 ?c5 ?_)
    case c3 => unfold maxLen; omega
    case c4 => omega
    case c5 => simp; have := HSZ3.out; omega
    intro v4 w4 hown hg _
    have HBK : Hid (∀ j, v3.ownBlock = some j → py + 1 ≤ j ∧ j < w3.heap.size) := fun j hj => HO3.out.lt j hj
    have HKV : Hid (Kp (py + 1) w3.heap.size w3 w4) := ((Kp.refl _ _ _).alloc _).grown hg fun j hj => .inr (HBK.out j hj)
    have HXM : Hid (RdI .u8 0 w4.heap.size w4 v4 (X ++ [(m : Int)])) := (OwnI.of_rowN (l := X ++ [(m : Int)]) (by rw [List.map_append]; exact hown) (by simp)).rd.wide (Nat.zero_le _) (Nat.le_refl _)
    have HX4 := Lib.hid (HX3.out.keep HKV.out fun b h1 h2 => .inl (by omega))
    have HY4 := Lib.hid (HY3.out.keep HKV.out fun b h1 h2 => .inl (by omega))
    have HBY4 := Lib.hid (HKV.out.heap HBY3.out (.inl (Nat.lt_succ_self _)))
    have HBA4 : Hid (w4.heap[pa]? = some (.cells #[Value.int .i64 e.o, .int .i64 e.s, .int .i64 e.l, .slice ao e.d.length c, .int .i64 e.t, .int .i64 e.a, .int .i64 e.f, .int .i64 e.p, .int .i64 e.r, .int .i64 e.k] 26 (0, 0))) := HKV.out.heap HBA3.out (.inl (by have := heap_lt HBA2.out; have := HPY.out; omega))
    have HK4 : Hid (Kp 0 0 w w4) := HK3.out.step HKV.out fun j h1 h2 => .inl (by have := HPY.out; have := HK2.out.size; omega)
    clear hown hg HBK HKV HO3
    obtain ⟨o4, c4, rfl, _, _, _⟩ := HXM.out.open
    have hml : (X ++ [(m : Int)]).length = X.length + 1 := by simp
    rw [hml] at HXM ⊢
    go_wp2_with fail
    refine (HG1.out _ (X ++ [(m : Int)]) _ _ HXM.out (fun y hy => by
      rcases List.mem_append.1 hy with h | h
      · exact HXB.out y h
      · simp at h; omega) (by rw [hml]; omega)).mono ?_
    rw [GX2.out]
    rintro r w5 ⟨⟨oz, cz, rfl, hr⟩, hk⟩
    have HX5 := Lib.hid (HX4.out.keep0 hk)
    have HY5 := Lib.hid (HY4.out.keep0 hk)
    have HBY5 := Lib.hid (hk.heap HBY4.out (.inr (Nat.zero_le _)))
    have HBA5 := Lib.hid (hk.heap HBA4.out (.inr (Nat.zero_le _)))
    have HK5 := Lib.hid (HK4.out.trans hk)
    clear hk hr HXM HBA4 HBY4
    unfold evV
    simp only [Ev.zero]
    have HKZ : Hid (Kp 0 0 w5 (w5.alloc (.cells #[Value.int .i64 0, .int .i64 0, .int .i64 0, .slice oz 0 cz, .int .i64 0, .int .i64 0, .int .i64 0, .int .i64 0, .int .i64 0, .int .i64 0] 26))) := (Kp.refl _ _ _).alloc _
    have hby6 := HKZ.out.heap HBY5.out (.inr (Nat.zero_le _))
    have hba6 := HKZ.out.heap HBA5.out (.inr (Nat.zero_le _))
    obtain ⟨y0, _⟩ := rowE_cell hby6 (k := 0) (show 0 < 10 by decide)
    change _ = some (Value.int .i64 e.o) at y0
    obtain ⟨y1, _⟩ := rowE_cell hby6 (k := 1) (show 1 < 10 by decide)
    change _ = some (Value.int .i64 e.s) at y1
    obtain ⟨y2, _⟩ := rowE_cell hby6 (k := 2) (show 2 < 10 by decide)
    change _ = some (Value.int .i64 e.l) at y2
    obtain ⟨y3, _⟩ := rowE_cell hby6 (k := 3) (show 3 < 10 by decide)
    change _ = some (Value.slice oy e.d.length cy) at y3
    obtain ⟨y4, _⟩ := rowE_cell hby6 (k := 4) (show 4 < 10 by decide)
    change _ = some (Value.int .i64 e.t) at y4
    obtain ⟨y5, _⟩ := rowE_cell hby6 (k := 5) (show 5 < 10 by decide)
    change _ = some (Value.int .i64 e.a) at y5
    obtain ⟨y6, _⟩ := rowE_cell hby6 (k := 6) (show 6 < 10 by decide)
    change _ = some (Value.int .i64 e.f) at y6
    obtain ⟨y7, _⟩ := rowE_cell hby6 (k := 7) (show 7 < 10 by decide)
    change _ = some (Value.int .i64 e.p) at y7
    obtain ⟨y8, _⟩ := rowE_cell hby6 (k := 8) (show 8 < 10 by decide)
    change _ = some (Value.int .i64 e.r) at y8
    obtain ⟨y9, _⟩ := rowE_cell hby6 (k := 9) (show 9 < 10 by decide)
    change _ = some (Value.int .i64 e.k) at y9
    obtain ⟨a0, _⟩ := rowE_cell hba6 (k := 0) (show 0 < 10 by decide)
    change _ = some (Value.int .i64 e.o) at a0
    obtain ⟨a1, _⟩ := rowE_cell hba6 (k := 1) (show 1 < 10 by decide)
    change _ = some (Value.int .i64 e.s) at a1
    obtain ⟨a2, _⟩ := rowE_cell hba6 (k := 2) (show 2 < 10 by decide)
    change _ = some (Value.int .i64 e.l) at a2
    obtain ⟨a3, _⟩ := rowE_cell hba6 (k := 3) (show 3 < 10 by decide)
    change _ = some (Value.slice ao e.d.length c) at a3
    obtain ⟨a4, _⟩ := rowE_cell hba6 (k := 4) (show 4 < 10 by decide)
    change _ = some (Value.int .i64 e.t) at a4
    obtain ⟨a5, _⟩ := rowE_cell hba6 (k := 5) (show 5 < 10 by decide)
    change _ = some (Value.int .i64 e.a) at a5
    obtain ⟨a6, _⟩ := rowE_cell hba6 (k := 6) (show 6 < 10 by decide)
    change _ = some (Value.int .i64 e.f) at a6
    obtain ⟨a7, _⟩ := rowE_cell hba6 (k := 7) (show 7 < 10 by decide)
    change _ = some (Value.int .i64 e.p) at a7
    obtain ⟨a8, _⟩ := rowE_cell hba6 (k := 8) (show 8 < 10 by decide)
    change _ = some (Value.int .i64 e.r) at a8
    obtain ⟨a9, _⟩ := rowE_cell hba6 (k := 9) (show 9 < 10 by decide)
    change _ = some (Value.int .i64 e.k) at a9
    have HBA6 := Lib.hid hba6
    clear hby6 hba6
    have hX0 : ¬ X = [] := fun h => by rw [h] at hln; simp at hln
    have hX1 : ((X.length : Int) == 0) = false := beq_eq_false_iff_ne.2 (by omega)
    go_wp2_with fail
    clear y0 y1 y2 y3 y4 y5 y6 y7 y8 y9 a0 a1 a2 a3 a4 a5 a6 a7 a8 a9
    generalize w5.alloc (.cells #[Value.int .i64 0, .int .i64 0, .int .i64 0, .slice oz 0 cz, .int .i64 0, .int .i64 0, .int .i64 0, .int .i64 0, .int .i64 0, .int .i64 0] 26) = w6 at HKZ HBA6 ⊢
    have HK6 := Lib.hid (HK5.out.trans HKZ.out)
    have HX6 := Lib.hid (HX5.out.keep0 HKZ.out)
    refine (sameE_yes w6 e _ _ (HY5.out.keep0 HKZ.out) (HD.out.keep0 HK6.out)).mono ?_
    rintro r w7 ⟨rfl, hk⟩
    have HX7 := Lib.hid (HX6.out.keep0 hk)
    have HK7 := Lib.hid (HK6.out.trans hk)
    clear hk
    go_wp2_with fail
    refine (HG1.out _ (X.take (X.length - 1)) _ _ (HX7.out.pre (by omega)) (fun y hy => HXB.out y (List.mem_of_mem_take hy)) (by rw [List.length_take]; omega)).mono ?_
    rw [GX3.out]
    rintro r w8 ⟨⟨oh, ch, rfl, _⟩, hk⟩
    have HK8 := Lib.hid (HK7.out.trans hk)
    clear hk
    unfold evV
    simp only [Ev.zero]
    have HKH : Hid (Kp 0 0 w8 (w8.alloc (.cells #[Value.int .i64 0, .int .i64 0, .int .i64 0, .slice oh 0 ch, .int .i64 0, .int .i64 0, .int .i64 0, .int .i64 0, .int .i64 0, .int .i64 0] 26))) := (Kp.refl _ _ _).alloc _
    go_wp2_with fail
    generalize w8.alloc (.cells #[Value.int .i64 0, .int .i64 0, .int .i64 0, .slice oh 0 ch, .int .i64 0, .int .i64 0, .int .i64 0, .int .i64 0, .int .i64 0, .int .i64 0] 26) = w9 at HKH ⊢
    have HKT := Lib.hid (HK8.out.trans HKH.out)
    refine (HG1.out w9 B _ _ ((HBB.out.wide (Nat.zero_le _) (Nat.le_refl _)).keep0 HKT.out) HBY.out (by omega)).mono ?_
    by_cases hz : Ev.err B = 0
    · obtain ⟨bk1, bk2, bk3⟩ := Ev.back HBY.out hz
      have hgt : Ev.get B = (Ev.read B, 0) := if_pos hz
      have hpt : Ev.put (Ev.read B) = (B, 0) := by
        unfold Ev.put
        rw [if_neg (by omega), ← bk1]
      rw [hgt]
      simp only
      clear bk1 hgt
      generalize Ev.read B = y at *
      rintro r u1 ⟨⟨oq, cq, rfl, hr⟩, hk⟩
      have HU1 := Lib.hid (HKT.out.trans hk)
      have HYQ := Lib.hid hr
      clear hk hr
      unfold evV
      go_wp2_with fail
      have HKU : Hid (Kp 0 0 u1 (u1.alloc (.cells #[Value.int .i64 y.o, .int .i64 y.s, .int .i64 y.l, .slice oq y.d.length cq, .int .i64 y.t, .int .i64 y.a, .int .i64 y.f, .int .i64 y.p, .int .i64 y.r, .int .i64 y.k] 26))) := (Kp.refl _ _ _).alloc _
      generalize u1.alloc (.cells #[Value.int .i64 y.o, .int .i64 y.s, .int .i64 y.l, .slice oq y.d.length cq, .int .i64 y.t, .int .i64 y.a, .int .i64 y.f, .int .i64 y.p, .int .i64 y.r, .int .i64 y.k] 26) = u2 at HKU ⊢
      have hm2 := HP _ _ y u2 _ (HYQ.out.keep0 HKU.out) bk2 (by omega)
      rw [hpt] at hm2
      refine hm2.mono ?_
      clear hm2
      rintro r u3 ⟨vc, rfl, hown, hk⟩
      have HC3 := Lib.hid hown.rd
      have HU3 := Lib.hid ((HU1.out.trans HKU.out).trans hk)
      obtain ⟨oc, cc, rfl, _, _, _⟩ := hown.rd.open
      clear hown hk
      go_wp2_with fail
      refine (same_yes u3 _ _ B HC3.out (HBB.out.keep0 HU3.out)).mono ?_
      rintro r u4 ⟨rfl, hk⟩
      have HU4 := Lib.hid (HU3.out.trans hk)
      clear hk
      go_wp2_with fail
      refine (eknown_any HC HP HG u4).mono ?_
      rintro r u5 ⟨rfl, hk⟩
      have HU5 := Lib.hid (HU4.out.trans hk)
      clear hk
      go_wp2_with fail
      go_returns
      exact ⟨rfl, HU5.out⟩
    · have hgt : Ev.get B = (Ev.zero, Ev.err B) := if_neg hz
      have hzb : (Ev.err B != 0) = true := bne_iff_ne.2 hz
      rw [hgt]
      simp only [Ev.zero]
      clear hgt hz
      generalize Ev.err B = eb at *
      rintro r u1 ⟨⟨oq, cq, rfl, hr⟩, hk⟩
      have HU1 := Lib.hid (HKT.out.trans hk)
      have HYQ : Hid (RdI .i64 0 u1.heap.size u1 (.slice oq 0 cq) []) := hr
      clear hk hr
      unfold evV
      go_wp2_with fail
      have HKU : Hid (Kp 0 0 u1 (u1.alloc (.cells #[Value.int .i64 0, .int .i64 0, .int .i64 0, .slice oq 0 cq, .int .i64 0, .int .i64 0, .int .i64 0, .int .i64 0, .int .i64 0, .int .i64 0] 26))) := (Kp.refl _ _ _).alloc _
      generalize u1.alloc (.cells #[Value.int .i64 0, .int .i64 0, .int .i64 0, .slice oq 0 cq, .int .i64 0, .int .i64 0, .int .i64 0, .int .i64 0, .int .i64 0, .int .i64 0] 26) = u2 at HKU ⊢
      refine (sameE_yes u2 Ev.zero (.slice oq 0 cq) (.slice none 0 0) (HYQ.out.keep0 HKU.out) (RdI.nil .i64 0 0 u2)).mono ?_
      rintro r u4 ⟨rfl, hk⟩
      have HU4 := Lib.hid ((HU1.out.trans HKU.out).trans hk)
      clear hk
      go_wp2_with fail
      refine (eknown_any HC HP HG u4).mono ?_
      rintro r u5 ⟨rfl, hk⟩
      have HU5 := Lib.hid (HU4.out.trans hk)
      clear hk
      go_wp2_with fail
      go_returns
      exact ⟨rfl, HU5.out⟩
  · have hpe : Ev.put e = ([], 3) := if_pos (by omega)
    rw [hpe] at HP1
    simp only [List.length_nil] at HP1
    have hle : ¬ (e.d.length : Int) ≤ 64 := by omega
    go_enter Try.func5, Try.ntmps5
    go_wp2_with fail
    have d1 : decide ((200 : Int) < (e.d.length : Int)) = false := decide_eq_false (by omega)
    have d2 : decide ((4096 : Int) < (B.length : Int)) = false := decide_eq_false (by omega)
    try rw [d1, d2]
    clear d1 d2
    have HKA : Hid (Kp 0 0 w (w.alloc (.cells #[Value.int .i64 e.o, .int .i64 e.s, .int .i64 e.l, .slice ao e.d.length c, .int .i64 e.t, .int .i64 e.a, .int .i64 e.f, .int .i64 e.p, .int .i64 e.r, .int .i64 e.k] 26))) := (Kp.refl _ _ _).alloc _
    have HBA : Hid ((w.alloc (.cells #[Value.int .i64 e.o, .int .i64 e.s, .int .i64 e.l, .slice ao e.d.length c, .int .i64 e.t, .int .i64 e.a, .int .i64 e.f, .int .i64 e.p, .int .i64 e.r, .int .i64 e.k] 26)).heap[w.heap.size]? = some (.cells #[Value.int .i64 e.o, .int .i64 e.s, .int .i64 e.l, .slice ao e.d.length c, .int .i64 e.t, .int .i64 e.a, .int .i64 e.f, .int .i64 e.p, .int .i64 e.r, .int .i64 e.k] 26 (0, 0))) := heap_alloc_new w _
    generalize w.alloc (.cells #[Value.int .i64 e.o, .int .i64 e.s, .int .i64 e.l, .slice ao e.d.length c, .int .i64 e.t, .int .i64 e.a, .int .i64 e.f, .int .i64 e.p, .int .i64 e.r, .int .i64 e.k] 26) = wa at HKA HBA ⊢
    generalize w.heap.size = pa at HBA ⊢
    refine (HP1.out _ HKA.out).mono ?_
    rintro r w1 ⟨⟨o1, c1, rfl, hr⟩, hk⟩
    have hb1' := hk.heap HBA.out (.inr (Nat.zero_le _))
    have HKT := Lib.hid (HKA.out.trans hk)
    clear hk hr
    obtain ⟨a0, _⟩ := rowE_cell hb1' (k := 0) (show 0 < 10 by decide)
    change _ = some (Value.int .i64 e.o) at a0
    obtain ⟨a1, _⟩ := rowE_cell hb1' (k := 1) (show 1 < 10 by decide)
    change _ = some (Value.int .i64 e.s) at a1
    obtain ⟨a2, _⟩ := rowE_cell hb1' (k := 2) (show 2 < 10 by decide)
    change _ = some (Value.int .i64 e.l) at a2
    obtain ⟨a3, _⟩ := rowE_cell hb1' (k := 3) (show 3 < 10 by decide)
    change _ = some (Value.slice ao e.d.length c) at a3
    obtain ⟨a4, _⟩ := rowE_cell hb1' (k := 4) (show 4 < 10 by decide)
    change _ = some (Value.int .i64 e.t) at a4
    obtain ⟨a5, _⟩ := rowE_cell hb1' (k := 5) (show 5 < 10 by decide)
    change _ = some (Value.int .i64 e.a) at a5
    obtain ⟨a6, _⟩ := rowE_cell hb1' (k := 6) (show 6 < 10 by decide)
    change _ = some (Value.int .i64 e.f) at a6
    obtain ⟨a7, _⟩ := rowE_cell hb1' (k := 7) (show 7 < 10 by decide)
    change _ = some (Value.int .i64 e.p) at a7
    obtain ⟨a8, _⟩ := rowE_cell hb1' (k := 8) (show 8 < 10 by decide)
    change _ = some (Value.int .i64 e.r) at a8
    obtain ⟨a9, _⟩ := rowE_cell hb1' (k := 9) (show 9 < 10 by decide)
    change _ = some (Value.int .i64 e.k) at a9
    clear hb1'
    go_wp2_with fail
    clear a0 a1 a2 a3 a4 a5 a6 a7 a8 a9
    refine (HG1.out w1 B _ _ ((HBB.out.wide (Nat.zero_le _) (Nat.le_refl _)).keep0 HKT.out) HBY.out (by omega)).mono ?_
    by_cases hz : Ev.err B = 0
    · obtain ⟨bk1, bk2, bk3⟩ := Ev.back HBY.out hz
      have hgt : Ev.get B = (Ev.read B, 0) := if_pos hz
      have hpt : Ev.put (Ev.read B) = (B, 0) := by
        unfold Ev.put
        rw [if_neg (by omega), ← bk1]
      rw [hgt]
      simp only
      clear bk1 hgt
      generalize Ev.read B = y at *
      rintro r u1 ⟨⟨oq, cq, rfl, hr⟩, hk⟩
      have HU1 := Lib.hid (HKT.out.trans hk)
      have HYQ := Lib.hid hr
      clear hk hr
      unfold evV
      go_wp2_with fail
      have HKU : Hid (Kp 0 0 u1 (u1.alloc (.cells #[Value.int .i64 y.o, .int .i64 y.s, .int .i64 y.l, .slice oq y.d.length cq, .int .i64 y.t, .int .i64 y.a, .int .i64 y.f, .int .i64 y.p, .int .i64 y.r, .int .i64 y.k] 26))) := (Kp.refl _ _ _).alloc _
      generalize u1.alloc (.cells #[Value.int .i64 y.o, .int .i64 y.s, .int .i64 y.l, .slice oq y.d.length cq, .int .i64 y.t, .int .i64 y.a, .int .i64 y.f, .int .i64 y.p, .int .i64 y.r, .int .i64 y.k] 26) = u2 at HKU ⊢
      have hm2 := HP _ _ y u2 _ (HYQ.out.keep0 HKU.out) bk2 (by omega)
      rw [hpt] at hm2
      refine hm2.mono ?_
      clear hm2
      rintro r u3 ⟨vc, rfl, hown, hk⟩
      have HC3 := Lib.hid hown.rd
      have HU3 := Lib.hid ((HU1.out.trans HKU.out).trans hk)
      obtain ⟨oc, cc, rfl, _, _, _⟩ := hown.rd.open
      clear hown hk
      go_wp2_with fail
      refine (same_yes u3 _ _ B HC3.out (HBB.out.keep0 HU3.out)).mono ?_
      rintro r u4 ⟨rfl, hk⟩
      have HU4 := Lib.hid (HU3.out.trans hk)
      clear hk
      go_wp2_with fail
      refine (eknown_any HC HP HG u4).mono ?_
      rintro r u5 ⟨rfl, hk⟩
      have HU5 := Lib.hid (HU4.out.trans hk)
      clear hk
      go_wp2_with fail
      go_returns
      exact ⟨rfl, HU5.out⟩
    · have hgt : Ev.get B = (Ev.zero, Ev.err B) := if_neg hz
      have hzb : (Ev.err B != 0) = true := bne_iff_ne.2 hz
      rw [hgt]
      simp only [Ev.zero]
      clear hgt hz
      generalize Ev.err B = eb at *
      rintro r u1 ⟨⟨oq, cq, rfl, hr⟩, hk⟩
      have HU1 := Lib.hid (HKT.out.trans hk)
      have HYQ : Hid (RdI .i64 0 u1.heap.size u1 (.slice oq 0 cq) []) := hr
      clear hk hr
      unfold evV
      go_wp2_with fail
      have HKU : Hid (Kp 0 0 u1 (u1.alloc (.cells #[Value.int .i64 0, .int .i64 0, .int .i64 0, .slice oq 0 cq, .int .i64 0, .int .i64 0, .int .i64 0, .int .i64 0, .int .i64 0, .int .i64 0] 26))) := (Kp.refl _ _ _).alloc _
      generalize u1.alloc (.cells #[Value.int .i64 0, .int .i64 0, .int .i64 0, .slice oq 0 cq, .int .i64 0, .int .i64 0, .int .i64 0, .int .i64 0, .int .i64 0, .int .i64 0] 26) = u2 at HKU ⊢
      refine (sameE_yes u2 Ev.zero (.slice oq 0 cq) (.slice none 0 0) (HYQ.out.keep0 HKU.out) (RdI.nil .i64 0 0 u2)).mono ?_
      rintro r u4 ⟨rfl, hk⟩
      have HU4 := Lib.hid ((HU1.out.trans HKU.out).trans hk)
      clear hk
      go_wp2_with fail
      refine (eknown_any HC HP HG u4).mono ?_
      rintro r u5 ⟨rfl, hk⟩
      have HU5 := Lib.hid (HU4.out.trans hk)
      clear hk
      go_wp2_with fail
      go_returns
      exact ⟨rfl, HU5.out⟩

end Go.Proofs.Ytnboeagallkooaa
