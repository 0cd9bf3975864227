/-
  What the landed Get reads, piece by piece; Get keeps the document.
-/
import Derived.Test.YtgokhagbknlfaaaDlSt
import Derived.Test.YtgokhagbknlfaaaMadeW
import Derived.Deep.RegionHeld3
namespace Go.Proofs.Ytgokhagbknlfaaa
open Go.RowKit
set_option maxRecDepth 100000

set_option maxRecDepth 100000 in
set_option maxHeartbeats 4000000 in
theorem getMove_any {p lo : Nat} (s : Ev.St) (w : World) (h : LS p lo w s) :
    Calls Try.prog 62 #[.pointer (some ⟨p, 0, none⟩)] w fun r w' => r = .returned (.agg #[.int .i64 (Dl.mvR s).1.f, .int .i64 (Dl.mvR s).1.t, .int .i64 (Dl.mvR s).1.n, .int .i64 (Dl.mvR s).1.l]) ∧ LS p lo w' (Dl.mvR s).2 ∧ Kp p (p + 1) w w' := by
  have HI := Lib.hid (fun (s : Ev.St) W (h : LS p lo W s) => ls_int s W h)
  have hpw := h.lt
  have HMV : Hid (Dl.mvR s = (⟨(Ev.i1 s).1, (Ev.i1 (Ev.i1 s).2).1, (Ev.i1 (Ev.i1 (Ev.i1 s).2).2).1, (Ev.i1 (Ev.i1 (Ev.i1 (Ev.i1 s).2).2).2).1⟩, (Ev.i1 (Ev.i1 (Ev.i1 (Ev.i1 s).2).2).2).2)) := rfl
  have HB1 := Lib.hid (blk_one w (.cells #[.int .i64 0, .int .i64 0, .int .i64 0, .int .i64 0] 73))
  have HK0 : Hid (Kp 0 0 w (w.alloc (.cells #[.int .i64 0, .int .i64 0, .int .i64 0, .int .i64 0] 73))) := (Kp.refl _ _ _).alloc _
  have HR0 := Lib.hid (h.keep0 HK0.out)
  clear h
  go_enter Try.func62, Try.ntmps62
  go_upto_region 1 with fail
  generalize w.alloc (.cells #[.int .i64 0, .int .i64 0, .int .i64 0, .int .i64 0] 73) = w0 at HK0 HB1 HR0 ⊢
  generalize hq : w.heap.size = q at HB1 hpw ⊢
  go_wp2_with fail
  refine (HI.out _ _ HR0.out).mono ?_
  rintro r w1 ⟨rfl, hr1, hk1⟩
  go_wp2_with fail
  refine (HI.out _ _ hr1).mono ?_
  rintro r w2 ⟨rfl, hr2, hk2⟩
  generalize Ev.i1 s = A1 at hr1 hr2 HMV ⊢
  generalize Ev.i1 A1.2 = A2 at hr2 HMV ⊢
  have hb1 := hk2.heap (hk1.heap HB1.out (.inr (by omega))) (.inr (by omega))
  have hs1 := set_at (p := 0) hb1 (.int .i64 A1.1)
  have hs2 := set_at (p := 1) hs1 (.int .i64 A2.1)
  have f1 := blk_frozen hb1 0
  have f2 := blk_frozen hs1 1
  have c1 := blk_cell hb1 (k := 0) (u := .int .i64 0) rfl
  have c2 := blk_cell hs1 (k := 1) (u := .int .i64 0) rfl
  have hkk : Kp q (q + 1) w2 ((w2.setCell ⟨q, 0, none⟩ (.int .i64 A1.1)).setCell ⟨q, 1, none⟩ (.int .i64 A2.1)) := (kp_set _ _ _ _).trans (kp_set _ _ _ _)
  have HR2 := Lib.hid (hr2.keep hkk (by omega))
  have HB12 : Hid (((w2.setCell ⟨q, 0, none⟩ (.int .i64 A1.1)).setCell ⟨q, 1, none⟩ (.int .i64 A2.1)).heap[q]? = some (.cells #[.int .i64 A1.1, .int .i64 A2.1, .int .i64 0, .int .i64 0] 73 (0, 0))) := hs2
  have HK2 : Hid (Kp p (p + 1) w ((w2.setCell ⟨q, 0, none⟩ (.int .i64 A1.1)).setCell ⟨q, 1, none⟩ (.int .i64 A2.1))) := ((HK0.out.any.trans hk1).trans hk2).step hkk (fun j h1 h2 => .inl (by omega))
  clear hr1 hr2 hk1 hk2 hb1 hs1 hs2 hkk HB1 HK0 HR0
  go_upto_region 2 with fail
  clear f1 f2 c1 c2
  generalize (w2.setCell ⟨q, 0, none⟩ (.int .i64 A1.1)).setCell ⟨q, 1, none⟩ (.int .i64 A2.1) = v0 at HR2 HB12 HK2 ⊢
  go_wp2_with fail
  refine (HI.out _ _ HR2.out).mono ?_
  rintro r w3 ⟨rfl, hr1, hk1⟩
  go_wp2_with fail
  refine (HI.out _ _ hr1).mono ?_
  rintro r w4 ⟨rfl, hr2, hk2⟩
  generalize Ev.i1 A2.2 = A3 at hr1 hr2 HMV ⊢
  generalize Ev.i1 A3.2 = A4 at hr2 HMV ⊢
  have hb1 := hk2.heap (hk1.heap HB12.out (.inr (by omega))) (.inr (by omega))
  have hs1 := set_at (p := 2) hb1 (.int .i64 A3.1)
  have hs2 := set_at (p := 3) hs1 (.int .i64 A4.1)
  have f1 := blk_frozen hb1 2
  have f2 := blk_frozen hs1 3
  have c1 := blk_cell hb1 (k := 2) (u := .int .i64 0) rfl
  have c2 := blk_cell hs1 (k := 3) (u := .int .i64 0) rfl
  have hkk : Kp q (q + 1) w4 ((w4.setCell ⟨q, 2, none⟩ (.int .i64 A3.1)).setCell ⟨q, 3, none⟩ (.int .i64 A4.1)) := (kp_set _ _ _ _).trans (kp_set _ _ _ _)
  have HR4 := Lib.hid (hr2.keep hkk (by omega))
  have HB14 : Hid (((w4.setCell ⟨q, 2, none⟩ (.int .i64 A3.1)).setCell ⟨q, 3, none⟩ (.int .i64 A4.1)).heap[q]? = some (.cells #[.int .i64 A1.1, .int .i64 A2.1, .int .i64 A3.1, .int .i64 A4.1] 73 (0, 0))) := hs2
  have HK4 : Hid (Kp p (p + 1) w ((w4.setCell ⟨q, 2, none⟩ (.int .i64 A3.1)).setCell ⟨q, 3, none⟩ (.int .i64 A4.1))) := ((HK2.out.trans hk1).trans hk2).step hkk (fun j h1 h2 => .inl (by omega))
  clear hr1 hr2 hk1 hk2 hb1 hs1 hs2 hkk HB12 HK2 HR2
  go_upto_region 3 with fail
  clear f1 f2 c1 c2
  generalize (w4.setCell ⟨q, 2, none⟩ (.int .i64 A3.1)).setCell ⟨q, 3, none⟩ (.int .i64 A4.1) = v1 at HR4 HB14 HK4 ⊢
  obtain ⟨hst, hsk⟩ := store_four HB14.out rfl (.int .i64 A1.1) (.int .i64 A2.1) (.int .i64 A3.1) (.int .i64 A4.1)
  have HST := Lib.hid hst
  have HR5 := Lib.hid (HR4.out.keep hsk (by omega))
  have HK5 := Lib.hid (HK4.out.step hsk (fun j h1 h2 => .inl (by omega)))
  clear hst hsk
  have b0 := blk_cell HB14.out (k := 0) (u := .int .i64 A1.1) rfl
  have b1 := blk_cell HB14.out (k := 1) (u := .int .i64 A2.1) rfl
  have b2 := blk_cell HB14.out (k := 2) (u := .int .i64 A3.1) rfl
  have b3 := blk_cell HB14.out (k := 3) (u := .int .i64 A4.1) rfl
  have z0 := blk_frozen HB14.out 0
  have z1 := blk_frozen HB14.out 1
  have z2 := blk_frozen HB14.out 2
  have z3 := blk_frozen HB14.out 3
  go_wp2_with fail
  clear b0 b1 b2 b3 z0 z1 z2 z3
  generalize (((v1.setCell ⟨q, 0, none⟩ (.int .i64 A1.1)).setCell ⟨q, 1, none⟩ (.int .i64 A2.1)).setCell ⟨q, 2, none⟩ (.int .i64 A3.1)).setCell ⟨q, 3, none⟩ (.int .i64 A4.1) = v2 at HST HR5 HK5 ⊢
  have e0 := blk_cell HST.out (k := 0) (u := .int .i64 A1.1) rfl
  have e1 := blk_cell HST.out (k := 1) (u := .int .i64 A2.1) rfl
  have e2 := blk_cell HST.out (k := 2) (u := .int .i64 A3.1) rfl
  have e3 := blk_cell HST.out (k := 3) (u := .int .i64 A4.1) rfl
  try simp only [Exit.inBlock, Exit.then]
  refine bodyPost_ret (by simp [results, Try.results62, go_sem, e0, e1, e2, e3]; try rfl) rfl ?_
  rw [HMV.out]
  exact ⟨rfl, HR5.out, HK5.out⟩

set_option maxRecDepth 100000 in
set_option maxHeartbeats 4000000 in
theorem getListM_any {p lo : Nat} (s : Ev.St) (w : World) (h : LS p lo w s) :
    Calls Try.prog 61 #[.pointer (some ⟨p, 0, none⟩), .int .i64 16, .func (.func 62) #[] #[]] w fun r w' => ∃ v, r = .returned v ∧ RdS mvE 4 w' (Iv w.heap.size w'.heap.size) v (Dl.row 16 Dl.mvR s).1 ∧ LS p lo w' (Dl.row 16 Dl.mvR s).2 ∧ Kp p (p + 1) w w' := by
  have HC := Lib.hid (ls_cnt 16 s w h)
  have HMV := Lib.hid (fun (s : Ev.St) W (h : LS p lo W s) => getMove_any s W h)
  have hpw := h.lt
  have HRW : Hid (Dl.row 16 Dl.mvR s = Dl.rep Dl.mvR (Dl.cn 16 s).1.toNat (Dl.cn 16 s).2) := rfl
  have hcr := Dl.cn_range 16 (by decide) s
  clear h
  go_enter Try.func61, Try.ntmps61
  go_wp2_with fail
  refine HC.out.mono ?_
  rintro r w1 ⟨rfl, hr1, hk1⟩
  generalize Dl.cn 16 s = C at hr1 HRW hcr ⊢
  obtain ⟨N, hN⟩ : ∃ N : Nat, C.1 = (N : Int) := ⟨C.1.toNat, by omega⟩
  have hN16 : N ≤ 16 := by omega
  rw [hN, Int.toNat_natCast] at HRW
  rw [hN]
  have hmM : (Instr.makeSlice 43 (.int .i64 (N : Int)) (.int .i64 (N : Int))).run Try.prog w1 = .ok (.slice (some ⟨w1.heap.size, 0, none⟩) N N) (w1.alloc (.cells (madeCells #[.int .i64 0, .int .i64 0, .int .i64 0, .int .i64 0] (N * 4)) 73)) := by
    obtain ⟨im, hi, hz0, hz1, hz2⟩ := info_parts info_mv
    have h := run_make (P := Try.prog) w1 43 73 im _ Try.underlying43 hi hz0 .i64 .i64 (N : Int) (N : Int) (by omega) (by omega) (by rw [hz2]; omega) (by omega)
    rw [hz1] at h
    simp only [Int.toNat_natCast] at h
    exact h
  have HM : Hid (RowW mvE 4 73 (w1.alloc (.cells (madeCells #[.int .i64 0, .int .i64 0, .int .i64 0, .int .i64 0] (N * 4)) 73)) (fun _ => False) w1.heap.size N []) := RowW.made (blk_one w1 _) rfl (fun h => h)
  have HR := Lib.hid (hr1.keep0 ((Kp.refl _ _ _).alloc (.cells (madeCells #[.int .i64 0, .int .i64 0, .int .i64 0, .int .i64 0] (N * 4)) 73)))
  have HK : Hid (Kp p (p + 1) w (w1.alloc (.cells (madeCells #[.int .i64 0, .int .i64 0, .int .i64 0, .int .i64 0] (N * 4)) 73))) := hk1.alloc _
  have HG : Hid (w.heap.size ≤ w1.heap.size) := hk1.size
  clear hr1 hk1
  go_wp2_with fail
  have HPG : Hid (p < w1.heap.size) := Nat.lt_of_lt_of_le hpw HG.out
  clear hmM hcr hN
  generalize w1.alloc (.cells (madeCells #[.int .i64 0, .int .i64 0, .int .i64 0, .int .i64 0] (N * 4)) 73) = w2 at HM HR HK ⊢
  generalize w1.heap.size = g at HM HG HPG ⊢
  generalize C.2 = s1 at HR HRW
  go_loopw [8, 15] (fun _ i wr => ∃ k : Nat, k ≤ N ∧ i = .int .i64 k ∧ RowW mvE 4 73 wr (fun _ => False) g N (Dl.rep Dl.mvR k s1).1 ∧ LS p lo wr (Dl.rep Dl.mvR k s1).2 ∧ Kp p (p + 1) w wr) (fun _ i _ => N - (intOf i).toNat)
  case atStart => exact ⟨0, Nat.zero_le _, rfl, HM.out, HR.out, HK.out⟩
  case round =>
    obtain ⟨k, hk, rfl, hrow, hr, hkp⟩ := hrel
    have HRk := Lib.hid hrow
    have HLk := Lib.hid hr
    have HKk := Lib.hid hkp
    have HLEN : Hid ((Dl.rep Dl.mvR k s1).1.length = k) := Dl.rep_len _ _ _
    clear hrow hr hkp
    by_cases hlt : k < N
    · have HSN := Lib.hid (Dl.rep_snoc Dl.mvR k s1)
      generalize Dl.rep Dl.mvR k s1 = nk at *
      obtain ⟨ds, st⟩ := nk
      simp only at HRk HLk HSN HLEN
      have k0 : (0 : Int) ≤ (k : Int) := Int.natCast_nonneg _
      have k1 : (k : Int) < (N : Int) := by omega
      go_wp2_with fail
      refine (HMV.out _ _ HLk.out).mono ?_
      rintro r u1 ⟨rfl, hr1, hk1⟩
      have HR1 := Lib.hid (HRk.out.keep mvE_good hk1 (.inr (by have := HPG.out; omega)) (fun _ h => h.elim))
      have HL1 := Lib.hid hr1
      have HK1 := Lib.hid (HKk.out.trans hk1)
      clear hr1 hk1
      obtain ⟨d0, a0, z0⟩ := HR1.out.at HLEN.out hlt (j := 0) (by decide)
      obtain ⟨d1, a1, z1⟩ := HR1.out.at HLEN.out hlt (j := 1) (by decide)
      obtain ⟨d2, a2, z2⟩ := HR1.out.at HLEN.out hlt (j := 2) (by decide)
      obtain ⟨d3, a3, z3⟩ := HR1.out.at HLEN.out hlt (j := 3) (by decide)
      simp only [Nat.add_zero] at a0 z0
      generalize Dl.mvR st = M at *
      obtain ⟨hw4, hk4⟩ := HR1.out.set4 mvE_good HLEN.out hlt (.int .i64 M.1.f) (.int .i64 M.1.t) (.int .i64 M.1.n) (.int .i64 M.1.l) (x := M.1) rfl
      have HW4 := Lib.hid hw4
      have HL4 := Lib.hid (HL1.out.keep hk4 HPG.out)
      have HK4 := Lib.hid (HK1.out.step hk4 (fun j h1 h2 => .inl (by have := HG.out; omega)))
      clear hw4 hk4
      go_wp2_with fail
      refine ⟨⟨k + 1, by omega, by go_num, ?_, ?_, HK4.out⟩, by simp [intOf]; omega⟩
      · rw [HSN.out]; exact HW4.out
      · rw [HSN.out]; exact HL4.out
    · obtain rfl : k = N := by omega
      have k2 : ¬ (k : Int) < (k : Int) := by omega
      go_wp2_with fail
      go_returns
      rw [HRW.out]
      exact ⟨_, rfl, HRk.out.rd mvE_good HLEN.out (fun _ _ h => h.elim) ⟨HG.out, HRk.out.lt⟩ (by omega), HLk.out, HKk.out⟩

set_option maxRecDepth 100000 in
set_option maxHeartbeats 4000000 in
theorem getField_any {p lo : Nat} (s : Ev.St) (w : World) (h : LS p lo w s) :
    Calls Try.prog 48 #[.pointer (some ⟨p, 0, none⟩)] w fun r w' => ∃ mv, r = .returned (fieldV (Dl.flR s).1 mv) ∧ RdS mvE 4 w' (Iv w.heap.size w'.heap.size) mv (Dl.flR s).1.ms ∧ LS p lo w' (Dl.flR s).2 ∧ Kp p (p + 1) w w' := by
  have HI := Lib.hid (fun (s : Ev.St) W (h : LS p lo W s) => ls_int s W h)
  have HC := Lib.hid (fun (s : Ev.St) W (h : LS p lo W s) => ls_cnt 1 s W h)
  have HL := Lib.hid (fun (s : Ev.St) W (h : LS p lo W s) => getListM_any s W h)
  have hpw := h.lt
  have HFL : Hid (Dl.flR s = (⟨(Ev.i1 s).1, (Ev.i1 (Ev.i1 s).2).1, (Dl.cn 1 (Ev.i1 (Ev.i1 s).2).2).1 == 1, (Dl.row 16 Dl.mvR (Dl.cn 1 (Ev.i1 (Ev.i1 s).2).2).2).1⟩, (Dl.row 16 Dl.mvR (Dl.cn 1 (Ev.i1 (Ev.i1 s).2).2).2).2)) := rfl
  have HB1 := Lib.hid (blk_one w (.cells #[.int .i64 0, .int .i64 0, .bool false, .slice none 0 0] 45))
  have HK0 : Hid (Kp 0 0 w (w.alloc (.cells #[.int .i64 0, .int .i64 0, .bool false, .slice none 0 0] 45))) := (Kp.refl _ _ _).alloc _
  have HR0 := Lib.hid (h.keep0 HK0.out)
  clear h
  go_enter Try.func48, Try.ntmps48
  go_upto_region 1 with fail
  generalize w.alloc (.cells #[.int .i64 0, .int .i64 0, .bool false, .slice none 0 0] 45) = w0 at HK0 HB1 HR0 ⊢
  generalize hq : w.heap.size = q at HB1 hpw ⊢
  go_wp2_with fail
  refine (HI.out _ _ HR0.out).mono ?_
  rintro r w1 ⟨rfl, hr1, hk1⟩
  go_wp2_with fail
  refine (HI.out _ _ hr1).mono ?_
  rintro r w2 ⟨rfl, hr2, hk2⟩
  generalize Ev.i1 s = A1 at hr1 hr2 HFL ⊢
  generalize Ev.i1 A1.2 = A2 at hr2 HFL ⊢
  have hb1 := hk2.heap (hk1.heap HB1.out (.inr (by omega))) (.inr (by omega))
  have hs1 := set_at (p := 0) hb1 (.int .i64 A1.1)
  have hs2 := set_at (p := 1) hs1 (.int .i64 A2.1)
  have f1 := blk_frozen hb1 0
  have f2 := blk_frozen hs1 1
  have c1 := blk_cell hb1 (k := 0) (u := .int .i64 0) rfl
  have c2 := blk_cell hs1 (k := 1) (u := .int .i64 0) rfl
  have hkk : Kp q (q + 1) w2 ((w2.setCell ⟨q, 0, none⟩ (.int .i64 A1.1)).setCell ⟨q, 1, none⟩ (.int .i64 A2.1)) := (kp_set _ _ _ _).trans (kp_set _ _ _ _)
  have HR2 := Lib.hid (hr2.keep hkk (by omega))
  have HB12 : Hid (((w2.setCell ⟨q, 0, none⟩ (.int .i64 A1.1)).setCell ⟨q, 1, none⟩ (.int .i64 A2.1)).heap[q]? = some (.cells #[.int .i64 A1.1, .int .i64 A2.1, .bool false, .slice none 0 0] 45 (0, 0))) := hs2
  have HK2 : Hid (Kp p (p + 1) w ((w2.setCell ⟨q, 0, none⟩ (.int .i64 A1.1)).setCell ⟨q, 1, none⟩ (.int .i64 A2.1))) := ((HK0.out.any.trans hk1).trans hk2).step hkk (fun j h1 h2 => .inl (by omega))
  clear hr1 hr2 hk1 hk2 hb1 hs1 hs2 hkk HB1 HK0 HR0
  go_upto_region 2 with fail
  clear f1 f2 c1 c2
  generalize (w2.setCell ⟨q, 0, none⟩ (.int .i64 A1.1)).setCell ⟨q, 1, none⟩ (.int .i64 A2.1) = v0 at HR2 HB12 HK2 ⊢
  go_wp2_with fail
  refine (HC.out _ _ HR2.out).mono ?_
  rintro r w3 ⟨rfl, hr1, hk1⟩
  generalize Dl.cn 1 A2.2 = C3 at hr1 HFL ⊢
  generalize hB3 : (C3.1 == 1) = B3 at HFL
  have hb1 := hk1.heap HB12.out (.inr (by omega))
  have y2 := blk_cell hb1 (k := 2) (u := .bool false) rfl
  have z2 := blk_frozen hb1 2
  have hks := kp_set w3 q 2 (.bool B3)
  have HB3 : Hid ((w3.setCell ⟨q, 2, none⟩ (.bool B3)).heap[q]? = some (.cells #[.int .i64 A1.1, .int .i64 A2.1, .bool B3, .slice none 0 0] 45 (0, 0))) := blk_set hb1 2 _
  have HR3 := Lib.hid (hr1.keep hks (by omega))
  have HK3 : Hid (Kp p (p + 1) w (w3.setCell ⟨q, 2, none⟩ (.bool B3))) := (HK2.out.trans hk1).step hks (fun j h1 h2 => .inl (by omega))
  clear hr1 hk1 hb1 hks HB12 HK2 HR2
  go_upto_region 3 with fail
  try rw [hB3]
  clear y2 z2 hB3
  generalize w3.setCell ⟨q, 2, none⟩ (.bool B3) = v1 at HR3 HB3 HK3 ⊢
  go_wp2_with fail
  refine (HL.out _ _ HR3.out).mono ?_
  rintro r w4 ⟨mv, rfl, hrd, hr1, hk1⟩
  generalize Dl.row 16 Dl.mvR C3.2 = RW at hrd hr1 HFL
  have hq1 : q < v1.heap.size := heap_lt HB3.out
  have hb1 := hk1.heap HB3.out (.inr (by omega))
  have y3 := blk_cell hb1 (k := 3) (u := .slice none 0 0) rfl
  have z3 := blk_frozen hb1 3
  have hks := kp_set w4 q 3 mv
  have HB4 : Hid ((w4.setCell ⟨q, 3, none⟩ mv).heap[q]? = some (.cells #[.int .i64 A1.1, .int .i64 A2.1, .bool B3, mv] 45 (0, 0))) := blk_set hb1 3 _
  have HR4 := Lib.hid (hr1.keep hks (by omega))
  have HRD4 := Lib.hid (hrd.keep mvE_good hks (fun b hb => .inr (by have := hb.1; omega)))
  have HSZ : Hid (w4.heap.size ≤ (w4.setCell ⟨q, 3, none⟩ mv).heap.size) := hks.size
  have HK4 : Hid (Kp p (p + 1) w (w4.setCell ⟨q, 3, none⟩ mv)) := (HK3.out.trans hk1).step hks (fun j h1 h2 => .inl (by omega))
  have HVB : Hid (q ≤ v1.heap.size) := by have := hq1; exact Nat.le_of_lt (by omega)
  have HIS : ∃ o n c, mv = .slice o n c := by obtain ⟨o, c, rfl, _, _, _⟩ := hrd.open; exact ⟨_, _, _, rfl⟩
  obtain ⟨mo, mn, mc, rfl⟩ := HIS
  clear hr1 hk1 hrd hb1 hks HB3 HK3 HR3
  go_upto_region 4 with fail
  clear y3 z3
  generalize w4.setCell ⟨q, 3, none⟩ (.slice mo mn mc) = v2 at HR4 HB4 HK4 HRD4 HSZ ⊢
  obtain ⟨hst, hsk⟩ := store_four HB4.out rfl (.int .i64 A1.1) (.int .i64 A2.1) (.bool B3) (.slice mo mn mc)
  have HST := Lib.hid hst
  have HR5 := Lib.hid (HR4.out.keep hsk (by omega))
  have HK5 := Lib.hid (HK4.out.step hsk (fun j h1 h2 => .inl (by omega)))
  have HRD5 := Lib.hid ((HRD4.out.keep mvE_good hsk (fun b hb => .inr (by have := hb.1; omega))).wide mvE_good (by decide) (T := Iv q ((((v2.setCell ⟨q, 0, none⟩ (.int .i64 A1.1)).setCell ⟨q, 1, none⟩ (.int .i64 A2.1)).setCell ⟨q, 2, none⟩ (.bool B3)).setCell ⟨q, 3, none⟩ (.slice mo mn mc)).heap.size) (fun b h1 h2 => ⟨by have := h2.1; omega, h1⟩))
  clear hst hsk
  have b0 := blk_cell HB4.out (k := 0) (u := .int .i64 A1.1) rfl
  have b1 := blk_cell HB4.out (k := 1) (u := .int .i64 A2.1) rfl
  have b2 := blk_cell HB4.out (k := 2) (u := .bool B3) rfl
  have b3 := blk_cell HB4.out (k := 3) (u := .slice mo mn mc) rfl
  have z0 := blk_frozen HB4.out 0
  have z1 := blk_frozen HB4.out 1
  have z2 := blk_frozen HB4.out 2
  have z3 := blk_frozen HB4.out 3
  go_wp2_with fail
  clear b0 b1 b2 b3 z0 z1 z2 z3
  generalize (((v2.setCell ⟨q, 0, none⟩ (.int .i64 A1.1)).setCell ⟨q, 1, none⟩ (.int .i64 A2.1)).setCell ⟨q, 2, none⟩ (.bool B3)).setCell ⟨q, 3, none⟩ (.slice mo mn mc) = v3 at HST HR5 HK5 HRD5 ⊢
  have e0 := blk_cell HST.out (k := 0) (u := .int .i64 A1.1) rfl
  have e1 := blk_cell HST.out (k := 1) (u := .int .i64 A2.1) rfl
  have e2 := blk_cell HST.out (k := 2) (u := .bool B3) rfl
  have e3 := blk_cell HST.out (k := 3) (u := .slice mo mn mc) rfl
  try simp only [Exit.inBlock, Exit.then]
  refine bodyPost_ret (by simp [results, Try.results48, go_sem, e0, e1, e2, e3]; try rfl) rfl ?_
  rw [HFL.out, hq]
  exact ⟨_, rfl, HRD5.out, HR5.out, HK5.out⟩

set_option maxRecDepth 100000 in
set_option maxHeartbeats 4000000 in
theorem getListF_any {p lo : Nat} (s : Ev.St) (w : World) (h : LS p lo w s) :
    Calls Try.prog 47 #[.pointer (some ⟨p, 0, none⟩), .int .i64 8, .func (.func 48) #[] #[]] w fun r w' => ∃ v, r = .returned v ∧ RdS flE 4 w' (Iv w.heap.size w'.heap.size) v (Dl.row 8 Dl.flR s).1 ∧ LS p lo w' (Dl.row 8 Dl.flR s).2 ∧ Kp p (p + 1) w w' := by
  have HC := Lib.hid (ls_cnt 8 s w h)
  have HMV := Lib.hid (fun (s : Ev.St) W (h : LS p lo W s) => getField_any s W h)
  have hpw := h.lt
  have HRW : Hid (Dl.row 8 Dl.flR s = Dl.rep Dl.flR (Dl.cn 8 s).1.toNat (Dl.cn 8 s).2) := rfl
  have hcr := Dl.cn_range 8 (by decide) s
  clear h
  go_enter Try.func47, Try.ntmps47
  go_wp2_with fail
  refine HC.out.mono ?_
  rintro r w1 ⟨rfl, hr1, hk1⟩
  generalize Dl.cn 8 s = C at hr1 HRW hcr ⊢
  obtain ⟨N, hN⟩ : ∃ N : Nat, C.1 = (N : Int) := ⟨C.1.toNat, by omega⟩
  have hN8 : N ≤ 8 := by omega
  rw [hN, Int.toNat_natCast] at HRW
  rw [hN]
  have hmM : (Instr.makeSlice 40 (.int .i64 (N : Int)) (.int .i64 (N : Int))).run Try.prog w1 = .ok (.slice (some ⟨w1.heap.size, 0, none⟩) N N) (w1.alloc (.cells (madeCells #[.int .i64 0, .int .i64 0, .bool false, .slice none 0 0] (N * 4)) 45)) := by
    obtain ⟨im, hi, hz0, hz1, hz2⟩ := info_parts info_flD
    have h := run_make (P := Try.prog) w1 40 45 im _ Try.underlying40 hi hz0 .i64 .i64 (N : Int) (N : Int) (by omega) (by omega) (by rw [hz2]; omega) (by omega)
    rw [hz1] at h
    simp only [Int.toNat_natCast] at h
    exact h
  have HM : Hid (RowW flE 4 45 (w1.alloc (.cells (madeCells #[.int .i64 0, .int .i64 0, .bool false, .slice none 0 0] (N * 4)) 45)) (fun b => w1.heap.size < b) w1.heap.size N []) := RowW.made (blk_one w1 _) rfl (Nat.lt_irrefl _)
  have HR := Lib.hid (hr1.keep0 ((Kp.refl _ _ _).alloc (.cells (madeCells #[.int .i64 0, .int .i64 0, .bool false, .slice none 0 0] (N * 4)) 45)))
  have HK : Hid (Kp p (p + 1) w (w1.alloc (.cells (madeCells #[.int .i64 0, .int .i64 0, .bool false, .slice none 0 0] (N * 4)) 45))) := hk1.alloc _
  have HG : Hid (w.heap.size ≤ w1.heap.size) := hk1.size
  clear hr1 hk1
  go_wp2_with fail
  have HPG : Hid (p < w1.heap.size) := Nat.lt_of_lt_of_le hpw HG.out
  clear hmM hcr hN
  generalize w1.alloc (.cells (madeCells #[.int .i64 0, .int .i64 0, .bool false, .slice none 0 0] (N * 4)) 45) = w2 at HM HR HK ⊢
  generalize w1.heap.size = g at HM HG HPG ⊢
  generalize C.2 = s1 at HR HRW
  go_loopw [8, 15] (fun _ i wr => ∃ k : Nat, k ≤ N ∧ i = .int .i64 k ∧ RowW flE 4 45 wr (fun b => g < b) g N (Dl.rep Dl.flR k s1).1 ∧ LS p lo wr (Dl.rep Dl.flR k s1).2 ∧ Kp p (p + 1) w wr) (fun _ i _ => N - (intOf i).toNat)
  case atStart => exact ⟨0, Nat.zero_le _, rfl, HM.out, HR.out, HK.out⟩
  case round =>
    obtain ⟨k, hk, rfl, hrow, hr, hkp⟩ := hrel
    have HRk := Lib.hid hrow
    have HLk := Lib.hid hr
    have HKk := Lib.hid hkp
    have HLEN : Hid ((Dl.rep Dl.flR k s1).1.length = k) := Dl.rep_len _ _ _
    clear hrow hr hkp
    by_cases hlt : k < N
    · have HSN := Lib.hid (Dl.rep_snoc Dl.flR k s1)
      generalize Dl.rep Dl.flR k s1 = nk at *
      obtain ⟨ds, st⟩ := nk
      simp only at HRk HLk HSN HLEN
      have k0 : (0 : Int) ≤ (k : Int) := Int.natCast_nonneg _
      have k1 : (k : Int) < (N : Int) := by omega
      go_wp2_with fail
      refine (HMV.out _ _ HLk.out).mono ?_
      rintro r u1 ⟨mv, rfl, hrd, hr1, hk1⟩
      simp only [fieldV]
      have hgw := HRk.out.lt
      have HRD := Lib.hid (hrd.wide mvE_good (by decide) (T := fun b => g < b) (fun b _ hb => by have := hb.1; show g < b; omega))
      obtain ⟨mo, mc, rfl, _, _, _⟩ := hrd.open
      have HR1 := Lib.hid (HRk.out.keep flE_good hk1 (.inr (by have := HPG.out; omega)) (fun b (hb : g < b) => .inr (by have := HPG.out; omega)))
      clear hrd hgw
      have HL1 := Lib.hid hr1
      have HK1 := Lib.hid (HKk.out.trans hk1)
      clear hr1 hk1
      obtain ⟨d0, a0, z0⟩ := HR1.out.at HLEN.out hlt (j := 0) (by decide)
      obtain ⟨d1, a1, z1⟩ := HR1.out.at HLEN.out hlt (j := 1) (by decide)
      obtain ⟨d2, a2, z2⟩ := HR1.out.at HLEN.out hlt (j := 2) (by decide)
      obtain ⟨d3, a3, z3⟩ := HR1.out.at HLEN.out hlt (j := 3) (by decide)
      simp only [Nat.add_zero] at a0 z0
      generalize Dl.flR st = M at *
      obtain ⟨hw4, hk4⟩ := HR1.out.set4 flE_good HLEN.out hlt (.int .i64 M.1.k) (.int .i64 M.1.p) (.bool M.1.b) (.slice mo M.1.ms.length mc) (x := M.1) ⟨_, rfl, HRD.out⟩
      have HW4 := Lib.hid hw4
      have HL4 := Lib.hid (HL1.out.keep hk4 HPG.out)
      have HK4 := Lib.hid (HK1.out.step hk4 (fun j h1 h2 => .inl (by have := HG.out; omega)))
      clear hw4 hk4
      go_wp2_with fail
      refine ⟨⟨k + 1, by omega, by go_num, ?_, ?_, HK4.out⟩, by simp [intOf]; omega⟩
      · rw [HSN.out]; exact HW4.out
      · rw [HSN.out]; exact HL4.out
    · obtain rfl : k = N := by omega
      have k2 : ¬ (k : Int) < (k : Int) := by omega
      go_wp2_with fail
      go_returns
      rw [HRW.out]
      exact ⟨_, rfl, HRk.out.rd flE_good HLEN.out (fun b hb (h : g < b) => ⟨by have := HG.out; omega, hb⟩) ⟨HG.out, HRk.out.lt⟩ (by omega), HLk.out, HKk.out⟩

set_option maxRecDepth 100000 in
set_option maxHeartbeats 4000000 in
theorem getType_any {p lo : Nat} (s : Ev.St) (w : World) (h : LS p lo w s) :
    Calls Try.prog 29 #[.pointer (some ⟨p, 0, none⟩)] w fun r w' => ∃ fv, r = .returned (.agg #[fv]) ∧ RdS flE 4 w' (Iv w.heap.size w'.heap.size) fv (Dl.tyR s).1 ∧ LS p lo w' (Dl.tyR s).2 ∧ Kp p (p + 1) w w' := by
  have hty : Dl.tyR s = Dl.row 8 Dl.flR s := rfl
  rw [hty]
  clear hty
  generalize hr : Dl.row 8 Dl.flR s = R
  have hpw := h.lt
  have HB := Lib.hid (blk_one w (.cells #[.slice none 0 0] 42))
  have HK : Hid (Kp 0 0 w (w.alloc (.cells #[.slice none 0 0] 42))) := (Kp.refl _ _ _).alloc _
  have HL0 := getListF_any s _ (h.keep0 HK.out)
  rw [hr] at HL0
  have HL := Lib.hid HL0
  clear HL0 hr h
  go_enter Try.func29, Try.ntmps29
  go_upto_region 1 with fail
  generalize w.alloc (.cells #[.slice none 0 0] 42) = w0 at HB HK HL ⊢
  generalize hq : w.heap.size = q at HB hpw ⊢
  go_wp2_with fail
  refine HL.out.mono ?_
  rintro r w1 ⟨v, rfl, hrd, hr1, hk1⟩
  have hq1 : q < w0.heap.size := heap_lt HB.out
  have hb := hk1.heap HB.out (.inr (by omega))
  have a0 := blk_cell hb (k := 0) (u := .slice none 0 0) rfl
  have z0 := blk_frozen hb 0
  have hks := kp_set w1 q 0 v
  have HB2 : Hid ((w1.setCell ⟨q, 0, none⟩ v).heap[q]? = some (.cells #[v] 42 (0, 0))) := blk_set hb 0 _
  have HR2 := Lib.hid (hr1.keep hks (by omega))
  have HK2 := Lib.hid ((HK.out.any.trans hk1).step hks (fun j h1 h2 => .inl (by omega)))
  have HRD := Lib.hid (hrd.keep flE_good hks (fun b hb => .inr (by have := hb.1; omega)))
  have HSZ := Lib.hid hks.size
  obtain ⟨o, c, rfl, _, _, _⟩ := hrd.open
  clear hrd hr1 hk1 hb hks
  go_upto_region 2 with fail
  clear a0 z0
  generalize w1.setCell ⟨q, 0, none⟩ (.slice o R.1.length c) = w2 at HB2 HR2 HK2 HRD HSZ ⊢
  have a0 := blk_cell HB2.out (k := 0) (u := .slice o R.1.length c) rfl
  have z0 := blk_frozen HB2.out 0
  have hks := kp_set w2 q 0 (.slice o R.1.length c)
  have HST : Hid ((w2.setCell ⟨q, 0, none⟩ (.slice o R.1.length c)).heap[q]? = some (.cells #[.slice o R.1.length c] 42 (0, 0))) := blk_set HB2.out 0 _
  have HR3 := Lib.hid (HR2.out.keep hks (by omega))
  have HK3 := Lib.hid (HK2.out.step hks (fun j h1 h2 => .inl (by omega)))
  have HRD3 := Lib.hid ((HRD.out.keep flE_good hks (fun b hb => .inr (by have := hb.1; omega))).wide flE_good (by decide) (T := Iv q (w2.setCell ⟨q, 0, none⟩ (.slice o R.1.length c)).heap.size) (fun b h1 h2 => ⟨by have := h2.1; omega, h1⟩))
  clear hks hq1
  go_wp2_with fail
  clear a0 z0
  generalize w2.setCell ⟨q, 0, none⟩ (.slice o R.1.length c) = w3 at HST HR3 HK3 HRD3 ⊢
  have e0 := blk_cell HST.out (k := 0) (u := .slice o R.1.length c) rfl
  try simp only [Exit.inBlock, Exit.then]
  refine bodyPost_ret (by simp [results, Try.results29, go_sem, e0]; try rfl) rfl ?_
  rw [hq]
  exact ⟨_, rfl, HRD3.out, HR3.out, HK3.out⟩

set_option maxRecDepth 100000 in
set_option maxHeartbeats 4000000 in
theorem getListT_any {p lo : Nat} (s : Ev.St) (w : World) (h : LS p lo w s) :
    Calls Try.prog 28 #[.pointer (some ⟨p, 0, none⟩), .int .i64 8, .func (.func 29) #[] #[]] w fun r w' => ∃ v, r = .returned v ∧ RdS tyE 1 w' (Iv w.heap.size w'.heap.size) v (Dl.row 8 Dl.tyR s).1 ∧ LS p lo w' (Dl.row 8 Dl.tyR s).2 ∧ Kp p (p + 1) w w' := by
  have HC := Lib.hid (ls_cnt 8 s w h)
  have HMV := Lib.hid (fun (s : Ev.St) W (h : LS p lo W s) => getType_any s W h)
  have hpw := h.lt
  have HRW : Hid (Dl.row 8 Dl.tyR s = Dl.rep Dl.tyR (Dl.cn 8 s).1.toNat (Dl.cn 8 s).2) := rfl
  have hcr := Dl.cn_range 8 (by decide) s
  clear h
  go_enter Try.func28, Try.ntmps28
  go_wp2_with fail
  refine HC.out.mono ?_
  rintro r w1 ⟨rfl, hr1, hk1⟩
  generalize Dl.cn 8 s = C at hr1 HRW hcr ⊢
  obtain ⟨N, hN⟩ : ∃ N : Nat, C.1 = (N : Int) := ⟨C.1.toNat, by omega⟩
  have hN8 : N ≤ 8 := by omega
  rw [hN, Int.toNat_natCast] at HRW
  rw [hN]
  have hmM : (Instr.makeSlice 22 (.int .i64 (N : Int)) (.int .i64 (N : Int))).run Try.prog w1 = .ok (.slice (some ⟨w1.heap.size, 0, none⟩) N N) (w1.alloc (.cells (madeCells #[.slice none 0 0] N) 42)) := by
    obtain ⟨im, hi, hz0, hz1, hz2⟩ := info_parts info_tyD
    have h := run_make (P := Try.prog) w1 22 42 im _ Try.underlying22 hi hz0 .i64 .i64 (N : Int) (N : Int) (by omega) (by omega) (by rw [hz2]; omega) (by omega)
    rw [hz1] at h
    simp only [Int.toNat_natCast, Nat.mul_one] at h
    exact h
  have HM : Hid (RowW tyE 1 42 (w1.alloc (.cells (madeCells #[.slice none 0 0] N) 42)) (fun b => w1.heap.size < b) w1.heap.size N []) := RowW.made (blk_one w1 _) (by omega) (Nat.lt_irrefl _)
  have HR := Lib.hid (hr1.keep0 ((Kp.refl _ _ _).alloc (.cells (madeCells #[.slice none 0 0] N) 42)))
  have HK : Hid (Kp p (p + 1) w (w1.alloc (.cells (madeCells #[.slice none 0 0] N) 42))) := hk1.alloc _
  have HG : Hid (w.heap.size ≤ w1.heap.size) := hk1.size
  clear hr1 hk1
  go_wp2_with fail
  have HPG : Hid (p < w1.heap.size) := Nat.lt_of_lt_of_le hpw HG.out
  clear hmM hcr hN
  generalize w1.alloc (.cells (madeCells #[.slice none 0 0] N) 42) = w2 at HM HR HK ⊢
  generalize w1.heap.size = g at HM HG HPG ⊢
  generalize C.2 = s1 at HR HRW
  go_loopw [8, 15] (fun _ i wr => ∃ k : Nat, k ≤ N ∧ i = .int .i64 k ∧ RowW tyE 1 42 wr (fun b => g < b) g N (Dl.rep Dl.tyR k s1).1 ∧ LS p lo wr (Dl.rep Dl.tyR k s1).2 ∧ Kp p (p + 1) w wr) (fun _ i _ => N - (intOf i).toNat)
  case atStart => exact ⟨0, Nat.zero_le _, rfl, HM.out, HR.out, HK.out⟩
  case round =>
    obtain ⟨k, hk, rfl, hrow, hr, hkp⟩ := hrel
    have HRk := Lib.hid hrow
    have HLk := Lib.hid hr
    have HKk := Lib.hid hkp
    have HLEN : Hid ((Dl.rep Dl.tyR k s1).1.length = k) := Dl.rep_len _ _ _
    clear hrow hr hkp
    by_cases hlt : k < N
    · have HSN := Lib.hid (Dl.rep_snoc Dl.tyR k s1)
      generalize Dl.rep Dl.tyR k s1 = nk at *
      obtain ⟨ds, st⟩ := nk
      simp only at HRk HLk HSN HLEN
      have k0 : (0 : Int) ≤ (k : Int) := Int.natCast_nonneg _
      have k1 : (k : Int) < (N : Int) := by omega
      go_wp2_with fail
      refine (HMV.out _ _ HLk.out).mono ?_
      rintro r u1 ⟨mv, rfl, hrd, hr1, hk1⟩
      have hgw := HRk.out.lt
      have HRD := Lib.hid (hrd.wide flE_good (by decide) (T := fun b => g < b) (fun b _ hb => by have := hb.1; show g < b; omega))
      obtain ⟨mo, mc, rfl, _, _, _⟩ := hrd.open
      have HR1 := Lib.hid (HRk.out.keep tyE_good hk1 (.inr (by have := HPG.out; omega)) (fun b (hb : g < b) => .inr (by have := HPG.out; omega)))
      clear hrd hgw
      have HL1 := Lib.hid hr1
      have HK1 := Lib.hid (HKk.out.trans hk1)
      clear hr1 hk1
      obtain ⟨d0, a0, z0⟩ := HR1.out.at HLEN.out hlt (j := 0) (by decide)
      simp only [Nat.add_zero, Nat.mul_one] at a0 z0
      generalize Dl.tyR st = M at *
      obtain ⟨hw4, hk4⟩ := And.intro (HR1.out.set1 tyE_good HLEN.out hlt (.slice mo M.1.length mc) (x := M.1) ⟨_, rfl, HRD.out⟩) (kp_set _ g k (.slice mo M.1.length mc))
      have HW4 := Lib.hid hw4
      have HL4 := Lib.hid (HL1.out.keep hk4 HPG.out)
      have HK4 := Lib.hid (HK1.out.step hk4 (fun j h1 h2 => .inl (by have := HG.out; omega)))
      clear hw4 hk4
      go_wp2_with fail
      refine ⟨⟨k + 1, by omega, by go_num, ?_, ?_, HK4.out⟩, by simp [intOf]; omega⟩
      · rw [HSN.out]; exact HW4.out
      · rw [HSN.out]; exact HL4.out
    · obtain rfl : k = N := by omega
      have k2 : ¬ (k : Int) < (k : Int) := by omega
      go_wp2_with fail
      go_returns
      rw [HRW.out]
      exact ⟨_, rfl, HRk.out.rd tyE_good HLEN.out (fun b hb (h : g < b) => ⟨by have := HG.out; omega, hb⟩) ⟨HG.out, HRk.out.lt⟩ (by omega), HLk.out, HKk.out⟩

theorem store_five {W : World} {q : Nat} {zs : Array Value} {e : TypeId} (h : W.heap[q]? = some (.cells zs e (0, 0))) (hz : zs.size = 5) (v0 v1 v2 v3 v4 : Value) :
    (((((W.setCell ⟨q, 0, none⟩ v0).setCell ⟨q, 1, none⟩ v1).setCell ⟨q, 2, none⟩ v2).setCell ⟨q, 3, none⟩ v3).setCell ⟨q, 4, none⟩ v4).heap[q]? = some (.cells #[v0, v1, v2, v3, v4] e (0, 0)) ∧ Kp q (q + 1) W (((((W.setCell ⟨q, 0, none⟩ v0).setCell ⟨q, 1, none⟩ v1).setCell ⟨q, 2, none⟩ v2).setCell ⟨q, 3, none⟩ v3).setCell ⟨q, 4, none⟩ v4) := by
  have e1 : (((((zs.setIfInBounds 0 v0).setIfInBounds 1 v1).setIfInBounds 2 v2).setIfInBounds 3 v3).setIfInBounds 4 v4) = #[v0, v1, v2, v3, v4] := by
    obtain ⟨l⟩ := zs
    match l, hz with
    | [_, _, _, _, _], _ => simp
  have s4 := set_at (set_at (set_at (set_at (set_at h v0 (p := 0)) v1 (p := 1)) v2 (p := 2)) v3 (p := 3)) v4 (p := 4)
  rw [e1] at s4
  exact ⟨s4, ((((kp_set _ _ _ _).trans (kp_set _ _ _ _)).trans (kp_set _ _ _ _)).trans (kp_set _ _ _ _)).trans (kp_set _ _ _ _)⟩

set_option maxRecDepth 100000 in
set_option maxHeartbeats 4000000 in
theorem getProj_any {p lo : Nat} (s : Ev.St) (w : World) (h : LS p lo w s) :
    Calls Try.prog 31 #[.pointer (some ⟨p, 0, none⟩)] w fun r w' => r = .returned (.agg #[.int .i64 (Dl.pjR s).1.t, .int .i64 (Dl.pjR s).1.f, .int .i64 (Dl.pjR s).1.g, .int .i64 (Dl.pjR s).1.b, .int .i64 (Dl.pjR s).1.m]) ∧ LS p lo w' (Dl.pjR s).2 ∧ Kp p (p + 1) w w' := by
  have HI := Lib.hid (fun (s : Ev.St) W (h : LS p lo W s) => ls_int s W h)
  have hpw := h.lt
  have HMV : Hid (Dl.pjR s = (⟨(Ev.i1 s).1, (Ev.i1 (Ev.i1 s).2).1, (Ev.i1 (Ev.i1 (Ev.i1 s).2).2).1, (Ev.i1 (Ev.i1 (Ev.i1 (Ev.i1 s).2).2).2).1, (Ev.i1 (Ev.i1 (Ev.i1 (Ev.i1 (Ev.i1 s).2).2).2).2).1⟩, (Ev.i1 (Ev.i1 (Ev.i1 (Ev.i1 (Ev.i1 s).2).2).2).2).2)) := rfl
  have HB1 := Lib.hid (blk_one w (.cells #[.int .i64 0, .int .i64 0, .int .i64 0, .int .i64 0, .int .i64 0] 51))
  have HK0 : Hid (Kp 0 0 w (w.alloc (.cells #[.int .i64 0, .int .i64 0, .int .i64 0, .int .i64 0, .int .i64 0] 51))) := (Kp.refl _ _ _).alloc _
  have HR0 := Lib.hid (h.keep0 HK0.out)
  clear h
  go_enter Try.func31, Try.ntmps31
  go_upto_region 1 with fail
  generalize w.alloc (.cells #[.int .i64 0, .int .i64 0, .int .i64 0, .int .i64 0, .int .i64 0] 51) = w0 at HK0 HB1 HR0 ⊢
  generalize hq : w.heap.size = q at HB1 hpw ⊢
  go_wp2_with fail
  refine (HI.out _ _ HR0.out).mono ?_
  rintro r w1 ⟨rfl, hr1, hk1⟩
  go_wp2_with fail
  refine (HI.out _ _ hr1).mono ?_
  rintro r w2 ⟨rfl, hr2, hk2⟩
  generalize Ev.i1 s = A1 at hr1 hr2 HMV ⊢
  generalize Ev.i1 A1.2 = A2 at hr2 HMV ⊢
  have hb1 := hk2.heap (hk1.heap HB1.out (.inr (by omega))) (.inr (by omega))
  have hs1 := set_at (p := 0) hb1 (.int .i64 A1.1)
  have hs2 := set_at (p := 1) hs1 (.int .i64 A2.1)
  have f1 := blk_frozen hb1 0
  have f2 := blk_frozen hs1 1
  have c1 := blk_cell hb1 (k := 0) (u := .int .i64 0) rfl
  have c2 := blk_cell hs1 (k := 1) (u := .int .i64 0) rfl
  have hkk : Kp q (q + 1) w2 ((w2.setCell ⟨q, 0, none⟩ (.int .i64 A1.1)).setCell ⟨q, 1, none⟩ (.int .i64 A2.1)) := (kp_set _ _ _ _).trans (kp_set _ _ _ _)
  have HR2 := Lib.hid (hr2.keep hkk (by omega))
  have HB12 : Hid (((w2.setCell ⟨q, 0, none⟩ (.int .i64 A1.1)).setCell ⟨q, 1, none⟩ (.int .i64 A2.1)).heap[q]? = some (.cells #[.int .i64 A1.1, .int .i64 A2.1, .int .i64 0, .int .i64 0, .int .i64 0] 51 (0, 0))) := hs2
  have HK2 : Hid (Kp p (p + 1) w ((w2.setCell ⟨q, 0, none⟩ (.int .i64 A1.1)).setCell ⟨q, 1, none⟩ (.int .i64 A2.1))) := ((HK0.out.any.trans hk1).trans hk2).step hkk (fun j h1 h2 => .inl (by omega))
  clear hr1 hr2 hk1 hk2 hb1 hs1 hs2 hkk HB1 HK0 HR0
  go_upto_region 2 with fail
  clear f1 f2 c1 c2
  generalize (w2.setCell ⟨q, 0, none⟩ (.int .i64 A1.1)).setCell ⟨q, 1, none⟩ (.int .i64 A2.1) = v0 at HR2 HB12 HK2 ⊢
  go_wp2_with fail
  refine (HI.out _ _ HR2.out).mono ?_
  rintro r w3 ⟨rfl, hr1, hk1⟩
  go_wp2_with fail
  refine (HI.out _ _ hr1).mono ?_
  rintro r w4 ⟨rfl, hr2, hk2⟩
  generalize Ev.i1 A2.2 = A3 at hr1 hr2 HMV ⊢
  generalize Ev.i1 A3.2 = A4 at hr2 HMV ⊢
  have hb1 := hk2.heap (hk1.heap HB12.out (.inr (by omega))) (.inr (by omega))
  have hs1 := set_at (p := 2) hb1 (.int .i64 A3.1)
  have hs2 := set_at (p := 3) hs1 (.int .i64 A4.1)
  have f1 := blk_frozen hb1 2
  have f2 := blk_frozen hs1 3
  have c1 := blk_cell hb1 (k := 2) (u := .int .i64 0) rfl
  have c2 := blk_cell hs1 (k := 3) (u := .int .i64 0) rfl
  have hkk : Kp q (q + 1) w4 ((w4.setCell ⟨q, 2, none⟩ (.int .i64 A3.1)).setCell ⟨q, 3, none⟩ (.int .i64 A4.1)) := (kp_set _ _ _ _).trans (kp_set _ _ _ _)
  have HR4 := Lib.hid (hr2.keep hkk (by omega))
  have HB14 : Hid (((w4.setCell ⟨q, 2, none⟩ (.int .i64 A3.1)).setCell ⟨q, 3, none⟩ (.int .i64 A4.1)).heap[q]? = some (.cells #[.int .i64 A1.1, .int .i64 A2.1, .int .i64 A3.1, .int .i64 A4.1, .int .i64 0] 51 (0, 0))) := hs2
  have HK4 : Hid (Kp p (p + 1) w ((w4.setCell ⟨q, 2, none⟩ (.int .i64 A3.1)).setCell ⟨q, 3, none⟩ (.int .i64 A4.1))) := ((HK2.out.trans hk1).trans hk2).step hkk (fun j h1 h2 => .inl (by omega))
  clear hr1 hr2 hk1 hk2 hb1 hs1 hs2 hkk HB12 HK2 HR2
  go_upto_region 3 with fail
  clear f1 f2 c1 c2
  generalize (w4.setCell ⟨q, 2, none⟩ (.int .i64 A3.1)).setCell ⟨q, 3, none⟩ (.int .i64 A4.1) = v1 at HR4 HB14 HK4 ⊢
  go_wp2_with fail
  refine (HI.out _ _ HR4.out).mono ?_
  rintro r w5 ⟨rfl, hr1, hk1⟩
  generalize Ev.i1 A4.2 = A5 at hr1 HMV ⊢
  have hb1 := hk1.heap HB14.out (.inr (by omega))
  have f1 := blk_frozen hb1 4
  have c1 := blk_cell hb1 (k := 4) (u := .int .i64 0) rfl
  have hkk := kp_set w5 q 4 (.int .i64 A5.1)
  have HR6 := Lib.hid (hr1.keep hkk (by omega))
  have HB16 : Hid ((w5.setCell ⟨q, 4, none⟩ (.int .i64 A5.1)).heap[q]? = some (.cells #[.int .i64 A1.1, .int .i64 A2.1, .int .i64 A3.1, .int .i64 A4.1, .int .i64 A5.1] 51 (0, 0))) := set_at (p := 4) hb1 (.int .i64 A5.1)
  have HK6 : Hid (Kp p (p + 1) w (w5.setCell ⟨q, 4, none⟩ (.int .i64 A5.1))) := (HK4.out.trans hk1).step hkk (fun j h1 h2 => .inl (by omega))
  clear hr1 hk1 hb1 hkk HB14 HK4 HR4
  go_upto_region 4 with fail
  clear f1 c1
  generalize w5.setCell ⟨q, 4, none⟩ (.int .i64 A5.1) = v2 at HR6 HB16 HK6 ⊢
  obtain ⟨hst, hsk⟩ := store_five HB16.out rfl (.int .i64 A1.1) (.int .i64 A2.1) (.int .i64 A3.1) (.int .i64 A4.1) (.int .i64 A5.1)
  have HST := Lib.hid hst
  have HR7 := Lib.hid (HR6.out.keep hsk (by omega))
  have HK7 := Lib.hid (HK6.out.step hsk (fun j h1 h2 => .inl (by omega)))
  clear hst hsk
  have b0 := blk_cell HB16.out (k := 0) (u := .int .i64 A1.1) rfl
  have b1 := blk_cell HB16.out (k := 1) (u := .int .i64 A2.1) rfl
  have b2 := blk_cell HB16.out (k := 2) (u := .int .i64 A3.1) rfl
  have b3 := blk_cell HB16.out (k := 3) (u := .int .i64 A4.1) rfl
  have b4 := blk_cell HB16.out (k := 4) (u := .int .i64 A5.1) rfl
  have z0 := blk_frozen HB16.out 0
  have z1 := blk_frozen HB16.out 1
  have z2 := blk_frozen HB16.out 2
  have z3 := blk_frozen HB16.out 3
  have z4 := blk_frozen HB16.out 4
  go_wp2_with fail
  clear b0 b1 b2 b3 b4 z0 z1 z2 z3 z4
  generalize ((((v2.setCell ⟨q, 0, none⟩ (.int .i64 A1.1)).setCell ⟨q, 1, none⟩ (.int .i64 A2.1)).setCell ⟨q, 2, none⟩ (.int .i64 A3.1)).setCell ⟨q, 3, none⟩ (.int .i64 A4.1)).setCell ⟨q, 4, none⟩ (.int .i64 A5.1) = v3 at HST HR7 HK7 ⊢
  have e0 := blk_cell HST.out (k := 0) (u := .int .i64 A1.1) rfl
  have e1 := blk_cell HST.out (k := 1) (u := .int .i64 A2.1) rfl
  have e2 := blk_cell HST.out (k := 2) (u := .int .i64 A3.1) rfl
  have e3 := blk_cell HST.out (k := 3) (u := .int .i64 A4.1) rfl
  have e4 := blk_cell HST.out (k := 4) (u := .int .i64 A5.1) rfl
  try simp only [Exit.inBlock, Exit.then]
  refine bodyPost_ret (by simp [results, Try.results31, go_sem, e0, e1, e2, e3, e4]; try rfl) rfl ?_
  rw [HMV.out]
  exact ⟨rfl, HR7.out, HK7.out⟩

set_option maxRecDepth 100000 in
set_option maxHeartbeats 4000000 in
theorem getListP_any {p lo : Nat} (s : Ev.St) (w : World) (h : LS p lo w s) :
    Calls Try.prog 30 #[.pointer (some ⟨p, 0, none⟩), .int .i64 8, .func (.func 31) #[] #[]] w fun r w' => ∃ v, r = .returned v ∧ RdS pjE 5 w' (Iv w.heap.size w'.heap.size) v (Dl.row 8 Dl.pjR s).1 ∧ LS p lo w' (Dl.row 8 Dl.pjR s).2 ∧ Kp p (p + 1) w w' := by
  have HC := Lib.hid (ls_cnt 8 s w h)
  have HMV := Lib.hid (fun (s : Ev.St) W (h : LS p lo W s) => getProj_any s W h)
  have hpw := h.lt
  have HRW : Hid (Dl.row 8 Dl.pjR s = Dl.rep Dl.pjR (Dl.cn 8 s).1.toNat (Dl.cn 8 s).2) := rfl
  have hcr := Dl.cn_range 8 (by decide) s
  clear h
  go_enter Try.func30, Try.ntmps30
  go_wp2_with fail
  refine HC.out.mono ?_
  rintro r w1 ⟨rfl, hr1, hk1⟩
  generalize Dl.cn 8 s = C at hr1 HRW hcr ⊢
  obtain ⟨N, hN⟩ : ∃ N : Nat, C.1 = (N : Int) := ⟨C.1.toNat, by omega⟩
  have hN8 : N ≤ 8 := by omega
  rw [hN, Int.toNat_natCast] at HRW
  rw [hN]
  have hmM : (Instr.makeSlice 23 (.int .i64 (N : Int)) (.int .i64 (N : Int))).run Try.prog w1 = .ok (.slice (some ⟨w1.heap.size, 0, none⟩) N N) (w1.alloc (.cells (madeCells #[.int .i64 0, .int .i64 0, .int .i64 0, .int .i64 0, .int .i64 0] (N * 5)) 51)) := by
    obtain ⟨im, hi, hz0, hz1, hz2⟩ := info_parts info_pjD
    have h := run_make (P := Try.prog) w1 23 51 im _ Try.underlying23 hi hz0 .i64 .i64 (N : Int) (N : Int) (by omega) (by omega) (by rw [hz2]; omega) (by omega)
    rw [hz1] at h
    simp only [Int.toNat_natCast] at h
    exact h
  have HM : Hid (RowW pjE 5 51 (w1.alloc (.cells (madeCells #[.int .i64 0, .int .i64 0, .int .i64 0, .int .i64 0, .int .i64 0] (N * 5)) 51)) (fun _ => False) w1.heap.size N []) := RowW.made (blk_one w1 _) rfl (fun h => h)
  have HR := Lib.hid (hr1.keep0 ((Kp.refl _ _ _).alloc (.cells (madeCells #[.int .i64 0, .int .i64 0, .int .i64 0, .int .i64 0, .int .i64 0] (N * 5)) 51)))
  have HK : Hid (Kp p (p + 1) w (w1.alloc (.cells (madeCells #[.int .i64 0, .int .i64 0, .int .i64 0, .int .i64 0, .int .i64 0] (N * 5)) 51))) := hk1.alloc _
  have HG : Hid (w.heap.size ≤ w1.heap.size) := hk1.size
  clear hr1 hk1
  go_wp2_with fail
  have HPG : Hid (p < w1.heap.size) := Nat.lt_of_lt_of_le hpw HG.out
  clear hmM hcr hN
  generalize w1.alloc (.cells (madeCells #[.int .i64 0, .int .i64 0, .int .i64 0, .int .i64 0, .int .i64 0] (N * 5)) 51) = w2 at HM HR HK ⊢
  generalize w1.heap.size = g at HM HG HPG ⊢
  generalize C.2 = s1 at HR HRW
  go_loopw [8, 15] (fun _ i wr => ∃ k : Nat, k ≤ N ∧ i = .int .i64 k ∧ RowW pjE 5 51 wr (fun _ => False) g N (Dl.rep Dl.pjR k s1).1 ∧ LS p lo wr (Dl.rep Dl.pjR k s1).2 ∧ Kp p (p + 1) w wr) (fun _ i _ => N - (intOf i).toNat)
  case atStart => exact ⟨0, Nat.zero_le _, rfl, HM.out, HR.out, HK.out⟩
  case round =>
    obtain ⟨k, hk, rfl, hrow, hr, hkp⟩ := hrel
    have HRk := Lib.hid hrow
    have HLk := Lib.hid hr
    have HKk := Lib.hid hkp
    have HLEN : Hid ((Dl.rep Dl.pjR k s1).1.length = k) := Dl.rep_len _ _ _
    clear hrow hr hkp
    by_cases hlt : k < N
    · have HSN := Lib.hid (Dl.rep_snoc Dl.pjR k s1)
      generalize Dl.rep Dl.pjR k s1 = nk at *
      obtain ⟨ds, st⟩ := nk
      simp only at HRk HLk HSN HLEN
      have k0 : (0 : Int) ≤ (k : Int) := Int.natCast_nonneg _
      have k1 : (k : Int) < (N : Int) := by omega
      go_wp2_with fail
      refine (HMV.out _ _ HLk.out).mono ?_
      rintro r u1 ⟨rfl, hr1, hk1⟩
      have HR1 := Lib.hid (HRk.out.keep pjE_good hk1 (.inr (by have := HPG.out; omega)) (fun _ h => h.elim))
      have HL1 := Lib.hid hr1
      have HK1 := Lib.hid (HKk.out.trans hk1)
      clear hr1 hk1
      obtain ⟨d0, a0, z0⟩ := HR1.out.at HLEN.out hlt (j := 0) (by decide)
      obtain ⟨d1, a1, z1⟩ := HR1.out.at HLEN.out hlt (j := 1) (by decide)
      obtain ⟨d2, a2, z2⟩ := HR1.out.at HLEN.out hlt (j := 2) (by decide)
      obtain ⟨d3, a3, z3⟩ := HR1.out.at HLEN.out hlt (j := 3) (by decide)
      obtain ⟨d4, a4, z4⟩ := HR1.out.at HLEN.out hlt (j := 4) (by decide)
      simp only [Nat.add_zero] at a0 z0
      generalize Dl.pjR st = M at *
      obtain ⟨hw4, hk4⟩ := HR1.out.set5 pjE_good HLEN.out hlt (.int .i64 M.1.t) (.int .i64 M.1.f) (.int .i64 M.1.g) (.int .i64 M.1.b) (.int .i64 M.1.m) (x := M.1) rfl
      have HW4 := Lib.hid hw4
      have HL4 := Lib.hid (HL1.out.keep hk4 HPG.out)
      have HK4 := Lib.hid (HK1.out.step hk4 (fun j h1 h2 => .inl (by have := HG.out; omega)))
      clear hw4 hk4
      go_wp2_with fail
      refine ⟨⟨k + 1, by omega, by go_num, ?_, ?_, HK4.out⟩, by simp [intOf]; omega⟩
      · rw [HSN.out]; exact HW4.out
      · rw [HSN.out]; exact HL4.out
    · obtain rfl : k = N := by omega
      have k2 : ¬ (k : Int) < (k : Int) := by omega
      go_wp2_with fail
      go_returns
      rw [HRW.out]
      exact ⟨_, rfl, HRk.out.rd pjE_good HLEN.out (fun _ _ h => h.elim) ⟨HG.out, HRk.out.lt⟩ (by omega), HLk.out, HKk.out⟩

theorem LS.keepLow {p lo a b : Nat} {w w' : World} {s : Ev.St} (h : LS p lo w s) (hk : Kp a b w w') (hb : b ≤ lo) : LS p lo w' s := ⟨h.rd.keep hk (fun _ _ _ => .inr (by omega)) h.hlp, h.bs, h.hlp⟩

set_option maxRecDepth 100000 in
set_option maxHeartbeats 4000000 in
theorem dgetOk : DGetOk (fun _ => True) := by
  intro l1 h1 L w v hv hby hL _
  have HDN := Lib.hid (fun p lo (s : Ev.St) W (h : LS p lo W s) => ls_done s W h)
  have HT := Lib.hid (fun p lo (s : Ev.St) W (h : LS p lo W s) => getListT_any s W h)
  have HP := Lib.hid (fun p lo (s : Ev.St) W (h : LS p lo W s) => getListP_any s W h)
  have HGT : Hid (Dl.get L = if Dl.err L = 0 then ((Dl.dcR (L, 0)).1, 0) else (⟨[], []⟩, Dl.err L)) := rfl
  have HER : Hid (Dl.err L = Pk.dne (Dl.dcR (L, 0)).2.1 (Dl.dcR (L, 0)).2.2) := rfl
  have HDC : Hid (Dl.dcR (L, 0) = (⟨(Dl.row 8 Dl.tyR (L, 0)).1, (Dl.row 8 Dl.pjR (Dl.row 8 Dl.tyR (L, 0)).2).1⟩, (Dl.row 8 Dl.pjR (Dl.row 8 Dl.tyR (L, 0)).2).2)) := rfl
  have HB2 := Lib.hid (blk_old (blk_one w (.cells #[.slice none 0 0, .slice none 0 0] 25)) (.cells #[.slice none 0 0, .slice none 0 0] 25))
  have HA := Lib.hid (blk_two w (.cells #[.slice none 0 0, .slice none 0 0] 25) (.cells #[.slice none 0 0, .slice none 0 0] 25))
  have HK0 : Hid (Kp 0 0 w ((w.alloc (.cells #[.slice none 0 0, .slice none 0 0] 25)).alloc (.cells #[.slice none 0 0, .slice none 0 0] 25))) := ((Kp.refl _ _ _).alloc _).alloc _
  have HF := Lib.hid (ls_from v L _ (hv.keep0 HK0.out) hby (by omega))
  obtain ⟨vo, vc, rfl, _, _, _⟩ := hv.open
  clear hv hby
  go_enter Try.func14, Try.ntmps14
  go_upto_region 2 with fail
  generalize (w.alloc (.cells #[.slice none 0 0, .slice none 0 0] 25)).alloc (.cells #[.slice none 0 0, .slice none 0 0] 25) = w0 at HB2 HA HK0 HF ⊢
  generalize hq : w.heap.size = q at HB2 HA ⊢
  have hd0 : q + 1 < w0.heap.size := heap_lt HA.out
  go_wp2_with fail
  refine HF.out.mono ?_
  rintro r w2 ⟨p, rfl, hp, hr, hk⟩
  have hlo : p < w2.heap.size := hr.lt
  have HA0 := Lib.hid (hk.heap HA.out (.inr (Nat.zero_le _)))
  have HB20 := Lib.hid (hk.heap HB2.out (.inr (Nat.zero_le _)))
  have HR2 := Lib.hid hr
  have HK2 := Lib.hid (HK0.out.trans hk)
  clear hr hk HF HK0 HA HB2
  generalize w0.heap.size = lo at hd0 hp HR2
  obtain ⟨d, hd⟩ : ∃ d, d = q + 1 := ⟨_, rfl⟩
  rw [← hd] at hd0 HA0
  go_upto_region 3 with fail
  rw [← hd]
  have hqd : q < d := by omega
  clear hd
  have hd2 : d < w2.heap.size := heap_lt HA0.out
  go_wp2_with fail
  refine (HT.out _ _ _ _ HR2.out).mono ?_
  rintro r w3 ⟨tv, rfl, hrt, hr, hk⟩
  generalize Dl.row 8 Dl.tyR (L, 0) = R1 at hrt hr HDC
  have ha := hk.heap HA0.out (.inl (by omega))
  have hb := hk.heap HB20.out (.inl (by omega))
  have y0 := blk_cell ha (k := 0) (u := .slice none 0 0) rfl
  have x0 := blk_frozen ha 0
  have hks := kp_set w3 d 0 tv
  have HA3 : Hid ((w3.setCell ⟨d, 0, none⟩ tv).heap[d]? = some (.cells #[tv, .slice none 0 0] 25 (0, 0))) := blk_set ha 0 _
  have HB3 := Lib.hid (hks.heap hb (.inl (by omega)))
  have HR3 := Lib.hid (hr.keepLow hks (by omega))
  have HT3 := Lib.hid ((hrt.keep tyE_good hks (fun b hb => .inr (by have := hb.1; omega))).wide tyE_good (by decide) (T := fun b => p < b) (fun b _ hb => by have := hb.1; show p < b; omega))
  have HK3 := Lib.hid ((HK2.out.step hk (fun j h1 h2 => .inl (by omega))).step hks (fun j h1 h2 => .inl (by omega)))
  obtain ⟨to, tc, rfl, _, _, _⟩ := hrt.open
  have hsz3 := hks.size
  have hkz := hk.size
  clear hrt hr hk ha hb hks HA0 HB20 HR2 HK2
  go_upto_region 4 with fail
  clear y0 x0
  generalize w3.setCell ⟨d, 0, none⟩ (.slice to R1.1.length tc) = w4 at HA3 HB3 HR3 HT3 HK3 hsz3 ⊢
  go_wp2_with fail
  refine (HP.out _ _ _ _ HR3.out).mono ?_
  rintro r w5 ⟨pv, rfl, hrp, hr, hk⟩
  generalize Dl.row 8 Dl.pjR R1.2 = R2 at hrp hr HDC
  have ha := hk.heap HA3.out (.inl (by omega))
  have hb := hk.heap HB3.out (.inl (by omega))
  have y1 := blk_cell ha (k := 1) (u := .slice none 0 0) rfl
  have x1 := blk_frozen ha 1
  have hks := kp_set w5 d 1 pv
  have HA5 : Hid ((w5.setCell ⟨d, 1, none⟩ pv).heap[d]? = some (.cells #[.slice to R1.1.length tc, pv] 25 (0, 0))) := blk_set ha 1 _
  have HB5 := Lib.hid (hks.heap hb (.inl (by omega)))
  have HR5 := Lib.hid (hr.keepLow hks (by omega))
  have HT5 := Lib.hid ((HT3.out.keep tyE_good hk (fun b (hb : p < b) => .inr (by omega))).keep tyE_good hks (fun b (hb : p < b) => .inr (by omega)))
  have HP5 := Lib.hid ((hrp.keep pjE_good hks (fun b hb => .inr (by have := hb.1; omega))).wide pjE_good (by decide) (T := fun b => p < b) (fun b _ hb => by have := hb.1; show p < b; omega))
  have HK5 := Lib.hid ((HK3.out.step hk (fun j h1 h2 => .inl (by omega))).step hks (fun j h1 h2 => .inl (by omega)))
  obtain ⟨po, pc, rfl, _, _, _⟩ := hrp.open
  clear hrp hr hk ha hb hks HA3 HB3 HR3 HK3 HT3
  go_upto_region 5 with fail
  clear y1 x1
  generalize w5.setCell ⟨d, 1, none⟩ (.slice po R2.1.length pc) = w6 at HA5 HB5 HR5 HT5 HP5 HK5 ⊢
  rw [HDC.out] at HER HGT
  go_wp2_with fail
  refine (HDN.out _ _ _ _ HR5.out).mono ?_
  rintro r w7 ⟨rfl, hk⟩
  have hER := HER.out
  try simp only at hER
  rw [← hER]
  clear hER
  have HK7 := Lib.hid (HK5.out.trans hk)
  have HA7 := Lib.hid (hk.heap HA5.out (.inr (Nat.zero_le _)))
  have HB7 := Lib.hid (hk.heap HB5.out (.inr (Nat.zero_le _)))
  have HT7 := Lib.hid (HT5.out.keep0 tyE_good hk)
  have HP7 := Lib.hid (HP5.out.keep0 pjE_good hk)
  clear hk HA5 HB5 HR5 HT5 HP5 HK5 HER
  have a0 := blk_cell HB7.out (k := 0) (u := .slice none 0 0) rfl
  have a1 := blk_cell HB7.out (k := 1) (u := .slice none 0 0) rfl
  have z0 := blk_frozen HB7.out 0
  have z1 := blk_frozen HB7.out 1
  have d0 := blk_cell HA7.out (k := 0) (u := .slice to R1.1.length tc) rfl
  have d1 := blk_cell HA7.out (k := 1) (u := .slice po R2.1.length pc) rfl
  have HGT2 := HGT.out
  try simp only at HGT2
  by_cases he : Dl.err L = 0
  · rw [if_pos he] at HGT2
    rw [he]
    have HS := Lib.hid (store_two HB7.out rfl (.slice to R1.1.length tc) (.slice po R2.1.length pc))
    go_wp2_with fail
    obtain ⟨hst, hsk⟩ := HS.out
    generalize (w7.setCell ⟨q, 0, none⟩ (.slice to R1.1.length tc)).setCell ⟨q, 1, none⟩ (.slice po R2.1.length pc) = w8 at hst hsk ⊢
    have e0 := blk_cell hst (k := 0) (u := .slice to R1.1.length tc) rfl
    have e1 := blk_cell hst (k := 1) (u := .slice po R2.1.length pc) rfl
    try simp only [Exit.inBlock, Exit.then]
    refine bodyPost_ret (by simp [results, Try.results14, go_sem, e0, e1]; try rfl) rfl ?_
    rw [HGT2, hq]
    exact ⟨_, _, rfl, ⟨(HT7.out.keep tyE_good hsk (fun b (hb : p < b) => .inr (by omega))).wide tyE_good (by decide) (fun b h1 (h2 : p < b) => ⟨by omega, h1⟩), (HP7.out.keep pjE_good hsk (fun b (hb : p < b) => .inr (by omega))).wide pjE_good (by decide) (fun b h1 (h2 : p < b) => ⟨by omega, h1⟩)⟩, HK7.out.step hsk (fun j h1 h2 => .inl (by omega))⟩
  · rw [if_neg he] at HGT2
    have heb : (Dl.err L != 0) = true := bne_iff_ne.2 he
    have HS := Lib.hid (store_two HB7.out rfl (.slice none 0 0) (.slice none 0 0))
    generalize Dl.err L = er at *
    go_wp2_with fail
    obtain ⟨hst, hsk⟩ := HS.out
    generalize (w7.setCell ⟨q, 0, none⟩ (.slice none 0 0)).setCell ⟨q, 1, none⟩ (.slice none 0 0) = w8 at hst hsk ⊢
    have e0 := blk_cell hst (k := 0) (u := .slice none 0 0) rfl
    have e1 := blk_cell hst (k := 1) (u := .slice none 0 0) rfl
    try simp only [Exit.inBlock, Exit.then]
    refine bodyPost_ret (by simp [results, Try.results14, go_sem, e0, e1]; try rfl) rfl ?_
    rw [HGT2]
    exact ⟨_, _, rfl, ⟨RdS.nil _ _ _ _, RdS.nil _ _ _ _⟩, HK7.out.step hsk (fun j h1 h2 => .inl (by omega))⟩

end Go.Proofs.Ytgokhagbknlfaaa
